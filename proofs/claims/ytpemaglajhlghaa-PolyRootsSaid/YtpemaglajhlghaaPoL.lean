/- What the polynomials' laws have in common. -/
import Derived.Test.YtpemaglajhlghaaPoR5
import Derived.BigQuiet
namespace Go.Proofs.Ytpemaglajhlghaa
open Go Go.RowKit
set_option maxHeartbeats 1000000 in
theorem words_any (a b : Option Addr) (n c m d : Nat) (la lb : List (BitVec 32)) (w : World) (ha : Words32 w a n la) (hb : Words32 w b m lb) :
    Calls Try.prog 13 #[.slice a n c, .slice b m d] w fun e w' => e = .returned (.bool (decide (la = lb))) ∧ Drawn w w' := by
  have hla := ha.1
  have hlb := hb.1
  have hmx : n ≤ 9223372036854775807 := ha.2.1
  by_cases hnm : n = m
  · subst hnm
    go_enter Try.func13, Try.ntmps13
    go_wp2
    go_loopw [13] (fun i wr => ∃ k : Nat, k ≤ n ∧ i = .int .i64 k ∧ (∀ i, i < k → Po.cf la i = Po.cf lb i) ∧ Drawn w wr) (fun i _ => n - (intOf i).toNat)
    case atStart => exact ⟨0, Nat.zero_le _, rfl, fun i hi => by omega, Drawn.refl _⟩
    case round =>
      obtain ⟨k, hk, rfl, hc, hd⟩ := hrel
      have HC := Lib.hid hc
      clear hc
      by_cases hlt : k < n
      · obtain ⟨ad, rfl, hx⟩ := ha.2.2 k hlt
        obtain ⟨ad2, rfl, hy⟩ := hb.2.2 k hlt
        obtain ⟨z, hz⟩ : ∃ z, z = Po.cf la k := ⟨_, rfl⟩
        obtain ⟨y, hyz⟩ : ∃ y, y = Po.cf lb k := ⟨_, rfl⟩
        rw [show la.getD k 0 = z from hz.symm] at hx
        rw [show lb.getD k 0 = y from hyz.symm] at hy
        have hcx := ((hd.below w.heap.size).cell (isSome_lt (by rw [hx]; rfl))).trans hx
        have hcy := ((hd.below w.heap.size).cell (isSome_lt (by rw [hy]; rfl))).trans hy
        have h0 : (0 : Int) ≤ (k : Int) := by omega
        have h1 : (k : Int) < (n : Int) := by omega
        have HZ := Lib.hid (And.intro hz hyz)
        clear hz hyz hx hy
        by_cases he : z = y
        · have ht : (z != y) = false := by simp [he]
          have HE := Lib.hid he
          clear he
          go_wp2_with fail
          go_quiet (fail)
          go_wp2
          go_roundw
          case rel => exact ⟨k + 1, by omega, by go_num, fun i hi => by
            by_cases h2 : i = k
            · subst h2; rw [← HZ.out.1, ← HZ.out.2, HE.out]
            · exact HC.out i (by omega), hd.draws _⟩
          case measure => simp [intOf]; omega
        · have ht : (z != y) = true := by simp [he]
          have hf : decide (la = lb) = false := by
            rw [decide_eq_false_iff_not]
            rintro rfl
            exact he (by rw [HZ.out.1, HZ.out.2])
          have HF := Lib.hid hf
          clear he hf
          go_wp2_with fail
          go_quiet (fail)
          go_wp2
          go_ret
          exact ⟨by rw [HF.out]; rfl, hd.draws _⟩
      · obtain rfl : k = n := by omega
        have hf : decide (la = lb) = true := by
          rw [decide_eq_true_eq]
          exact Po.list_ext (by omega) fun i hi => HC.out i (by omega)
        have HF := Lib.hid hf
        clear hf
        go_wp2
        go_ret
        exact ⟨by rw [HF.out]; rfl, hd⟩
  · have hf : decide (la = lb) = false := by
      rw [decide_eq_false_iff_not]
      rintro rfl
      omega
    have ht : ((n : Int) != (m : Int)) = true := by simp; omega
    rw [hf]
    go_enter Try.func13, Try.ntmps13
    go_wp2
    go_ret
    exact ⟨rfl, Drawn.refl _⟩
theorem own_any (a : Option Addr) (n c : Nat) (la : List (BitVec 32)) (w : World) (ha : Words32 w a n la) (hc0 : a = none → c = 0) (hs : n ≤ 549755813888) :
    Calls Try.prog 10 #[.slice a n c] w fun e w' => (∃ v, e = .returned v ∧ OwnW 23 w.heap.size w' v la) ∧ Below w.heap.size w w' := by
  have hfresh := Has.fresh w 23 #[]
  have hsb : ([] : List (BitVec 32)).length + n ≤ 1099511627776 := by simp; omega
  go_enter Try.func10, Try.ntmps10
  go_wp2_with (first
    | (at_builtin; refine wpList_append_words rfl (.tmp 3) (.tmp 4) 22 rfl 23 Try.underlying22 info_word w.heap.size _ [] rfl (OwnW.empty (Nat.le_refl _) hfresh) a n c la rfl (ha.past _) hc0 hsb (by simp) ?_; intro v' w' h1 h2))
  go_ret
  exact ⟨⟨v', rfl, h1⟩, below_own_row ((Below.refl _ w).alloc (Nat.le_refl _) _) h2 (OwnW.empty (Nat.le_refl _) hfresh).lt⟩
theorem long_any (a : Option Addr) (n c : Nat) (A : Nat → Option Addr) (L C : Nat → Nat) (W : Nat → List (BitVec 32)) (w : World) (h : WRows w a n A L C W) (b : Bool) (hb : b = true ↔ ∃ i, i < n ∧ 24 < L i) :
    Calls Try.prog 9 #[.slice a n c] w fun e w' => e = .returned (.bool b) ∧ w = w' := by
  have hn := h.1
  have HB := Lib.hid hb
  clear hb
  go_enter Try.func9, Try.ntmps9
  go_wp2
  go_loop [7] (fun i => ∃ k : Nat, k ≤ n ∧ i = .int .i64 k ∧ ∀ j, j < k → L j ≤ 24) (fun i => n - (intOf i).toNat)
  case atStart => exact ⟨0, Nat.zero_le _, rfl, fun j hj => by omega⟩
  case round =>
    obtain ⟨k, hk, rfl, hc⟩ := hrel
    have HC := Lib.hid hc
    clear hc
    by_cases hlt : k < n
    · obtain ⟨⟨ad, rfl, hx⟩, hw, _⟩ := h.2 k hlt
      by_cases hL : 24 < L k
      · have hL2 : (24 : Int) < (L k : Int) := by omega
        have HF := Lib.hid (HB.out.2 ⟨k, hlt, hL⟩)
        go_wp2
        go_ret
        exact ⟨by rw [HF.out]; rfl, rfl⟩
      · have hL2 : ¬ (24 : Int) < (L k : Int) := by omega
        go_wp2
        go_round
        case rel => exact ⟨k + 1, by omega, by go_num, fun j hj => by
          by_cases h2 : j = k
          · subst h2; omega
          · exact HC.out j (by omega)⟩
        case measure => simp [intOf]; omega
    · obtain rfl : k = n := by omega
      have hf : b = false := by
        cases b with
        | false => rfl
        | true =>
          obtain ⟨i, hi, h2⟩ := HB.out.1 rfl
          have := HC.out i hi
          omega
      have HF := Lib.hid hf
      clear hf
      go_wp2
      go_ret
      exact ⟨by rw [HF.out]; rfl, rfl⟩
theorem words_three (w : World) (x y z : BitVec 32) (t : TypeId) : Words32 (w.alloc (.cells #[.int .u32 (nb32 x), .int .u32 (nb32 y), .int .u32 (nb32 z)] t)) (some ⟨w.heap.size, 0, none⟩) 3 [x, y, z] :=
  ⟨rfl, by unfold maxLen; omega, fun i hi => ⟨_, rfl, by
    rw [Addr.add_mid, (Has.fresh w t _).cell]
    rcases i with _ | _ | _ | i
    · rfl
    · rfl
    · rfl
    · omega⟩⟩
theorem alive_any (w : World) :
    Calls Try.prog 8 #[] w fun e w' => e = .returned (.bool true) ∧ Below w.heap.size w w' := by
  have hex : Po.fromL [1#32, 2#32] = [2#32, 3#32, 1#32] := by decide +kernel
  have hf : decide (Po.fromL [1#32, 2#32] = [2#32, 3#32, 1#32]) = true := by rw [decide_eq_true_eq]; exact hex
  have hsb : (2 : Nat) ≤ 1073741824 := by omega
  have HF := Lib.hid hf
  clear hf hex
  go_enter Try.func8, Try.ntmps8
  go_wp2_with (first
    | (go_at_call 34; refine (from_any (some ⟨w.heap.size, 0, none⟩) 2 2 [1#32, 2#32] _ (words_two w 1#32 2#32 23) hsb).mono ?_; rintro e w1 ⟨⟨v, rfl, hv⟩, hb1⟩; obtain ⟨va, vc, rfl, hvc, hvw⟩ := hv.slice)
    | (go_at_call 13; refine (words_any va _ _ vc 3 3 (Po.fromL [1#32, 2#32]) [2#32, 3#32, 1#32] _ (hvw.past _) (words_three w1 2#32 3#32 1#32 23)).mono ?_; rintro e w2 ⟨rfl, hd⟩))
  go_ret
  refine ⟨by rw [HF.out]; rfl, ?_⟩
  have hb2 : Below w.heap.size w w1 := ((Below.refl _ w).alloc (Nat.le_refl _) _).trans (hb1.mono (by simp))
  exact (hb2.alloc hb2.size _).trans (hd.below _)
theorem is_range (w : World) :
    Calls Try.prog 31 #[errRange, .int .i64 1] w fun e w' => e = .returned (.bool true) ∧ w = w' := by
  unfold errRange
  have hta : ∀ w : World, (Instr.typeAssert (.iface 42 (.int .i64 1)) 36 42 true).run Try.prog w = .ok (.tuple #[.int .i64 1, .bool true]) w := fun w => by kernel_rfl
  go_enter Try.func31, Try.ntmps31
  go_wp2_with go_in
  go_ret
  exact ⟨rfl, rfl⟩
end Go.Proofs.Ytpemaglajhlghaa
