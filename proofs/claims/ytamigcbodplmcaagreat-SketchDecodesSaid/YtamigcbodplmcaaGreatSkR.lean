/- the reference's same, Of, goes -/
import Derived.Test.YtamigcbodplmcaaGreatSkM
import Derived.Test.YtamigcbodplmcaaGreatPz
import Derived.Test.YtamigcbodplmcaaGreatWe
import Derived.Test.YtamigcbodplmcaaGreatGz
import Derived.BigQuiet
import Derived.StillTailTactics
namespace Go.Proofs.YtamigcbodplmcaaGreat
open Go Go.RowKit Go.ChangeShapes Go.WideShapes
theorem rsame_any (a b : Option Addr) (n c m d : Nat) (la lb : List (BitVec 32)) (w : World) (ha : Words32 w a n la) (hb : Words32 w b m lb) :
    Calls Tryz.prog 18 #[.slice a n c, .slice b m d] w fun e w' => e = .returned (.bool (decide (la = lb))) ∧ Drawn w w' := by
  have hla := ha.1
  have hlb := hb.1
  have hmx : n ≤ 9223372036854775807 := ha.2.1
  by_cases hnm : n = m
  · subst hnm
    go_enter Tryz.func18, Tryz.ntmps18
    go_wp2
    go_loopw [5] (fun i wr => ∃ k : Nat, k ≤ n ∧ i = .int .i64 k ∧ (∀ i, i < k → Po.cf la i = Po.cf lb i) ∧ Drawn w wr) (fun i _ => n - (intOf i).toNat)
    case atStart => exact ⟨0, Nat.zero_le _, rfl, fun i hi => by omega, Drawn.refl _⟩
    case round =>
      obtain ⟨k, hk, rfl, hc, hd⟩ := hrel
      have HC := Lib.hid hc
      clear hc
      by_cases hlt : k < n
      · obtain ⟨ad, rfl, hx⟩ := ha.2.2 k hlt
        obtain ⟨ad2, rfl, hy⟩ := hb.2.2 k hlt
        obtain ⟨z, hz⟩ : ∃ z, z = Po.cf la k := ⟨_, rfl⟩
        obtain ⟨y, hyz⟩ : ∃ y, y = Po.cf lb k := ⟨_, rfl⟩
        rw [show la.getD k 0 = z from hz.symm] at hx
        rw [show lb.getD k 0 = y from hyz.symm] at hy
        have hcx := ((hd.below w.heap.size).cell (isSome_lt (by rw [hx]; rfl))).trans hx
        have hcy := ((hd.below w.heap.size).cell (isSome_lt (by rw [hy]; rfl))).trans hy
        have h0 : (0 : Int) ≤ (k : Int) := by omega
        have h1 : (k : Int) < (n : Int) := by omega
        have HZ := Lib.hid (And.intro hz hyz)
        clear hz hyz hx hy
        by_cases he : z = y
        · have ht : (z != y) = false := by simp [he]
          have HE := Lib.hid he
          clear he
          go_wp2_with fail
          go_quiet (fail)
          go_wp2
          go_roundw
          case rel => exact ⟨k + 1, by omega, by go_num, fun i hi => by
            by_cases h2 : i = k
            · subst h2; rw [← HZ.out.1, ← HZ.out.2, HE.out]
            · exact HC.out i (by omega), hd.draws _⟩
          case measure => simp [intOf]; omega
        · have ht : (z != y) = true := by simp [he]
          have hf : decide (la = lb) = false := by
            rw [decide_eq_false_iff_not]
            rintro rfl
            exact he (by rw [HZ.out.1, HZ.out.2])
          have HF := Lib.hid hf
          clear he hf
          go_wp2_with fail
          go_quiet (fail)
          go_wp2
          go_ret
          exact ⟨by rw [HF.out]; rfl, hd.draws _⟩
      · obtain rfl : k = n := by omega
        have hf : decide (la = lb) = true := by
          rw [decide_eq_true_eq]
          exact Po.list_ext (by omega) fun i hi => HC.out i (by omega)
        have HF := Lib.hid hf
        clear hf
        go_wp2
        go_ret
        exact ⟨by rw [HF.out]; rfl, hd⟩
  · have hf : decide (la = lb) = false := by
      rw [decide_eq_false_iff_not]
      rintro rfl
      omega
    have ht : ((n : Int) != (m : Int)) = true := by simp; omega
    rw [hf]
    go_enter Tryz.func18, Tryz.ntmps18
    go_wp2
    go_ret
    exact ⟨rfl, Drawn.refl _⟩
/-- the sums of odd powers -/
def Sk.syn (c : Nat) (A : List (BitVec 32)) : List (BitVec 32) := Po.mk c (fun k => Sk.ps A (2 * k + 1))
theorem Sk.ps_snoc {l : List (BitVec 32)} {i k : Nat} (h : i < l.length) : Sk.ps (l.take (i + 1)) k = Sk.ps (l.take i) k ^^^ Gf.pow (Po.cf l i) k := by
  rw [Po.take_snoc h]
  unfold Sk.ps
  rw [Sk.S_append]
  congr 1
  show Gf.pow (l.getD i 0) k ^^^ 0 = _
  exact Po.xz _
set_option maxRecDepth 100000 in
set_option maxHeartbeats 2000000 in
theorem rof_any (C n c : Nat) (a : Option Addr) (l : List (BitVec 32)) (w : World) (h : Words32 w a n l) (hC : C ≤ 1000) :
    Calls Tryz.prog 19 #[.int .i64 C, .slice a n c] w fun e w' => (∃ v, e = .returned v ∧ OwnW 40 w.heap.size w' v (Sk.syn C l)) ∧ Below w.heap.size w w' := by
  have hl := h.1
  have hmx : n ≤ 9223372036854775807 := h.2.1
  go_enter Tryz.func19, Tryz.ntmps19
  go_wp2
  go_loopw [5, 6] (fun vo kv wr => ∃ k : Nat, k ≤ C ∧ kv = .int .i64 k ∧ OwnW 40 w.heap.size wr vo (Sk.syn k l) ∧ Below w.heap.size w wr) (fun _ kv _ => C - (intOf kv).toNat)
  case atStart => exact ⟨0, Nat.zero_le _, rfl, OwnW.nil _ _ _, Below.refl _ _⟩
  case round =>
    obtain ⟨k, hk, rfl, hown, hb⟩ := hrel
    have hlen : (Sk.syn k l).length = k := Po.mk_length _ _
    by_cases hlt : k < C
    · have hw1 : IntKind.i64.wrap (2 * (k : Int)) = 2 * (k : Int) := IntWalk.i64_in _ (by omega)
      have hw2 : IntKind.i64.wrap (2 * (k : Int) + 1) = 2 * (k : Int) + 1 := IntWalk.i64_in _ (by omega)
      have hw3 : IntKind.u64.wrap (2 * (k : Int) + 1) = nb64 (BitVec.ofNat 64 (2 * k + 1)) := by rw [← u64_lit (2 * k + 1) (by omega), IntKind.wrap_u64]; omega
      go_wp2
      rename World => wA
      go_loop [7, 8] (fun xv iv => ∃ i : Nat, i ≤ n ∧ iv = .int .i64 i ∧ xv = .int .u32 (nb32 (Sk.ps (l.take i) (2 * k + 1)))) (fun _ iv => n - (intOf iv).toNat)
      case atStart => exact ⟨0, Nat.zero_le _, rfl, rfl⟩
      case round =>
        obtain ⟨i, hi, rfl, rfl⟩ := hrel
        by_cases hlti : i < n
        · obtain ⟨ad, rfl, hx⟩ := (h.below hb).2.2 i hlti
          obtain ⟨x, hxe⟩ : ∃ x, x = l.getD i 0 := ⟨_, rfl⟩
          rw [← hxe] at hx
          have hst : Sk.ps (l.take (i + 1)) (2 * k + 1) = Sk.ps (l.take i) (2 * k + 1) ^^^ powQ x (BitVec.ofNat 64 (2 * k + 1)) := by
            rw [Sk.ps_snoc (by omega), hxe]
            unfold powQ
            rw [BitVec.toNat_ofNat, Nat.mod_eq_of_lt (by omega)]
            rfl
          have HS := Lib.hid hst
          clear hst hxe
          generalize Sk.ps (l.take i) (2 * k + 1) = s0 at HS ⊢
          go_wp2_with (first | (go_at_call 37; refine (rpower_any x _ (BitVec.ofNat 64 (2 * k + 1)) (Nat.le_refl _) _).mono ?_; rintro e w1 ⟨rfl, rfl⟩))
          go_round
          case rel => exact ⟨i + 1, by omega, by go_num, by rw [HS.out]⟩
          case measure => (simp [intOf]; try omega)
        · have hin : l.take i = l := List.take_of_length_le (by omega)
          have hii : ¬ (i : Int) < (n : Int) := by omega
          rw [hin]
          clear hin
          have hle : (Sk.syn k l).length + 1 ≤ 1099511627776 := by omega
          go_wp2_with (first
            | (at_builtin; refine wpList_append_word rfl (.tmp 31) (.tmp 33) 22 rfl 40 Tryz.underlying22 info_word w.heap.size _ (Sk.syn k l) rfl hown (Sk.ps l (2 * k + 1)) rfl hle hb.size ?_; intro v' w2 h2 h3))
          go_roundw
          case rel => exact ⟨k + 1, by omega, by go_num, own_snoc h2 rfl, below_own_row (hb.alloc hb.size _) h3 hown.lt⟩
          case measure => (simp [intOf]; try omega)
    · obtain rfl : k = C := by omega
      go_wp2
      go_ret
      exact ⟨⟨_, rfl, hown⟩, hb⟩
set_option maxRecDepth 100000 in
set_option maxHeartbeats 2000000 in
theorem rgoes5_any (a b : Option Addr) (n c m d : Nat) (la lb : List (BitVec 32)) (w : World) (ha : Words32 w a n la) (hb : Words32 w b m lb) (hn : n ≤ 1000) (hm : m ≤ 1000) (r : Bool)
    (hr : r = true ↔ ∀ i, 2 * m ≤ i → i < n → Po.cf la i ^^^ Ms.dotN (Po.cf lb) (fun j => Po.cf la (i - 1 - j)) m = 0) :
    Calls Tryz.prog 22 #[.slice a n c, .slice b m d] w fun e w' => e = .returned (.bool r) ∧ Drawn w w' := by
  have hla := ha.1
  have hlb := hb.1
  have HR := Lib.hid hr
  clear hr
  have hmw : IntKind.i64.wrap (2 * (m : Int)) = 2 * (m : Int) := IntWalk.i64_in _ (by omega)
  go_enter Tryz.func22, Tryz.ntmps22
  go_wp2
  go_loopw [5] (fun iv wr => ∃ i : Nat, 2 * m ≤ i ∧ iv = .int .i64 i ∧ (i ≤ n ∨ i = 2 * m) ∧ RowKit.Hid (∀ t, 2 * m ≤ t → t < i → Po.cf la t ^^^ Ms.dotN (Po.cf lb) (fun j => Po.cf la (t - 1 - j)) m = 0) ∧ Drawn w wr) (fun iv _ => n - (intOf iv).toNat)
  case atStart => exact ⟨2 * m, Nat.le_refl _, by go_num, Or.inr rfl, Lib.hid (fun t h1 h2 => by omega), Drawn.refl _⟩
  case round =>
    obtain ⟨i, hi1, rfl, hi2, HA, hd⟩ := hrel
    by_cases hlt : i < n
    · obtain ⟨ad, rfl, hx⟩ := ha.2.2 i hlt
      obtain ⟨x0, hx0⟩ : ∃ x0, x0 = la.getD i 0 := ⟨_, rfl⟩
      rw [← hx0] at hx
      have hcx := ((hd.below w.heap.size).cell (isSome_lt (by rw [hx]; rfl))).trans hx
      have HX := Lib.hid hx0
      clear hx0 hx
      have hi3 : (i : Int) < (n : Int) := by omega
      go_wp2
      rename World => wA
      go_loopw [6, 7] (fun xv jv wr => ∃ j : Nat, 1 ≤ j ∧ j ≤ m + 1 ∧ jv = .int .i64 j ∧ xv = .int .u32 (nb32 (x0 ^^^ Ms.dotN (Po.cf lb) (fun t => Po.cf la (i - 1 - t)) (j - 1))) ∧ Drawn w wr) (fun _ jv _ => m + 1 - (intOf jv).toNat)
      case atStart => exact ⟨1, Nat.le_refl _, by omega, rfl, by show _ = Value.int .u32 (nb32 (x0 ^^^ 0)); rw [show x0 ^^^ (0 : Po.E) = x0 from Po.xz _], hd⟩
      case round =>
        obtain ⟨j, hj1, hj2, rfl, rfl, hd2⟩ := hrel
        by_cases hltj : j ≤ m
        · obtain ⟨p, hp⟩ : ∃ p, p = j - 1 := ⟨_, rfl⟩
          obtain ⟨q, hq⟩ : ∃ q, q = i - j := ⟨_, rfl⟩
          have hpm : p < m := by omega
          have hqn : q < n := by omega
          obtain ⟨bd, rfl, hy⟩ := hb.2.2 p hpm
          obtain ⟨_, e, hz⟩ := ha.2.2 q hqn
          injection e with e
          subst e
          obtain ⟨y, hye⟩ : ∃ y, y = lb.getD p 0 := ⟨_, rfl⟩
          obtain ⟨z, hze⟩ : ∃ z, z = la.getD q 0 := ⟨_, rfl⟩
          rw [← hye] at hy
          rw [← hze] at hz
          have hcy := ((hd2.below w.heap.size).cell (isSome_lt (by rw [hy]; rfl))).trans hy
          have hcz := ((hd2.below w.heap.size).cell (isSome_lt (by rw [hz]; rfl))).trans hz
          have hjw : IntKind.i64.wrap ((j : Int) - 1) = (p : Int) := by rw [IntWalk.i64_in _ (by omega)]; omega
          have hjw2 : (j : Int) - 1 = (p : Int) := by omega
          have hijw : IntKind.i64.wrap ((i : Int) - (j : Int)) = (q : Int) := by rw [IntWalk.i64_in _ (by omega)]; omega
          have hijw2 : (i : Int) - (j : Int) = (q : Int) := by omega
          have hp0 : (0 : Int) ≤ (p : Int) := by omega
          have hq0 : (0 : Int) ≤ (q : Int) := by omega
          have hpm' : (p : Int) < (m : Int) := by omega
          have hqn' : (q : Int) < (n : Int) := by omega
          have hjm : (j : Int) ≤ (m : Int) := by omega
          have hst : x0 ^^^ Ms.dotN (Po.cf lb) (fun t => Po.cf la (i - 1 - t)) (j + 1 - 1) = (x0 ^^^ Ms.dotN (Po.cf lb) (fun t => Po.cf la (i - 1 - t)) (j - 1)) ^^^ Gf.mul y z := by
            rw [show j + 1 - 1 = (j - 1) + 1 from by omega, Ms.dotN, ← BitVec.xor_assoc, ← hp, hye, hze, show i - 1 - p = q from by omega]
            rfl
          have HS := Lib.hid hst
          clear hst hp hq hye hze hy hz
          generalize x0 ^^^ Ms.dotN (Po.cf lb) (fun t => Po.cf la (i - 1 - t)) (j - 1) = s0 at HS ⊢
          go_wp2_with fail
          go_big_quiet (first | (go_at_call 20; refine Calls.quiet_of_same ((rmul_any _ _ _).mono fun e w' h => ⟨h.1, h.2.symm⟩)))
          go_wp2
          go_roundw
          case rel => exact ⟨j + 1, by omega, by omega, by go_num, by rw [HS.out], hd2.draws _⟩
          case measure => (simp [intOf]; try omega)
        · have hjm1 : j - 1 = m := by omega
          have hjm : ¬ (j : Int) ≤ (m : Int) := by omega
          rw [hjm1]
          clear hjm1
          obtain ⟨x, hxe⟩ : ∃ x, x = x0 ^^^ Ms.dotN (Po.cf lb) (fun t => Po.cf la (i - 1 - t)) m := ⟨_, rfl⟩
          rw [← hxe]
          by_cases hz : x = 0
          · have hxb : (x != 0#32) = false := by rw [hz]; rfl
            have HA2 : RowKit.Hid (∀ t, 2 * m ≤ t → t < i + 1 → Po.cf la t ^^^ Ms.dotN (Po.cf lb) (fun j => Po.cf la (t - 1 - j)) m = 0) := Lib.hid (fun t g1 g2 => by
              by_cases e : t = i
              · rw [e, ← hz, hxe, HX.out]; rfl
              · exact HA.out t g1 (by omega))
            clear hz hxe
            go_wp2
            go_roundw
            case rel => exact ⟨i + 1, by omega, by go_num, Or.inl (by omega), HA2, hd2⟩
            case measure => (simp [intOf]; try omega)
          · have hxb : (x != 0#32) = true := by simpa using hz
            have hrf : r = false := by
              cases hr : r
              · rfl
              · exact absurd (by rw [hxe, HX.out]; exact HR.out.1 hr i hi1 hlt) hz
            clear hz hxe
            go_wp2
            go_ret
            exact ⟨rfl, hd2⟩
    · have hii : ¬ (i : Int) < (n : Int) := by omega
      have hrt : r = true := HR.out.2 (fun t g1 g2 => HA.out t g1 (by omega))
      have HT := Lib.hid hrt
      clear hrt
      go_wp2
      go_ret
      exact ⟨by rw [HT.out]; rfl, hd⟩
end Go.Proofs.YtamigcbodplmcaaGreat
