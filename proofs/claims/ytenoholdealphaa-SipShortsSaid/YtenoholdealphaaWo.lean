/- comparing slices of words -/
import Derived.Test.YtenoholdealphaaRows
import Derived.Test.YtenoholdealphaaB
import Derived.Test.YtenoholdealphaaRow
import Derived.BigQuiet
import Derived.Deep.QuietTactic
import Derived.Lib.Hide
namespace Go.Proofs.Ytenoholdealphaa
open Go Go.RowKit
theorem getD_ext {la lb : List (BitVec 32)} (h : la.length = lb.length) (he : ∀ i, i < la.length → la.getD i 0 = lb.getD i 0) : la = lb := by
  apply List.ext_getElem h
  intro i h1 h2
  have := he i h1
  rwa [List.getD_eq_getElem?_getD, List.getD_eq_getElem?_getD, List.getElem?_eq_getElem h1, List.getElem?_eq_getElem h2] at this
set_option maxHeartbeats 1000000 in
theorem words_any (a b : Option Addr) (n c m d : Nat) (la lb : List (BitVec 32)) (w : World) (ha : Words32 w a n la) (hb : Words32 w b m lb) :
    Calls Try.prog 12 #[.slice a n c, .slice b m d] w fun e w' => e = .returned (.bool (decide (la = lb))) ∧ Drawn w w' := by
  have hla := ha.1
  have hlb := hb.1
  have hmx : n ≤ 9223372036854775807 := ha.2.1
  by_cases hnm : n = m
  · subst hnm
    go_enter Try.func12, Try.ntmps12
    go_wp2
    go_loopw [13] (fun i wr => ∃ k : Nat, k ≤ n ∧ i = .int .i64 k ∧ (∀ i, i < k → la.getD i 0 = lb.getD i 0) ∧ Drawn w wr) (fun i _ => n - (intOf i).toNat)
    case atStart => exact ⟨0, Nat.zero_le _, rfl, fun i hi => by omega, Drawn.refl _⟩
    case round =>
      obtain ⟨k, hk, rfl, hc, hd⟩ := hrel
      have HC := Lib.hid hc
      clear hc
      by_cases hlt : k < n
      · obtain ⟨ad, rfl, hx⟩ := ha.2.2 k hlt
        obtain ⟨ad2, rfl, hy⟩ := hb.2.2 k hlt
        obtain ⟨z, hz⟩ : ∃ z, z = la.getD k 0 := ⟨_, rfl⟩
        obtain ⟨y, hyz⟩ : ∃ y, y = lb.getD k 0 := ⟨_, rfl⟩
        rw [show la.getD k 0 = z from hz.symm] at hx
        rw [show lb.getD k 0 = y from hyz.symm] at hy
        have hcx := ((hd.below w.heap.size).cell (isSome_lt (by rw [hx]; rfl))).trans hx
        have hcy := ((hd.below w.heap.size).cell (isSome_lt (by rw [hy]; rfl))).trans hy
        have h0 : (0 : Int) ≤ (k : Int) := by omega
        have h1 : (k : Int) < (n : Int) := by omega
        have HZ := Lib.hid (And.intro hz hyz)
        clear hz hyz hx hy
        by_cases he : z = y
        · have ht : (z != y) = false := by simp [he]
          have HE := Lib.hid he
          clear he
          go_wp2_with fail
          go_quiet (fail)
          go_wp2
          go_roundw
          case rel => exact ⟨k + 1, by omega, by go_num, fun i hi => by
            by_cases h2 : i = k
            · subst h2; rw [← HZ.out.1, ← HZ.out.2, HE.out]
            · exact HC.out i (by omega), hd.draws _⟩
          case measure => simp [intOf]; omega
        · have ht : (z != y) = true := by simp [he]
          have hf : decide (la = lb) = false := by
            rw [decide_eq_false_iff_not]
            rintro rfl
            exact he (by rw [HZ.out.1, HZ.out.2])
          have HF := Lib.hid hf
          clear he hf
          go_wp2_with fail
          go_quiet (fail)
          go_wp2
          go_ret
          exact ⟨by rw [HF.out]; rfl, hd.draws _⟩
      · obtain rfl : k = n := by omega
        have hf : decide (la = lb) = true := by
          rw [decide_eq_true_eq]
          exact getD_ext (by omega) fun i hi => HC.out i (by omega)
        have HF := Lib.hid hf
        clear hf
        go_wp2
        go_ret
        exact ⟨by rw [HF.out]; rfl, hd⟩
  · have hf : decide (la = lb) = false := by
      rw [decide_eq_false_iff_not]
      rintro rfl
      omega
    have ht : ((n : Int) != (m : Int)) = true := by simp; omega
    rw [hf]
    go_enter Try.func12, Try.ntmps12
    go_wp2
    go_ret
    exact ⟨rfl, Drawn.refl _⟩
theorem words_same (a b : Option Addr) (n c m d : Nat) (la lb : List (BitVec 32)) (w : World) (ha : Words32 w a n la) (hb : Words32 w b m lb) (h : la = lb) :
    Calls Try.prog 12 #[.slice a n c, .slice b m d] w fun e w' => e = .returned (.bool true) ∧ Drawn w w' := by
  refine (words_any a b n c m d la lb w ha hb).mono ?_
  rintro e w' ⟨rfl, hd⟩
  exact ⟨by rw [decide_eq_true h], hd⟩
end Go.Proofs.Ytenoholdealphaa
