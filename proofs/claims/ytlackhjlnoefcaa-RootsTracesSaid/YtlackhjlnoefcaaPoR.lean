/- The reference's polynomials. -/
import Derived.Test.YtlackhjlnoefcaaPoW6
import Derived.Test.YtlackhjlnoefcaaAp
namespace Go.Proofs.Ytlackhjlnoefcaa
open Go Go.RowKit
namespace Po
/-- l is trimmed, its coefficients are F -/
def Norm (l : List E) (F : Nat → E) : Prop := trim l = l ∧ cf l = F
theorem Norm.trim (l : List E) : Norm (trim l) (cf l) := ⟨trim_trim l, cf_trim l⟩
theorem Norm.unique {l m : List E} {F : Nat → E} (h : Norm l F) (h' : Norm m F) : l = m := by
  rw [← h.1, ← h'.1]
  exact trim_congr (h.2.trans h'.2.symm)
theorem Norm.len {l : List E} {F : Nat → E} (h : Norm l F) {n : Nat} (hn : ∀ i, n ≤ i → F i = 0) : l.length ≤ n := by
  have h1 := trim_length l
  rw [h.1] at h1
  rw [h1]
  exact len1_le_of fun i hi => by rw [h.2]; exact hn i hi
theorem Norm.len1 {l : List E} {F : Nat → E} (h : Norm l F) : Po.len1 l = l.length := by
  have h1 := trim_length l
  rw [h.1] at h1
  exact h1.symm
theorem mk_succ (k : Nat) (F : Nat → E) : mk (k + 1) F = mk k F ++ [F k] := by simp [mk, List.range_succ]
theorem cf_mk_all {n : Nat} {F : Nat → E} (h : ∀ i, n ≤ i → F i = 0) : cf (mk n F) = F := by
  funext i
  rw [cf_mk]
  split
  · rfl
  · exact (h i (by omega)).symm
theorem take_trim {l : List E} {k : Nat} (h0 : ∀ i, k ≤ i → cf l i = 0) (h1 : k ≠ 0 → cf l (k - 1) ≠ 0) : l.take k = trim l := by
  rw [trim, len1_eq h0 h1]
end Po
set_option maxHeartbeats 1000000 in
theorem rtrim_any (a : Option Addr) (n c : Nat) (l : List (BitVec 32)) (w : World) (h : Words32 w a n l) (hc : n ≤ c) (hc0 : a = none → c = 0) (hs : n ≤ 549755813888) :
    Calls Try.prog 14 #[.slice a n c] w fun e w' => (∃ v, e = .returned v ∧ Fresh 37 w.heap.size w' v (Po.trim l)) ∧ Below w.heap.size w w' := by
  have hl := h.1
  go_enter Try.func14, Try.ntmps14
  go_wp2
  go_loop [3] (fun x => ∃ k : Nat, k ≤ n ∧ x = .int .i64 k ∧ ∀ i, k ≤ i → Po.cf l i = 0) (fun x => (intOf x).toNat)
  case atStart => exact ⟨n, Nat.le_refl _, rfl, fun i hi => Po.cf_ge (by omega)⟩
  case round =>
    obtain ⟨k, hk, rfl, h0⟩ := hrel
    have fin : ∀ (h1 : k ≠ 0 → Po.cf l (k - 1) ≠ 0), l.take k = Po.trim l := fun h1 => Po.take_trim h0 h1
    have H0 := Lib.hid h0
    clear h0
    have hkc : k ≤ c := by omega
    have hfresh := Has.fresh w 37 #[]
    have hmx : n ≤ 9223372036854775807 := h.2.1
    rcases k with _ | k
    · have htr := fin (fun h => absurd rfl h)
      have HT := Lib.hid htr
      clear htr fin
      go_wp2_with (first
        | (at_builtin; refine wpList_append_words rfl (.tmp 18) (.tmp 21) 22 rfl 37 Try.underlying22 info_word w.heap.size _ [] rfl (OwnW.empty (Nat.le_refl _) hfresh) a 0 c (l.take 0) rfl ((h.take (by omega)).past _) hc0 (by simp only [List.length_nil]; omega) (by simp) ?_; intro v' w' h1 h2))
      go_ret
      refine ⟨⟨v', rfl, ?_⟩, below_own_row ((Below.refl _ w).alloc (Nat.le_refl _) _) h2 (OwnW.empty (Nat.le_refl _) hfresh).lt⟩
      rw [← HT.out]
      exact h1.fresh
    · obtain ⟨ad, rfl, hx⟩ := h.2.2 k (by omega)
      obtain ⟨z, hz⟩ : ∃ z, z = l.getD k 0 := ⟨_, rfl⟩
      rw [← hz] at hx
      have hzc : z = Po.cf l k := hz
      have hke : ((k + 1 : Nat) : Int) - 1 = (k : Int) := by omega
      have hkn : k < n := by omega
      by_cases h00 : z = 0#32
      · have ht : (z == 0#32) = true := by rw [h00]; rfl
        have H1 := Lib.hid (And.intro hz hzc)
        clear hz hzc fin
        go_wp2
        go_round
        case rel => exact ⟨k, by omega, by go_num, fun i hi => by
          by_cases h1 : i = k
          · subst h1; rw [← H1.out.2]; exact h00
          · exact H0.out i (by omega)⟩
        case measure => simp [intOf]
      · have ht : (z == 0#32) = false := by simpa using h00
        have htr := fin (fun _ => by show Po.cf l (k + 1 - 1) ≠ 0; rw [Nat.add_sub_cancel, ← hzc]; simpa using h00)
        have HT := Lib.hid htr
        clear htr fin hz hzc
        go_wp2_with (first
          | (at_builtin; refine wpList_append_words rfl (.tmp 18) (.tmp 21) 22 rfl 37 Try.underlying22 info_word w.heap.size _ [] rfl (OwnW.empty (Nat.le_refl _) hfresh) _ (k + 1) c (l.take (k + 1)) rfl ((h.take (by omega)).past _) hc0 (by simp only [List.length_nil]; omega) (by simp) ?_; intro v' w' h1 h2))
        go_ret
        refine ⟨⟨v', rfl, ?_⟩, below_own_row ((Below.refl _ w).alloc (Nat.le_refl _) _) h2 (OwnW.empty (Nat.le_refl _) hfresh).lt⟩
        rw [← HT.out]
        exact h1.fresh
theorem coefficient_any (a : Option Addr) (n c : Nat) (l : List (BitVec 32)) (i : Nat) (w : World) (h : Words32 w a n l) :
    Calls Try.prog 59 #[.slice a n c, .int .i64 (i : Int)] w fun e w' => e = .returned (.int .u32 (nb32 (Po.cf l i))) ∧ w = w' := by
  have hl := h.1
  by_cases hi : i < n
  · obtain ⟨ad, rfl, hx⟩ := h.2.2 i hi
    obtain ⟨z, hz⟩ : ∃ z, z = Po.cf l i := ⟨_, rfl⟩
    rw [show l.getD i 0 = z from hz.symm] at hx
    rw [← hz]
    clear hz
    have h1 : ¬ ((n : Int) ≤ (i : Int)) := by omega
    go_enter Try.func59, Try.ntmps59
    go_wp2
    go_ret
    exact ⟨rfl, rfl⟩
  · have h1 : (n : Int) ≤ (i : Int) := by omega
    have h0 : Po.cf l i = 0 := Po.cf_ge (by omega)
    rw [h0]
    go_enter Try.func59, Try.ntmps59
    go_wp2
    go_ret
    exact ⟨rfl, rfl⟩
end Go.Proofs.Ytlackhjlnoefcaa
