/- (mkrd.py)  the reference's ReadNum: whatever is read -/
import Derived.Test.YtpbijcchdjppmaaRdO
namespace Go.Proofs.Ytpbijcchdjppmaa.RdS
open Go Go.RowKit Go.ChangeShapes Go.WideShapes
def NumPost (S : Nat → Prop) (w0 : World) (p : Pk.Rd × BitVec 64) (e : Ending) (w' : World) : Prop :=
  (∃ v, e = .returned (.tuple #[v, .int .u64 (nb64 p.2)]) ∧ InS S w' p.1 v) ∧ Below w0.heap.size w0 w'
theorem rreadNum_any {S : Nat → Prop} (s : Pk.Rd) (v : Value) (z : Int) (w : World) (hv : InS S w s v) :
    Calls Try.prog 43 #[v, .int .i64 z] w (NumPost S w (Pk.rdNum s z)) := by
  cases s with
  | none =>
    cases hv
    refine (rreadNum_bad none 0 0 z w).mono ?_
    rintro e w' ⟨rfl, hb⟩
    exact ⟨⟨_, rfl, rfl⟩, hb⟩
  | some B =>
    obtain ⟨a, n, c, rfl, hB, hnc, h0, hS⟩ := hv
    by_cases hz : Pk.okSize z ∧ z ≤ n
    · have hK : ∃ K : Nat, z = K := ⟨z.toNat, by have := hz.1; unfold Pk.okSize at this; omega⟩
      obtain ⟨K, rfl⟩ := hK
      have hKn : K ≤ n := by omega
      cases a with
      | none =>
        exfalso
        have := h0 rfl
        have := hz.1
        unfold Pk.okSize at this
        omega
      | some a =>
        refine (rreadNum_ok (S := S) a n c B K w hB hnc hz.1 hKn (hS a rfl)).mono ?_
        have hr : Pk.rdNum (some B) K = (some (B.drop K), Pk.leV B 0 K) := by
          show (if Pk.okSize K ∧ (K : Int) ≤ B.length then _ else _) = _
          rw [if_pos ⟨hz.1, by rw [hB.1]; exact hz.2⟩]
          rfl
        rw [hr]
        rintro e w' h
        exact h
    · refine (rreadNum_no a n c z w hz).mono ?_
      have hr : Pk.rdNum (some B) z = (none, 0) := by
        show (if Pk.okSize z ∧ z ≤ B.length then _ else _) = _
        rw [if_neg (by rw [hB.1]; exact hz)]
      rw [hr]
      rintro e w' ⟨rfl, hb⟩
      exact ⟨⟨_, rfl, rfl⟩, hb⟩
set_option maxRecDepth 100000 in
set_option maxHeartbeats 4000000 in
theorem rend_any {S : Nat → Prop} (s : Pk.Rd) (v : Value) (w : World) (hv : InS S w s v) :
    Calls Try.prog 46 #[v] w fun e w' => e = .returned (.bool (Pk.atEnd s)) ∧ Below w.heap.size w w' := by
  have hB : ∀ cs : Array Value, Below w.heap.size w (w.alloc (.cells cs 79)) := fun cs => (Below.refl _ _).alloc (Nat.le_refl _) _
  cases s with
  | none =>
    cases hv
    go_enter Try.func46, Try.ntmps46
    go_wp2
    go_ret
    exact ⟨rfl, hB _⟩
  | some B =>
    obtain ⟨a, n, c, rfl, h8, _⟩ := hv
    by_cases hn : n = 0
    · subst hn
      have he : Pk.atEnd (some B) = true := by
        cases B with
        | nil => rfl
        | cons b B => cases h8.1
      go_enter Try.func46, Try.ntmps46
      go_wp2
      go_ret
      exact ⟨by rw [he]; rfl, hB _⟩
    · have he : Pk.atEnd (some B) = false := by
        cases B with
        | nil => exact absurd h8.1.symm hn
        | cons b B => rfl
      have hn2 : ((n : Int) == 0) = false := by simp; omega
      have hn3 : ¬ ((n : Int) = 0) := by omega
      go_enter Try.func46, Try.ntmps46
      go_wp2
      go_ret
      exact ⟨by rw [he]; rfl, hB _⟩
end Go.Proofs.Ytpbijcchdjppmaa.RdS
