/- the reference's solvable -/
import Derived.Test.YtamigcbodplmcaaRows
import Derived.Test.YtamigcbodplmcaaMz
import Derived.Test.YtamigcbodplmcaaGz
import Derived.Test.YtamigcbodplmcaaMt
import Derived.Test.YtamigcbodplmcaaWe
import Derived.Test.YtamigcbodplmcaaRj
import Derived.StillTailTactics
namespace Go.Proofs.Ytamigcbodplmcaa
open Go Go.RowKit Go.ChangeShapes Go.WideShapes
theorem Ms.swapR_swp (R : Nat → Nat → Po.E) (u k : Nat) : Ms.swapR R u k = fun i => R (swp u k i) := by
  funext i
  unfold Ms.swapR swp
  split
  · rfl
  · split <;> rfl
/-- while row i is cleared: j entries are done -/
def Ms.midR (R : Nat → Nat → Po.E) (u col i j : Nat) : Nat → Nat → Po.E := fun i' j' => if i' = i ∧ j' < j then Ms.elim1 (R u) (R i) col j' else Ms.elimR R u col i i' j'
theorem Ms.midR_start (R : Nat → Nat → Po.E) (u col i : Nat) : Ms.midR R u col i 0 = Ms.elimR R u col i := by
  funext i' j'
  unfold Ms.midR
  rw [if_neg (by omega)]
theorem Ms.midR_end (R : Nat → Nat → Po.E) {u col i K : Nat} (hu : u < i) : ∀ i' j', j' < K → Ms.midR R u col i K i' j' = Ms.elimR R u col (i + 1) i' j' := fun i' j' hj => by
  unfold Ms.midR Ms.elimR
  by_cases e : i' = i
  · subst e
    rw [if_pos ⟨rfl, hj⟩, if_pos ⟨hu, by omega⟩]
  · rw [if_neg (fun h => e h.1)]
    by_cases e2 : u < i' ∧ i' < i
    · rw [if_pos e2, if_pos ⟨e2.1, by omega⟩]
    · rw [if_neg e2, if_neg (by omega)]
theorem Ms.midR_u (R : Nat → Nat → Po.E) {u col i j : Nat} (hu : u < i) : Ms.midR R u col i j u = R u := by
  funext j'
  unfold Ms.midR Ms.elimR
  rw [if_neg (by omega), if_neg (by omega)]
theorem Ms.midR_i (R : Nat → Nat → Po.E) {u col i j : Nat} (j' : Nat) (hj : j ≤ j') : Ms.midR R u col i j i j' = R i j' := by
  unfold Ms.midR Ms.elimR
  rw [if_neg (by omega), if_neg (by omega)]
theorem Ms.midR_step (R : Nat → Nat → Po.E) {u col i j : Nat} (x : Po.E) (hx : x = Ms.elim1 (R u) (R i) col j) : setM (Ms.midR R u col i j) i j x = Ms.midR R u col i (j + 1) := by
  funext i' j'
  unfold setM Ms.midR
  by_cases e : i' = i
  · subst e
    by_cases e2 : j' = j
    · subst e2
      rw [if_pos ⟨rfl, rfl⟩, if_pos ⟨rfl, by omega⟩, hx]
    · rw [if_neg (fun h => e2 h.2)]
      by_cases e3 : j' < j
      · rw [if_pos ⟨rfl, e3⟩, if_pos ⟨rfl, by omega⟩]
      · rw [if_neg (fun h => e3 h.2), if_neg (by omega)]
  · rw [if_neg (fun h => e h.1), if_neg (fun h => e h.1), if_neg (fun h => e h.1)]
theorem Ms.elimR_start (R : Nat → Nat → Po.E) (u col : Nat) : Ms.elimR R u col (u + 1) = R := by
  funext i
  unfold Ms.elimR
  rw [if_neg (by omega)]
theorem info_wd : (Try.prog.info? 54).map (fun i => (i.zero, i.size, i.bytes)) = some (some (.int .u32 0), 1, 4) := by kernel_rfl
theorem info_row : (Try.prog.info? 22).map (fun i => (i.zero, i.size, i.bytes)) = some (some (.slice none 0 0), 1, 24) := by kernel_rfl
end Go.Proofs.Ytamigcbodplmcaa
