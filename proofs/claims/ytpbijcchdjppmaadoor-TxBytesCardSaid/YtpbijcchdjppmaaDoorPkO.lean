/- the reference's ReadNum: a number that is there -/
import Derived.Test.YtpbijcchdjppmaaDoorPkN
namespace Go.Proofs.YtpbijcchdjppmaaDoor
open Go Go.RowKit Go.ChangeShapes Go.WideShapes
theorem cb_from (l : List (BitVec 8)) (i j : Nat) : cb (l.drop i) j = cb l (i + j) := by
  unfold cb
  rw [List.getD_eq_getElem?_getD, List.getD_eq_getElem?_getD, List.getElem?_drop]
theorem bytes_from {w : World} {x : Addr} {n : Nat} {l : List (BitVec 8)} (h : Bytes8 w (some x) n l) (k : Nat) : Bytes8 w (some (x.add k)) (n - k) (l.drop k) := by
  refine ⟨by rw [List.length_drop, h.1], by have := h.2.1; omega, fun i hi => ?_⟩
  obtain ⟨y, hy, hc⟩ := h.2.2 (k + i) (by omega)
  cases hy
  exact ⟨_, rfl, by rw [cb_from, ← hc, Addr.add_add]⟩
theorem bytes_from_none {w : World} {n : Nat} {l : List (BitVec 8)} (h : Bytes8 w none n l) (k : Nat) : Bytes8 w none 0 (l.drop k) := by
  have h0 : n = 0 := by
    rcases Nat.eq_zero_or_pos n with h0 | h0
    · exact h0
    · obtain ⟨x, hx, _⟩ := h.2.2 0 h0
      cases hx
  refine ⟨by rw [List.length_drop, h.1, h0]; omega, by unfold maxLen; omega, fun i hi => by omega⟩
end Go.Proofs.YtpbijcchdjppmaaDoor
