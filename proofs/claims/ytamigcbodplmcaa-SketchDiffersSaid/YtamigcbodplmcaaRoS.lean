/- law04's sorted -/
import Derived.Test.YtamigcbodplmcaaRows
import Derived.Test.YtamigcbodplmcaaRoA
namespace Go.Proofs.Ytamigcbodplmcaa
open Go Go.RowKit Go.ChangeShapes Go.WideShapes
theorem insert_list (o : List (BitVec 32)) (k : Nat) (x : BitVec 32) (hk : k ≤ o.length) : (putL (o ++ [0]) (k + 1) (o.drop k)).set k x = o.take k ++ x :: o.drop k := by
  obtain ⟨A, B, rfl, rfl⟩ : ∃ A B, o = A ++ B ∧ k = A.length := ⟨o.take k, o.drop k, (List.take_append_drop k o).symm, by rw [List.length_take]; omega⟩
  rw [List.drop_left, List.take_left]
  obtain ⟨b, R, hR⟩ : ∃ b R, B ++ [(0 : BitVec 32)] = b :: R := by
    cases B with
    | nil => exact ⟨0, [], rfl⟩
    | cons b B => exact ⟨b, B ++ [0], rfl⟩
  have hl : R.length = B.length := by
    have := congrArg List.length hR
    simp at this
    omega
  have h := putL_app B (A ++ [b]) R (by omega)
  rw [List.append_assoc A B, hR, show A ++ b :: R = A ++ [b] ++ R from by simp, show A.length + 1 = (A ++ [b]).length from by simp, h]
  rw [List.drop_of_length_le (by omega), List.append_nil, List.append_assoc, List.set_append_right _ _ (Nat.le_refl _), Nat.sub_self]
  rfl
theorem Po.Srt.insert {o : List (BitVec 32)} {k : Nat} {x : BitVec 32} (hs : Po.Srt o) (h1 : ∀ a, a ∈ o.take k → a.toNat < x.toNat) (h2 : ∀ a, a ∈ o.drop k → x.toNat < a.toNat) : Po.Srt (o.take k ++ x :: o.drop k) := by
  have hs' := hs
  rw [← List.take_append_drop k o] at hs'
  obtain ⟨g1, g2, g3⟩ := List.pairwise_append.1 hs'
  refine List.pairwise_append.2 ⟨g1, List.pairwise_cons.2 ⟨h2, g2⟩, fun a ha b hb => ?_⟩
  rcases List.mem_cons.1 hb with e | e
  · rw [e]; exact h1 a ha
  · exact g3 a ha b e
theorem Po.Srt.after {o : List (BitVec 32)} {k : Nat} {x : BitVec 32} (hs : Po.Srt o) (hk : k < o.length) (hx : x.toNat < (o.getD k 0).toNat) : ∀ a, a ∈ o.drop k → x.toNat < a.toNat := by
  intro a ha
  rw [List.drop_eq_getElem_cons hk] at ha
  have he : o.getD k 0 = o[k] := by rw [List.getD_eq_getElem?_getD, List.getElem?_eq_getElem hk]; rfl
  rw [he] at hx
  rcases List.mem_cons.1 ha with e | e
  · rw [e]; exact hx
  · have hs' := hs
    rw [← List.take_append_drop k o, List.drop_eq_getElem_cons hk] at hs'
    have := (List.pairwise_cons.1 (List.pairwise_append.1 hs').2.1).1 a e
    omega
theorem list8 {vs : List Value} (h : vs.length = 8) : ∃ a b c d e f g i, vs = [a, b, c, d, e, f, g, i] := by
  match vs, h with
  | [a, b, c, d, e, f, g, i], _ => exact ⟨a, b, c, d, e, f, g, i, rfl⟩
/-- elements, rising, each once -/
structure Po.Set (q l : List (BitVec 32)) : Prop where
  srt : Po.Srt q
  mem : ∀ a, a ∈ q ↔ a ∈ l
theorem Po.Set.unique {q r l : List (BitVec 32)} (h : Po.Set q l) (h' : Po.Set r l) : q = r := h.srt.ext h'.srt fun a => by rw [h.mem, h'.mem]
theorem take_mem {l : List (BitVec 32)} {k : Nat} {x : BitVec 32} (h : ∀ j, j < k → j < l.length → (l.getD j 0).toNat < x.toNat) : ∀ a, a ∈ l.take k → a.toNat < x.toNat := by
  intro a ha
  obtain ⟨j, hj, e⟩ := List.getElem_of_mem ha
  rw [List.length_take] at hj
  have := h j (by omega) (by omega)
  rw [List.getElem_take] at e
  rw [List.getD_eq_getElem?_getD, List.getElem?_eq_getElem (by omega)] at this
  rw [← e]
  exact this
theorem Po.Set.more {q l : List (BitVec 32)} {i k : Nat} {x : BitVec 32} (h : Po.Set q (l.take i)) (ht : l.take (i + 1) = l.take i ++ [x]) (hs : Po.Srt (q.take k ++ x :: q.drop k)) : Po.Set (q.take k ++ x :: q.drop k) (l.take (i + 1)) := by
  refine ⟨hs, fun a => ?_⟩
  rw [ht, List.mem_append, List.mem_append, List.mem_cons, List.mem_singleton, ← h.mem]
  have h1 : a ∈ q ↔ a ∈ q.take k ∨ a ∈ q.drop k := by
    constructor
    · intro ha
      rw [← List.take_append_drop k q] at ha
      exact List.mem_append.1 ha
    · rintro (ha | ha)
      · exact List.mem_of_mem_take ha
      · exact List.mem_of_mem_drop ha
  rw [h1]
  constructor
  · rintro (e | e | e)
    · exact Or.inl (Or.inl e)
    · exact Or.inr e
    · exact Or.inl (Or.inr e)
  · rintro ((e | e) | e)
    · exact Or.inl e
    · exact Or.inr (Or.inr e)
    · exact Or.inr (Or.inl e)
theorem Po.Set.same {q l : List (BitVec 32)} {i : Nat} {x : BitVec 32} (h : Po.Set q (l.take i)) (ht : l.take (i + 1) = l.take i ++ [x]) (hx : x ∈ q) : Po.Set q (l.take (i + 1)) := by
  refine ⟨h.srt, fun a => ?_⟩
  rw [ht, List.mem_append, List.mem_singleton, ← h.mem]
  constructor
  · exact Or.inl
  · rintro (e | e)
    · exact e
    · rw [e]; exact hx
end Go.Proofs.Ytamigcbodplmcaa
