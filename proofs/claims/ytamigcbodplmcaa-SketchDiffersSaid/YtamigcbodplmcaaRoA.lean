/- the reference's All -/
import Derived.Test.YtamigcbodplmcaaRoR
import Derived.Test.YtamigcbodplmcaaRj
import Derived.Test.YtamigcbodplmcaaPz
import Derived.BigQuiet
namespace Go.Proofs.Ytamigcbodplmcaa
open Go Go.RowKit Go.ChangeShapes Go.WideShapes
/-- the insertion's state: x stands behind A, and what is behind it is greater -/
structure Po.Ins (o q : List (BitVec 32)) (x : BitVec 32) (A B : List (BitVec 32)) : Prop where
  q : q = A ++ x :: B
  o : o = A ++ B
  gt : ∀ b, b ∈ B → x.toNat < b.toNat
theorem Po.Ins.start (o : List (BitVec 32)) (x : BitVec 32) : Po.Ins o (o ++ [x]) x o [] := ⟨rfl, (List.append_nil _).symm, fun b hb => by cases hb⟩
theorem Po.Ins.done {o q A B : List (BitVec 32)} {x : BitVec 32} (h : Po.Ins o q x A B) (hs : Po.Srt o) (hA : ∀ a, a ∈ A → a.toNat < x.toNat) : Po.Srt q := by
  rw [h.q]
  have hs' := hs
  rw [h.o] at hs'
  obtain ⟨h1, h2, h3⟩ := List.pairwise_append.1 hs'
  refine List.pairwise_append.2 ⟨h1, List.pairwise_cons.2 ⟨h.gt, h2⟩, fun a ha b hb => ?_⟩
  rcases List.mem_cons.1 hb with e | e
  · rw [e]; exact hA a ha
  · exact h3 a ha b e
theorem Po.Ins.perm {o q A B : List (BitVec 32)} {x : BitVec 32} (h : Po.Ins o q x A B) : q.Perm (o ++ [x]) := by
  rw [h.q, h.o]
  exact List.perm_middle.trans ((List.perm_append_singleton x (A ++ B)).symm)
theorem Po.Ins.at {o q A B : List (BitVec 32)} {x : BitVec 32} (h : Po.Ins o q x A B) : q.getD A.length 0 = x := by
  rw [h.q, List.getD_eq_getElem?_getD, List.getElem?_append_right (Nat.le_refl _), Nat.sub_self]
  rfl
theorem Po.Ins.before {o q A B : List (BitVec 32)} {x y : BitVec 32} (h : Po.Ins o q x (A ++ [y]) B) : q.getD A.length 0 = y := by
  rw [h.q, List.append_assoc, List.getD_eq_getElem?_getD, List.getElem?_append_right (Nat.le_refl _), Nat.sub_self]
  rfl
theorem Po.Ins.step {o q A B : List (BitVec 32)} {x y : BitVec 32} (h : Po.Ins o q x (A ++ [y]) B) (hxy : x.toNat < y.toNat) : Po.Ins o ((q.set A.length x).set (A.length + 1) y) x A (y :: B) := by
  refine ⟨?_, by rw [h.o, List.append_assoc]; rfl, fun b hb => ?_⟩
  · rw [h.q, List.append_assoc]
    show ((A ++ y :: x :: B).set A.length x).set (A.length + 1) y = A ++ x :: y :: B
    rw [List.set_append_right _ _ (Nat.le_refl _), Nat.sub_self, List.set_cons_zero, List.set_append_right _ _ (by omega), show A.length + 1 - A.length = 1 from by omega]
    rfl
  · rcases List.mem_cons.1 hb with e | e
    · rw [e]; exact hxy
    · exact h.gt b e
theorem Po.last_lt {A : List (BitVec 32)} {x y : BitVec 32} (hs : Po.Srt (A ++ [y])) (hy : y.toNat < x.toNat) : ∀ a, a ∈ A ++ [y] → a.toNat < x.toNat := fun a ha => by
  rcases List.mem_append.1 ha with e | e
  · have := (List.pairwise_append.1 hs).2.2 a e y (by simp)
    omega
  · rw [List.mem_singleton.1 e]; exact hy
theorem Po.snoc_of {A : List (BitVec 32)} (h : A.length ≠ 0) : ∃ m y, A = m ++ [y] := ⟨A.dropLast, A.getLast (by intro e; rw [e] at h; exact h rfl), (List.dropLast_concat_getLast _).symm⟩
theorem Po.perm_rts {m : List (BitVec 32)} {p q : List (BitVec 32)} (h : m.Perm (Po.rts p)) (hq : q.Perm m) (hs : Po.Srt q) : q = Po.rts p := hs.ext (Po.rts_srt p) fun _ => (hq.trans h).mem_iff
theorem Po.not_in {m o : List (BitVec 32)} {i : Nat} (hn : m.Nodup) (hi : i < m.length) (ho : o.Perm (m.take i)) : m.getD i 0 ∉ o := fun h => by
  have h1 := Po.take_snoc hi
  have h2 : (m.take (i + 1)).Nodup := hn.sublist (List.take_sublist _ _)
  rw [h1] at h2
  exact (List.nodup_append.1 h2).2.2 _ (ho.mem_iff.1 h) _ (List.mem_singleton.2 rfl) rfl
end Go.Proofs.Ytamigcbodplmcaa
