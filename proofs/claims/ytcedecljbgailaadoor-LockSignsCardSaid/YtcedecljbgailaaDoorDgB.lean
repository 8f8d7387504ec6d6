/- a tree of two, four or eight digests is the double digest of both halves' trees. Nothing of the program. -/
import Derived.Test.YtcedecljbgailaaDoorDgy
namespace Go.Proofs.YtcedecljbgailaaDoor.Dg
open Go.Proofs.YtcedecljbgailaaDoor
theorem tree1 (a : List (BitVec 8)) : tree [a] = a := by simp [tree, treeF]
theorem up2 (a b : List (BitVec 8)) : up [a, b] = [double (a ++ b)] := by simp [up]
theorem up4 (a b c d : List (BitVec 8)) : up [a, b, c, d] = [double (a ++ b), double (c ++ d)] := by simp [up]
theorem up8 (a b c d e f g h : List (BitVec 8)) : up [a, b, c, d, e, f, g, h] = [double (a ++ b), double (c ++ d), double (e ++ f), double (g ++ h)] := by simp [up]
theorem tree2 (a b : List (BitVec 8)) : tree [a, b] = double (a ++ b) := by rw [tree_up (by simp), up2, tree1]
theorem tree4 (a b c d : List (BitVec 8)) : tree [a, b, c, d] = double (tree [a, b] ++ tree [c, d]) := by rw [tree_up (by simp), up4, tree2, tree2, tree2]
theorem tree8 (a b c d e f g h : List (BitVec 8)) : tree [a, b, c, d, e, f, g, h] = double (tree [a, b, c, d] ++ tree [e, f, g, h]) := by
  rw [tree_up (by simp), up8, tree4, tree4, tree4, tree2, tree2, tree2, tree2, tree2, tree2]
theorem tree_half {L : List (List (BitVec 8))} {n : Nat} (h : n = 2 ∨ n = 4 ∨ n = 8) (hl : L.length = n) : tree L = double (tree (L.take (n / 2)) ++ tree (L.drop (n / 2))) := by
  rcases h with rfl | rfl | rfl
  · match L, hl with
    | [a, b], _ => rw [show ([a, b] : List _).take (2 / 2) = [a] from rfl, show ([a, b] : List _).drop (2 / 2) = [b] from rfl, tree1, tree1, tree2]
  · match L, hl with
    | [a, b, c, d], _ => rw [show ([a, b, c, d] : List _).take (4 / 2) = [a, b] from rfl, show ([a, b, c, d] : List _).drop (4 / 2) = [c, d] from rfl, tree4]
  · match L, hl with
    | [a, b, c, d, e, f, g, i], _ => rw [show ([a, b, c, d, e, f, g, i] : List _).take (8 / 2) = [a, b, c, d] from rfl, show ([a, b, c, d, e, f, g, i] : List _).drop (8 / 2) = [e, f, g, i] from rfl, tree8]
theorem up_at : ∀ (L : List (List (BitVec 8))) (k : Nat), 2 * k < L.length → (up L).getD k [] = double (L.getD (2 * k) [] ++ L.getD (if 2 * k + 1 = L.length then 2 * k else 2 * k + 1) [])
  | [], _, h => by simp at h
  | [a], k, h => by
    obtain rfl : k = 0 := by simp at h; omega
    rfl
  | a :: b :: r, 0, _ => by
    show double (a ++ b) = double (a ++ (a :: b :: r).getD (if 2 * 0 + 1 = (a :: b :: r).length then 2 * 0 else 2 * 0 + 1) [])
    rw [if_neg (by simp only [List.length_cons]; omega)]
    rfl
  | a :: b :: r, k + 1, h => by
    simp only [List.length_cons] at h
    have ih := up_at r k (by omega)
    show (up r).getD k [] = _
    rw [ih]
    simp only [List.length_cons]
    rw [show 2 * (k + 1) = 2 * k + 1 + 1 by omega]
    by_cases hh : 2 * k + 1 = r.length
    · rw [if_pos hh, if_pos (by omega)]
      rfl
    · rw [if_neg hh, if_neg (by omega)]
      rfl
theorem up_take {L : List (List (BitVec 8))} {k : Nat} (h : 2 * k < L.length) (l1 l2 : List (BitVec 8)) (h1 : l1 = L.getD (2 * k) []) (h2 : l2 = L.getD (if 2 * k + 1 = L.length then 2 * k else 2 * k + 1) []) :
    (up L).take (k + 1) = (up L).take k ++ [double (l1 ++ l2)] := by
  have hk : k < (up L).length := by rw [up_len]; omega
  rw [h1, h2, ← up_at L k h, List.take_succ_eq_append_getElem hk, List.getD_eq_getElem?_getD, List.getElem?_eq_getElem hk]
  rfl
end Go.Proofs.YtcedecljbgailaaDoor.Dg
