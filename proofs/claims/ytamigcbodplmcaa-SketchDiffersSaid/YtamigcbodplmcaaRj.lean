/- a drawn region whose orders all end alike. Nothing of the program. -/
import Derived.WalkKit
import Derived.StillTailTactics
namespace Go.Proofs.Ytamigcbodplmcaa
open Go Go.RowKit Go.ChangeShapes Go.WideShapes
theorem wp_region_join {P : Program} {id : Nat} {ops : Array Oper} {b : Bool} {Q : Exit → Act → World → Prop} {a : Act} {w : World} (W2 : World) (lo n : Nat)
    (h : (Code.region id ops b).wp P (Exit.then (fun s w' => w' = W2 ∧ ((s.tmps.toList.drop lo).take n).length = n ∧ s = ⟨(a.tmps.toList.take lo ++ (s.tmps.toList.drop lo).take n ++ a.tmps.toList.drop (lo + n)).toArray, a.defers⟩) (fun _ _ _ => False)) a w)
    (k : ∀ vs : List Value, vs.length = n → Q .normal ⟨(a.tmps.toList.take lo ++ vs ++ a.tmps.toList.drop (lo + n)).toArray, a.defers⟩ W2) : (Code.region id ops b).wp P Q a w :=
  Code.wp_mono (fun e s w' he => by
    cases e <;> first
      | (obtain ⟨rfl, hv, hs⟩ := he; rw [hs]; exact k _ hv)
      | exact (he : False).elim) h
theorem list14 {vs : List Value} (h : vs.length = 14) : ∃ a b c d e f g i j k l m n o, vs = [a, b, c, d, e, f, g, i, j, k, l, m, n, o] := by
  match vs, h with
  | [a, b, c, d, e, f, g, i, j, k, l, m, n, o], _ => exact ⟨a, b, c, d, e, f, g, i, j, k, l, m, n, o, rfl⟩
theorem list16 {vs : List Value} (h : vs.length = 16) : ∃ a b c d e f g i j k l m n o p q, vs = [a, b, c, d, e, f, g, i, j, k, l, m, n, o, p, q] := by
  match vs, h with
  | [a, b, c, d, e, f, g, i, j, k, l, m, n, o, p, q], _ => exact ⟨a, b, c, d, e, f, g, i, j, k, l, m, n, o, p, q, rfl⟩
end Go.Proofs.Ytamigcbodplmcaa
