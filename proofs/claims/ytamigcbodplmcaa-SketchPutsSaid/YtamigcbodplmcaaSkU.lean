/- SketchPuts -/
import Derived.Test.YtamigcbodplmcaaSkL
import Derived.Test.YtamigcbodplmcaaSkV
import Derived.Test.YtamigcbodplmcaaSkW
import Derived.Deep.Cut
import Derived.Deep.CutRange
namespace Go.Proofs.Ytamigcbodplmcaa
open Go Go.RowKit Go.ChangeShapes Go.WideShapes
theorem Sk.addAll_app (l : List (BitVec 32)) : ∀ a b, Sk.addAll l (a ++ b) = Sk.addAll (Sk.addAll l a) b := by
  intro a
  induction a generalizing l with
  | nil => intro b; rfl
  | cons x a ih => intro b; exact ih _ b
theorem Sk.addAll_more (cap : Nat) (a b : List (BitVec 32)) : Sk.addAll (Sk.syn cap a) b = Sk.syn cap (a ++ b) := by
  rw [← Sk.addAll_syn, ← Sk.addAll_app, Sk.addAll_syn]
theorem Sk.addAll_twice (cap : Nat) (a : List (BitVec 32)) : ∀ x, x ∈ Sk.addAll (Sk.syn cap a) a → x = 0 := by
  intro x hx
  obtain ⟨i, hi, rfl⟩ := List.mem_iff_getElem.1 hx
  have h1 : (Sk.addAll (Sk.syn cap a) a)[i] = Po.cf (Sk.addAll (Sk.syn cap a) a) i := by
    show _ = (Sk.addAll (Sk.syn cap a) a).getD i 0
    rw [List.getD_eq_getElem?_getD, List.getElem?_eq_getElem hi]
    rfl
  rw [Sk.addAll_len] at hi
  rw [h1, Sk.addAll_cf _ _ _ hi]
  have hi' : i < cap := by unfold Sk.syn at hi; rwa [Po.mk_length] at hi
  unfold Sk.syn
  rw [Po.cf_mk, if_pos hi']
  exact BitVec.xor_self
theorem own_shape00 {T : TypeId} {B K : Nat} {w : World} {v : Value} {l : List (BitVec 32)} (h : OwnW T B w v l) (hK : l.length = K) : ∃ a c, v = .slice a K c ∧ K ≤ c ∧ (a = none → c = 0) ∧ Words32 w a K l := fresh_shapeK h.fresh hK
end Go.Proofs.Ytamigcbodplmcaa
