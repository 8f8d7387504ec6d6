/- a reader and the reference's reader, side by side -/
import Derived.Test.YtndcpclichpkaaaPkY
import Derived.Test.YtndcpclichpkaaaPkW
import Derived.Test.YtndcpclichpkaaaEr
import Derived.Test.YtndcpclichpkaaaEq
namespace Go.Proofs.Ytndcpclichpkaaa
open Go Go.RowKit Go.ChangeShapes Go.WideShapes
theorem left_more (most : Int) (s t : Pk.Rd) (n : BitVec 64) (h : (Pk.left t).length ≤ (Pk.left s).length) : (Pk.left (match t with | none => ((none, 0) : Pk.Rd × Int) | some B => if 0 ≤ most ∧ (n.toNat : Int) ≤ most ∧ (Pk.count n.toNat).length + B.length = (Pk.left s).length then (some B, (n.toNat : Int)) else (none, 0)).1).length ≤ (Pk.left s).length := by
  cases t with
  | none => exact Nat.zero_le _
  | some B =>
    dsimp only
    split
    · exact h
    · exact Nat.zero_le _
theorem left_rdCount (s : Pk.Rd) (most : Int) : (Pk.left (Pk.rdCount s most).1).length ≤ (Pk.left s).length :=
  left_more most s _ _ (Nat.le_trans (left_rdMore _) (left_rdNum _ _))
theorem left_rdTake (s : Pk.Rd) (n : Nat) : (Pk.left (Pk.rdTake s n).1).length ≤ (Pk.left s).length := by
  cases s with
  | none => exact Nat.le_refl _
  | some B =>
    show (Pk.left ((if n ≤ B.length then _ else _) : Pk.Rd × List (BitVec 8)).1).length ≤ B.length
    split
    · simp [Pk.left]
    · exact Nat.zero_le _
theorem left_rdText (s : Pk.Rd) (most : Int) : (Pk.left (Pk.rdText s most).1).length ≤ (Pk.left s).length := by
  rw [rdText_eq]
  exact Nat.le_trans (left_rdTake _ _) (left_rdCount _ _)
theorem left_rdHash (s : Pk.Rd) : (Pk.left (Pk.rdHash s).1).length ≤ (Pk.left s).length := by
  rw [rdHash_take]
  exact left_rdTake _ _
/-- the package's reader in block gi, the reference's in block gj: both hold s -/
def Twin (w : World) (gi : Nat) (r : Option Nat) (gj : Nat) (s : Pk.Rd) : Prop :=
  InS w gi r s ∧ (∃ a n c b, Has w gj 46 #[.slice a n c, .bool b] ∧ InV w s (.agg #[.slice a n c, .bool b])) ∧ gi < gj ∧ ∀ k, r = some k → k < gi
theorem pin_not_byte (a : Option Addr) (n c : Nat) (b : Bool) : ∀ (i : Nat) (z : Int), (#[Value.slice a n c, .bool b] : Array Value)[i]? ≠ some (.int .u8 z) := in_not_byte a n c b
theorem Twin.below {w w' : World} {gi gj : Nat} {r : Option Nat} {s : Pk.Rd} (h : Twin w gi r gj s) (hb : Below w.heap.size w w') : Twin w' gi r gj s := by
  obtain ⟨h1, ⟨a, n, c, b, h2, h3⟩, h4⟩ := h
  exact ⟨h1.below hb, ⟨a, n, c, b, h2.under hb h2.lt, h3.below hb⟩, h4⟩
/-- the next state: the package's reader has read, the reference's next reader is stored -/
theorem Twin.next {w w' w2 : World} {gi gj : Nat} {r : Option Nat} {s s' : Pk.Rd} {a : Option Addr} {n c : Nat} {b : Bool} (h : Twin w gi r gj s) (hv : InV w s' (.agg #[.slice a n c, .bool b])) (hi : InS w' gi r s') (hm : Moved (inF gi) w w')
    (hw : w2 = w'.setCells gj 0 (#[Value.slice a n c, .bool b] : Array Value).toList) : Twin w2 gi r gj s' := by
  obtain ⟨h1, ⟨a0, n0, c0, b0, h2, _⟩, h4, h5⟩ := h
  have h2' : Has w' gj 46 #[.slice a0 n0 c0, .bool b0] := h2.moved hm (fun e => by have e' : gj = gi := e; omega)
  have hm2 : Moved (fun k => k = gj) w' w2 := by rw [hw]; exact Moved.putAll (F := fun k => k = gj) (.inl rfl) _ 0 (Moved.refl _ _)
  obtain ⟨ai, ni, ci, bi, hi0, _⟩ := h1.has
  have hv1 := hv.aside hi0 hm (fun _ e => e)
  refine ⟨hi.moved hm2 (fun e => by have e' : gi = gj := e; omega) (fun k e e' => by have := h5 k e; have e2 : k = gj := e'; omega), ⟨a, n, c, b, ?_, hv1.aside h2' hm2 (fun _ e => e)⟩, h4, h5⟩
  rw [hw]
  exact h2'.whole_cs rfl
end Go.Proofs.Ytndcpclichpkaaa
