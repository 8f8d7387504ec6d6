/- package coins: Put and Back of none (mkcrh.py) -/
import Derived.Test.YtagjolbpmhbifaaGreatDoorCta
import Derived.Test.YtagjolbpmhbifaaGreatDoorLz
namespace Go.Proofs.YtagjolbpmhbifaaGreatDoor
open Go Go.RowKit Go.ChangeShapes Go.WideShapes
set_option maxRecDepth 100000 in
set_option maxHeartbeats 8000000 in
theorem pput_none (p c : Array Value) (w : World) : Calls Tryz.prog 9 #[.pointer none, .agg p, .agg c] w fun e w' => e = .returned (erro 4) ∧ Below w.heap.size w w' := by
  go_enter Tryz.func9, Tryz.ntmps9
  go_wp2
  go_ret
  exact ⟨rfl, ((Below.refl _ _).alloc (Nat.le_refl _) _).alloc (by simp) _⟩
set_option maxRecDepth 100000 in
set_option maxHeartbeats 8000000 in
theorem pback_none (u : Array Value) (w : World) : Calls Tryz.prog 14 #[.pointer none, .agg u] w fun e w' => e = .returned (erro 4) ∧ Below w.heap.size w w' := by
  go_enter Tryz.func14, Tryz.ntmps14
  go_wp2
  go_ret
  exact ⟨rfl, (Below.refl _ _).alloc (Nat.le_refl _) _⟩
end Go.Proofs.YtagjolbpmhbifaaGreatDoor
