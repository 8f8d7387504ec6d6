/- CoinsCopies: the walk -/
import Derived.Test.YtagjolbpmhbifaaGreatDoorCrX
import Derived.Test.YtagjolbpmhbifaaGreatDoorCtp
import Derived.Test.YtagjolbpmhbifaaGreatDoorTxLd
namespace Go.Proofs.YtagjolbpmhbifaaGreatDoor
open Go Go.RowKit Go.ChangeShapes Go.WideShapes
set_option maxRecDepth 100000 in
theorem coinsCopiesWalk {H : Type} {enc : TypeId × Value → H} (W : World) (base : Nat) (v0 : Value) (d0 : DataW H) (p0 : List MemPlace) (v1 : Value) (d1 : DataW H) (p1 : List MemPlace) (v2 : Value) (d2 : DataW H) (p2 : List MemPlace)
    (o0 : Value.okWide Tryz.prog W .any base 22 v0) (o1 : Value.okWide Tryz.prog W .any base 22 v1) (o2 : Value.okWide Tryz.prog W .any base 39 v2)
    (h0 : DataW.Trod enc Tryz.prog W 0 (fun _ => true) true 22 v0 d0 p0) (h1 : DataW.Trod enc Tryz.prog W 0 (fun _ => true) true 22 v1 d1 p1) (h2 : DataW.Trod enc Tryz.prog W 0 (fun _ => true) true 39 v2 d2 p2) (hL : laidMetH Tryz.prog Rows.coinsCopiesRow.laid W) :
    Calls Tryz.prog 4 #[v0, v1, v2] W fun e w' => e = .returned (.bool true) ∧ Below W.heap.size W w' := by
  obtain ⟨a, n, q, L, rfl, ha, _, _⟩ := arg_acts o0 h0
  obtain ⟨b, m, r, K, rfl, hk, _, _⟩ := arg_acts o1 h1
  obtain ⟨ta, tn, tq, tb, tm, tr, t, rfl, ht⟩ := arg_tx o2 h2
  have hl := tlaid_dg3 hL
  exact ccopiesMain coinsOk2 a n q L b m r K ta tn tq tb tm tr t W ha hk ht hl.1 hl.2
end Go.Proofs.YtagjolbpmhbifaaGreatDoor
