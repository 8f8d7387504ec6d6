/- TxWitness: the walk -/
import Derived.Test.YtpbijcchdjppmaaDoorTxLd
import Derived.Test.YtpbijcchdjppmaaDoorTxWi
namespace Go.Proofs.YtpbijcchdjppmaaDoor
open Go Go.RowKit Go.ChangeShapes Go.WideShapes
set_option maxRecDepth 100000 in
theorem txWitnessWalk {H : Type} {enc : TypeId × Value → H} (W : World) (base : Nat) (v0 : Value) (d0 : DataW H) (p0 : List MemPlace)
    (o0 : Value.okWide Tryd.prog W .any base 46 v0) (h0 : DataW.Trod enc Tryd.prog W 0 (fun _ => true) true 46 v0 d0 p0) (hL : laidMetH Tryd.prog Rows.txWitnessRow.laid W) :
    Calls Tryd.prog 4 #[v0] W fun e w' => e = .returned (.bool true) ∧ Below W.heap.size W w' := by
  obtain ⟨a, n, q, b, m, r, t, z, key, sl, rfl, ht, _, hk⟩ := arg_other o0 h0
  exact witnessMain a n q b m r t z key sl W ht hk (tlaid_dg2 hL)
end Go.Proofs.YtpbijcchdjppmaaDoor
