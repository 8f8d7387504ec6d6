/- package tx: what Check calls, and Check (mktxa.py) -/
import Derived.Test.YtcedecljbgailaaDoorTxR
import Derived.Test.YtcedecljbgailaaDoorLz
import Derived.Test.YtcedecljbgailaaDoorAmz
namespace Go.Proofs.YtcedecljbgailaaDoor
open Go Go.RowKit Go.ChangeShapes Go.WideShapes
theorem wpList_bin_run {P : Program} {ops : Array Oper} {rest : List Oper} {op : Oper} {a : Act} {w : World} {Q : Exit → Act → World → Prop} (hgd : op.guard = none) (k : BinOp) (t : TypeId) (x y : Operand) (yt : TypeId) (ho : op.op = .binOp k t x y yt)
    (X Y : Array Value) (hx : a.eval x = .agg X) (hy : a.eval y = .agg Y) (hg : P.eqGuardType P.depth t = false) (v : Value) (hr : (binOp k t (.agg X) (.agg Y)).run P w = .ok v w) (h : wpList P ops Q rest (a.put op.dst v) w) : wpList P ops Q (op :: rest) a w :=
  wpList_plain hgd fun K hK => by
    unfold Oper.wp execOp
    simp only [ho, hx, hy, Sem.run_bind, run_eqGuard_agg w k t x y _ _ hg, Result.andThen_ok, hr, Sem.run_pure]
    exact hK _ _ h
/-- the point of a spend that lies in a block of its own -/
theorem Has.spPoint {w : World} {g : Nat} {T : TypeId} {s : Tx.Sp} (h : Has w g T (spCells s).toArray) (hl : s.h.length = 32) : (Instr.loadAt 25 (.pointer (some ⟨g, 0, none⟩))).run Tryd.prog w = .ok (.agg (ptCells s.h s.n).toArray) w := by
  have h1 := run_loadCells_list (P := Tryd.prog) w ⟨g, 0, none⟩ (ptCells s.h s.n) (fun j v hj => by
    rw [Addr.add_mid, Nat.zero_add]
    refine h.cell_at ?_
    rw [List.getElem?_toArray]
    have e : spCells s = ptCells s.h s.n ++ [.string (strB s.key), .int .u64 (nb64 s.sl)] := by unfold spCells ptCells; simp
    rw [e, List.getElem?_append_left (List.getElem?_eq_some_iff.1 hj).1]
    exact hj)
  rw [ptCells_len hl] at h1
  have hsz : (Tryd.prog.info? 25).map (·.size) = some 33 := by kernel_rfl
  cases hq : Tryd.prog.info? 25 with
  | none => simp [hq] at hsz
  | some inf =>
    have hz : inf.size = 33 := by simpa [hq] using hsz
    have hagg : (isAgg 25).run Tryd.prog w = .ok true w := by
      unfold isAgg
      rw [Sem.run_bind, run_underlying Tryd.underlying25 w]
      rfl
    simp [Instr.loadAt, Instr.sureAddr, loadVar, Sem.run_bind, hagg, sizeOf, typeInfo, hq, hz, h1]
end Go.Proofs.YtcedecljbgailaaDoor
