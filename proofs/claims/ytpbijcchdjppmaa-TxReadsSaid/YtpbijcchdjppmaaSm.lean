/- a drawn region by hand: what is held is all but some blocks; stores of whole rows. Nothing of the program. -/
import Derived.Test.YtpbijcchdjppmaaTe
import Derived.Test.YtpbijcchdjppmaaHe
import Derived.Deep.MidRow
namespace Go.Proofs.Ytpbijcchdjppmaa
open Go Go.RowKit
def HeldM (F : Nat → Prop) (w0 w : World) : Prop := Moved F w0 w
theorem HeldM.refl (F : Nat → Prop) (w : World) : HeldM F w w := Moved.refl F w
theorem HeldM.out {F : Nat → Prop} {w0 w : World} (h : HeldM F w0 w) : Moved F w0 w := h
theorem HeldM.of {F : Nat → Prop} {w0 w : World} (h : Moved F w0 w) : HeldM F w0 w := h
theorem heldM_grow {P : Program} {ops : Array Oper} {Q : Exit → Act → World → Prop} {md : Region.Mode} {F : Nat → Prop} {w0 w1 : World} (h : Moved F w0 w1) {fuel : Nat} {listed : Array Bool} {a : Act} {w : World} (g : wpAnyH P md ops Q (HeldM F w1) fuel listed a w) : wpAnyH P md ops Q (HeldM F w0) fuel listed a w :=
  wpAnyH_mono (fun _ k => h.trans k (fun _ e => .inl e)) g
theorem step_store_row {P : Program} {w : World} {ops : Array Oper} {o : Oper} {a : Act} {K : Act → World → Prop} {Q : Exit → Act → World → Prop} {E : Prop} (hwt : Region.wanted o (yielded ops a.tmps) = true) (ty : TypeId) (x y : Operand) (ho : o.op = .store ty x y)
    (b off : Nat) (cells : Array Value) (hx : a.eval x = .pointer (some ⟨b, off, none⟩)) (hy : a.eval y = .agg cells) (ht : w.there b off cells.size) (hi : (P.info? ty).map (·.size) = some cells.size) (h1 : cells.all (·.oneCell') = true) (hd : o.dst = none)
    (h : K a (w.setCells b off cells.toList)) : if Region.wanted o (yielded ops a.tmps) = true then Oper.wp P o a w K Q else E := by
  rw [if_pos hwt]
  exact wp_store_mid ty x y ho b off cells hx hy ht hi h1 (by rw [hd]; exact h)
theorem yieldsIf_load_agg {P : Program} {ops : Array Oper} {S : World → Prop} {op : Oper} {a : Act} (hw : Region.wanted op (yielded ops a.tmps) = true) (ty : TypeId) (x : Operand) (ho : op.op = .load ty x)
    (p v : Value) (hx : a.eval x = p) (hr : ∀ w, S w → (Instr.loadAt ty p).run P w = .ok v w) : YieldsIf P ops S op v a :=
  .inl ⟨hw, fun w hSw => by
    unfold execOp
    simp only [ho, hx, Sem.run_bind, Sem.run_pure, Result.andThen_ok, hr w hSw]⟩
theorem results_two_cells {P : Program} {fn : Func} {p q : Tmp} {ty uy : TypeId} (h : fn.results = #[.cell p ty, .cell q uy]) (tmps : Array Value) (w : World) (g k : Nat) (hp : tmps.getD p undef = .pointer (some ⟨g, 0, none⟩)) (hq : tmps.getD q undef = .pointer (some ⟨k, 0, none⟩))
    (v u : Value) (hv : (loadVar ty ⟨g, 0, none⟩).run P w = .ok v w) (hu : (loadVar uy ⟨k, 0, none⟩).run P w = .ok u w) : (results fn tmps).run P w = .ok (.tuple #[v, u]) w := by
  rw [Array.getD_eq_getD_getElem?] at hp hq
  simp only [results, h]
  simp [hp, hq, hv, hu, asAddr]
end Go.Proofs.Ytpbijcchdjppmaa
