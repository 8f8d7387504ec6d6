/- what the rows list of package-level tables (as digest's DgL, over fewer texts) · GraphAsks: the walk -/
import Derived.Test.YtijemcfnlbapjaaGreatDoorRows
import Derived.Test.YtijemcfnlbapjaaGreatDoorJ15
import Derived.Test.YtijemcfnlbapjaaGreatDoorJ37
/-! what the rows list of package-level tables (as digest's DgL, over fewer texts) -/
namespace Go.Proofs.YtijemcfnlbapjaaGreatDoor
open Go Go.RowKit Go.ChangeShapes Go.WideShapes
theorem tlaid_dg {W : World} {ps : List MemPlace} (h : DataW.LaidVars Tryz.prog W [("gossamer/digest.start", Rows.laid_gossamer_digest_start), ("gossamer/digest.constants", Rows.laid_gossamer_digest_constants)] ps) : KDg W := by
  obtain ⟨h1, q, h2⟩ := laid_tab (g := 0) (t := 159) (e := 158) (k := 8) (l := Dg.startL) h (by kernel_rfl) (by kernel_rfl) Tryz.underlying159 Tryz.underlying158 (by kernel_rfl) rfl
  obtain ⟨h3, _⟩ := laid_tab (g := 2) (t := 175) (e := 158) (k := 64) (l := Dg.kL) h2 (by kernel_rfl) (by kernel_rfl) Tryz.underlying175 Tryz.underlying158 (by kernel_rfl) rfl
  exact ⟨h3, h1⟩
theorem tlaid_dg3 {W : World} (h : laidMetH Tryz.prog [("gossamer/gossamerref07.k", Rows.laid_gossamer_gossamerref07_k), ("gossamer/digest.start", Rows.laid_gossamer_digest_start), ("gossamer/digest.constants", Rows.laid_gossamer_digest_constants)] W) : KDg W ∧ Tab32 W 1 Dg.kL := by
  rw [MakeChecks.laidMetH_plain _ _ _ (by kernel_rfl)] at h
  obtain ⟨ps, h, _⟩ := h
  obtain ⟨h1, q, h2⟩ := laid_tab (g := 1) (t := 175) (e := 158) (k := 64) (l := Dg.kL) h (by kernel_rfl) (by kernel_rfl) Tryz.underlying175 Tryz.underlying158 (by kernel_rfl) rfl
  exact ⟨tlaid_dg h2, h1⟩
end Go.Proofs.YtijemcfnlbapjaaGreatDoor
/-! GraphAsks: the walk -/
namespace Go.Proofs.YtijemcfnlbapjaaGreatDoor
open Go Go.RowKit Go.ChangeShapes Go.WideShapes
section
variable {H : Type} {enc : TypeId × Value → H} {W : World} {base : Nat} {v : Value} {d : DataW H} {p : List MemPlace}
set_option maxRecDepth 100000 in
theorem arg_ids14 (o : Value.okWide Tryz.prog W .any base 30 v) (h : DataW.Trod enc Tryz.prog W 0 (fun _ => true) true 30 v d p) :
    ∃ (a : Option Addr) (n c : Nat) (L : List (List (BitVec 8))), v = .slice a n c ∧ Recs Gr.hsRec W a n L ∧ n ≤ c ∧ (a = none → c = 0) := by
  obtain ⟨a, n, c, rfl⟩ := okWide_slice Tryz.underlying30 o
  obtain ⟨fuel, hf⟩ := h
  obtain ⟨a', n', c', L, e, hL, hnc, h0⟩ := open_recs (R := Gr.hsRec) Tryz.underlying30 (by kernel_rfl) Gr.open_hs hf
  have e2 : Value.slice a n c = Value.slice a' n' c' := by
    have e3 : (Value.slice a n c).cells.toList = [Value.slice a n c] := rfl
    first
      | exact e
      | (rw [e3] at e; exact (List.cons.inj e).1)
  injection e2 with e4 e5 e6
  subst e4
  subst e5
  subst e6
  exact ⟨a, n, c, L, rfl, hL, hnc, h0⟩
end
set_option maxRecDepth 100000 in
theorem graphAsksWalk {H : Type} {enc : TypeId × Value → H} (W : World) (base : Nat) (v0 : Value) (d0 : DataW H) (p0 : List MemPlace) (v1 : Value) (d1 : DataW H) (p1 : List MemPlace) (v2 : Value) (d2 : DataW H) (p2 : List MemPlace)
    (o0 : Value.okWide Tryz.prog W .any base 22 v0) (o1 : Value.okWide Tryz.prog W .any base 30 v1) (o2 : Value.okWide Tryz.prog W .any base 34 v2)
    (h0 : DataW.Trod enc Tryz.prog W 0 (fun _ => true) true 22 v0 d0 p0) (h1 : DataW.Trod enc Tryz.prog W 0 (fun _ => true) true 30 v1 d1 p1) (h2 : DataW.Trod enc Tryz.prog W 0 (fun _ => true) true 34 v2 d2 p2) (hL : laidMetH Tryz.prog Rows.graphAsksRow.laid W) :
    Calls Tryz.prog 4 #[v0, v1, v2] W fun e w' => e = .returned (.bool true) ∧ Below W.heap.size W w' := by
  obtain ⟨a, n, q, K, rfl, ha, _, _⟩ := Gr.arg_acts14 o0 h0
  obtain ⟨b, m, r, I, rfl, hi, _, _⟩ := arg_ids14 o1 h1
  obtain ⟨ta, tn, tq, tb, tm, tr, t, rfl, ht⟩ := arg_tx o2 h2
  have hl := tlaid_dg3 hL
  exact gaskMain a n q K b m r I ta tn tq tb tm tr t W ha hi ht hl.1 hl.2
end Go.Proofs.YtijemcfnlbapjaaGreatDoor
