/- A table of words at package level: what a row's condition on it gives a walk. Nothing of the program. -/
import Derived.Test.YtpbijcchdjppmaaU
import Derived.Test.YtpbijcchdjppmaaB
import Derived.Test.YtpbijcchdjppmaaRow
import Derived.OpenShut
import Derived.LaidMore
import Derived.MakeChecks
namespace Go.Proofs.Ytpbijcchdjppmaa
open Go Go.RowKit
/-- the cells of block g are the words l -/
def Tab32 (w : World) (g : Nat) (l : List (BitVec 32)) : Prop := ∀ i, i < l.length → w.cell? ⟨g, i, none⟩ = some (.int .u32 (nb32 (l.getD i 0)))
theorem Tab32.keep {w w' : World} {g : Nat} {l : List (BitVec 32)} (h : Tab32 w g l) (hk : ∀ p : Addr, (w.cell? p).isSome = true → w'.cell? p = w.cell? p) : Tab32 w' g l := fun i hi => by
  rw [hk _ (by rw [h i hi]; rfl)]
  exact h i hi
theorem Tab32.below {w w' : World} {g : Nat} {l : List (BitVec 32)} (h : Tab32 w g l) (hb : Below w.heap.size w w') : Tab32 w' g l := h.keep fun _ hp => hb.cell (isSome_lt hp)
theorem Tab32.past {w : World} {g : Nat} {l : List (BitVec 32)} (h : Tab32 w g l) (o : Obj) : Tab32 (w.alloc o) g l := h.keep fun p hp => World.cell?_alloc_lt w o p (isSome_lt hp)
theorem Tab32.draw {w : World} {g : Nat} {l : List (BitVec 32)} (h : Tab32 w g l) : Tab32 w.drew g l := h
theorem Tab32.draws {w : World} {g : Nat} {l : List (BitVec 32)} (h : Tab32 w g l) (n : Nat) : Tab32 (w.drewN n) g l := h
theorem Tab32.lt {w : World} {g : Nat} {l : List (BitVec 32)} (h : Tab32 w g l) (hl : 0 < l.length) : g < w.heap.size := isSome_lt (p := ⟨g, 0, none⟩) (by rw [h 0 hl]; rfl)
theorem Tab32.under {w w' : World} {B g : Nat} {l : List (BitVec 32)} (h : Tab32 w g l) (hb : Below B w w') (hg : g < B) : Tab32 w' g l := fun i hi => by
  rw [hb.cell (p := ⟨g, i, none⟩) hg]
  exact h i hi
/-- the datum of such a table -/
def tabD {H : Type} (l : List (BitVec 32)) : DataW H := .agg (l.map fun x => .lit (.int .u32 (nb32 x)))
section
variable {P : Program} {w : World}
theorem laid_tab {n : String} {d : DataW Unit} {r : List (String × DataW Unit)} {ps : List MemPlace} {g : Nat} {t e : TypeId} {k : Nat} {l : List (BitVec 32)}
    (h : DataW.LaidVars P w ((n, d) :: r) ps) (hg : P.globalNamed n = some g) (ht : (P.globals[g]?).map (·.type) = some t) (hu : P.underlying t = some (.array k e)) (he : P.underlying e = some (.int .u32)) (hc : P.cellsOf e = 1) (hd : d = tabD l) :
    Tab32 w g l ∧ ∃ q, DataW.LaidVars P w r q := by
  obtain ⟨g', t', cs, fuel, p, q, hg', ht', hv, hx, hr, _⟩ := h
  obtain rfl := Option.some.inj (hg.symm.trans hg')
  obtain rfl := Option.some.inj (ht.symm.trans ht')
  refine ⟨?_, q, hr⟩
  obtain ⟨xs, m, _, hx1, hlen, hxl, hel⟩ := DataW.trod_array hu hx
  subst hd
  simp only [tabD, Prod.mk.injEq, DataW.agg.injEq] at hx1
  intro i hi
  have hxs : (xs.map (·.1)).length = l.length := by rw [← hx1.1, List.length_map]
  rw [List.length_map] at hxs
  have h1 := hel i (by omega)
  rw [hc, Nat.mul_one] at h1
  have hix : i < xs.length := by omega
  rw [List.getElem?_eq_getElem hix] at h1
  obtain ⟨z, e1, e2, hw⟩ := DataW.trod_int he h1
  have hx2 := congrArg (fun L => L[i]?) hx1.1
  simp only [List.getElem?_map, List.getElem?_eq_getElem hi, List.getElem?_eq_getElem hix, Option.map_some, Option.some.injEq] at hx2
  rw [e2] at hx2
  simp only [DataW.lit.injEq, Lit.int.injEq, true_and] at hx2
  rw [World.var?_cell hg hv i, ← Array.getElem?_toList, List.getD_eq_getElem?_getD, List.getElem?_eq_getElem hi]
  have h3 : (cs.toList.drop i)[0]? = some (.int .u32 z) := by
    have := congrArg (fun L => L[0]?) e1
    simpa [List.getElem?_take] using this
  rw [List.getElem?_drop, Nat.add_zero] at h3
  rw [h3]
  simp only [Option.getD_some]
  rw [hx2]
end
end Go.Proofs.Ytpbijcchdjppmaa
