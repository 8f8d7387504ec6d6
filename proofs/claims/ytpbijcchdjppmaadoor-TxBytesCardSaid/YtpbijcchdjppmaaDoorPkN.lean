/- the reference's ReadNum -/
import Derived.Test.YtpbijcchdjppmaaDoorPkT
import Derived.Test.YtpbijcchdjppmaaDoorPkE
import Derived.Test.YtpbijcchdjppmaaDoorLz
namespace Go.Proofs.YtpbijcchdjppmaaDoor
open Go Go.RowKit Go.ChangeShapes Go.WideShapes
/-- a reader as a value -/
def InV (W : World) (s : Pk.Rd) (v : Value) : Prop := match s with
  | none => v = .agg #[.slice none 0 0, .bool true]
  | some B => ∃ a n c, v = .agg #[.slice a n c, .bool false] ∧ Bytes8 W a n B ∧ n ≤ c ∧ (a = none → c = 0)
theorem InV.below {W W' : World} {s : Pk.Rd} {v : Value} (h : InV W s v) (hb : Below W.heap.size W W') : InV W' s v := by
  cases s with
  | none => exact h
  | some B =>
    obtain ⟨a, n, c, h1, h2, h3⟩ := h
    exact ⟨a, n, c, h1, h2.below hb, h3⟩
theorem results_cell_tmp {P : Program} {fn : Func} {p q : Tmp} {ty : TypeId} (h : fn.results = #[.cell p ty, .tmp q]) (tmps : Array Value) (w : World) (g : Nat) (hp : tmps.getD p undef = .pointer (some ⟨g, 0, none⟩))
    (v u : Value) (hq : tmps.getD q undef = u) (hv : (loadVar ty ⟨g, 0, none⟩).run P w = .ok v w) : (results fn tmps).run P w = .ok (.tuple #[v, u]) w := by
  rw [Array.getD_eq_getD_getElem?] at hp hq
  simp only [results, h]
  simp [hp, hq, hv, asAddr]
def wrongV : Value := .agg #[.slice none 0 0, .bool true]
theorem in_one (v b : Value) (hv : v.oneCell' = true) (hb : b.oneCell' = true) : (#[v, b] : Array Value).all (·.oneCell') = true := by simp [hv, hb]
end Go.Proofs.YtpbijcchdjppmaaDoor
