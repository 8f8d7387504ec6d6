/- Arrays whole: read, stored, copied into. Nothing of the program but its types. -/
import Derived.Test.YtcbbjhcejlmmlaaHa
import Derived.Test.YtcbbjhcejlmmlaaLd
namespace Go.Proofs.Ytcbbjhcejlmmlaa
open Go Go.RowKit Go.ChangeShapes Go.WideShapes
section
variable {P : Program} {w : World} {g : Nat} {T t : TypeId} {cs : Array Value} {d : TypeDesc}
theorem Has.load_var (h : Has w g T cs) (hu : P.underlying t = some d) (hd : d.isRow = true) (hs : (P.info? t).map (·.size) = some cs.size) : (loadVar t ⟨g, 0, none⟩).run P w = .ok (.agg cs) w := by
  have := run_loadVar_mid (P := P) w g 0 t cs.toList d h.range hu hd (by rw [Array.length_toList]; exact hs)
  rwa [Array.toArray_toList] at this
theorem Has.load_agg (h : Has w g T cs) (hu : P.underlying t = some d) (hd : d.isRow = true) (hs : (P.info? t).map (·.size) = some cs.size) : (Instr.loadAt t (.pointer (some ⟨g, 0, none⟩))).run P w = .ok (.agg cs) w := by
  simp only [Instr.loadAt, Instr.sureAddr, Sem.run_bind, Sem.run_pure, Result.andThen_ok, h.load_var hu hd hs]
theorem Has.whole_cs {cs2 : Array Value} (h : Has w g T cs) (hl : cs2.size = cs.size) : Has (w.setCells g 0 cs2.toList) g T cs2 := by
  have := h.putAll cs2.toList 0
  rwa [putAll_to _ _ 0 (by rw [Array.length_toList]; omega), List.take_zero, List.nil_append, Array.toArray_toList] at this
end
theorem wcells_one (n : Nat) (f : Nat → BitVec 32) : (wcells n f).all (·.oneCell') = true :=
  Array.all_eq_true_iff_forall_mem.2 fun v hv => by
    unfold wcells cellsOf at hv
    simp only [List.mem_toArray, List.mem_map, List.mem_range] at hv
    obtain ⟨j, _, rfl⟩ := hv
    rfl
/-- a table of words is read whole -/
theorem Tab32.load {P : Program} {w : World} {g k : Nat} {t : TypeId} {d : TypeDesc} {l : List (BitVec 32)} (h : Tab32 w g l) (hl : l.length = k) (hu : P.underlying t = some d) (hd : d.isRow = true) (hs : (P.info? t).map (·.size) = some k) :
    (Instr.loadAt t (.pointer (some ⟨g, 0, none⟩))).run P w = .ok (.agg (wcells k fun j => l.getD j 0)) w := by
  have hr : w.rangeAt g 0 (wcells k fun j => l.getD j 0).toList := fun j v hv => by
    rw [Array.getElem?_toList] at hv
    have hj : j < k := by
      rcases Nat.lt_or_ge j k with h1 | h1
      · exact h1
      · rw [Array.getElem?_eq_none (by rw [wcells_size]; exact h1)] at hv; cases hv
    rw [wcells_at _ hj] at hv
    rw [Nat.zero_add, h j (by omega), hv]
  have := run_loadVar_mid (P := P) w g 0 t _ d hr hu hd (by rw [Array.length_toList, wcells_size]; exact hs)
  rw [Array.toArray_toList] at this
  simp only [Instr.loadAt, Instr.sureAddr, Sem.run_bind, Sem.run_pure, Result.andThen_ok, this]
/-- a place of an array value -/
theorem run_index_arr {P : Program} {t e : TypeId} {n : Nat} {k : IntKind} {cs : Array Value} {i : Nat} {v : Value} (h : P.underlying t = some (.array n e)) (hu : P.underlying e = some (.int k)) (hs : (P.info? e).map (·.size) = some 1) (hi : i < n) (hv : cs[i]? = some v) (w : World) :
    (Instr.index t (.agg cs) (.int .i64 (i : Int))).run P w = .ok v w := by
  have h1 : (0 : Int) ≤ (i : Int) ∧ (i : Int) < (n : Int) := by omega
  have hagg : (isAgg e).run P w = .ok false w := by
    unfold isAgg
    rw [Sem.run_bind, run_underlying hu w]
    rfl
  cases hq : P.info? e with
  | none => simp [hq] at hs
  | some inf =>
    have hz : inf.size = 1 := by simpa [hq] using hs
    have hix : (i : Int) < (n : Int) := h1.2
    simp [Instr.index, run_underlying h, asIntOf, hi, sizeOf, typeInfo, hq, hz, part, hagg, hv, Sem.run_bind]
theorem size_byte : (Try.prog.info? 5).map (·.size) = some 1 := by kernel_rfl
end Go.Proofs.Ytcbbjhcejlmmlaa
