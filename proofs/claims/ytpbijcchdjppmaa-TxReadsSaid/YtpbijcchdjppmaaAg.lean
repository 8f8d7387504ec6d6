/- Arrays whole: read, stored, copied into. Nothing of the program but its types. -/
import Derived.Test.YtpbijcchdjppmaaHa
import Derived.Test.YtpbijcchdjppmaaLd
namespace Go.Proofs.Ytpbijcchdjppmaa
open Go Go.RowKit Go.ChangeShapes Go.WideShapes
section
variable {P : Program} {w : World} {g : Nat} {T t : TypeId} {cs : Array Value} {d : TypeDesc}
theorem Has.load_var (h : Has w g T cs) (hu : P.underlying t = some d) (hd : d.isRow = true) (hs : (P.info? t).map (·.size) = some cs.size) : (loadVar t ⟨g, 0, none⟩).run P w = .ok (.agg cs) w := by
  have := run_loadVar_mid (P := P) w g 0 t cs.toList d h.range hu hd (by rw [Array.length_toList]; exact hs)
  rwa [Array.toArray_toList] at this
theorem Has.load_agg (h : Has w g T cs) (hu : P.underlying t = some d) (hd : d.isRow = true) (hs : (P.info? t).map (·.size) = some cs.size) : (Instr.loadAt t (.pointer (some ⟨g, 0, none⟩))).run P w = .ok (.agg cs) w := by
  simp only [Instr.loadAt, Instr.sureAddr, Sem.run_bind, Sem.run_pure, Result.andThen_ok, h.load_var hu hd hs]
theorem Has.whole_cs {cs2 : Array Value} (h : Has w g T cs) (hl : cs2.size = cs.size) : Has (w.setCells g 0 cs2.toList) g T cs2 := by
  have := h.putAll cs2.toList 0
  rwa [putAll_to _ _ 0 (by rw [Array.length_toList]; omega), List.take_zero, List.nil_append, Array.toArray_toList] at this
end
theorem wcells_one (n : Nat) (f : Nat → BitVec 32) : (wcells n f).all (·.oneCell') = true :=
  Array.all_eq_true_iff_forall_mem.2 fun v hv => by
    unfold wcells cellsOf at hv
    simp only [List.mem_toArray, List.mem_map, List.mem_range] at hv
    obtain ⟨j, _, rfl⟩ := hv
    rfl
/-- a table of words is read whole -/
theorem Tab32.load {P : Program} {w : World} {g k : Nat} {t : TypeId} {d : TypeDesc} {l : List (BitVec 32)} (h : Tab32 w g l) (hl : l.length = k) (hu : P.underlying t = some d) (hd : d.isRow = true) (hs : (P.info? t).map (·.size) = some k) :
    (Instr.loadAt t (.pointer (some ⟨g, 0, none⟩))).run P w = .ok (.agg (wcells k fun j => l.getD j 0)) w := by
  have hr : w.rangeAt g 0 (wcells k fun j => l.getD j 0).toList := fun j v hv => by
    rw [Array.getElem?_toList] at hv
    have hj : j < k := by
      rcases Nat.lt_or_ge j k with h1 | h1
      · exact h1
      · rw [Array.getElem?_eq_none (by rw [wcells_size]; exact h1)] at hv; cases hv
    rw [wcells_at _ hj] at hv
    rw [Nat.zero_add, h j (by omega), hv]
  have := run_loadVar_mid (P := P) w g 0 t _ d hr hu hd (by rw [Array.length_toList, wcells_size]; exact hs)
  rw [Array.toArray_toList] at this
  simp only [Instr.loadAt, Instr.sureAddr, Sem.run_bind, Sem.run_pure, Result.andThen_ok, this]
/-- a place of an array value -/
theorem run_index_arr {P : Program} {t e : TypeId} {n : Nat} {k : IntKind} {cs : Array Value} {i : Nat} {v : Value} (h : P.underlying t = some (.array n e)) (hu : P.underlying e = some (.int k)) (hs : (P.info? e).map (·.size) = some 1) (hi : i < n) (hv : cs[i]? = some v) (w : World) :
    (Instr.index t (.agg cs) (.int .i64 (i : Int))).run P w = .ok v w := by
  have h1 : (0 : Int) ≤ (i : Int) ∧ (i : Int) < (n : Int) := by omega
  have hagg : (isAgg e).run P w = .ok false w := by
    unfold isAgg
    rw [Sem.run_bind, run_underlying hu w]
    rfl
  cases hq : P.info? e with
  | none => simp [hq] at hs
  | some inf =>
    have hz : inf.size = 1 := by simpa [hq] using hs
    have hix : (i : Int) < (n : Int) := h1.2
    simp [Instr.index, run_underlying h, asIntOf, hi, sizeOf, typeInfo, hq, hz, part, hagg, hv, Sem.run_bind]
theorem size_byte : (Try.prog.info? 5).map (·.size) = some 1 := by kernel_rfl
/-- bytes copied into a block, from place u on -/
theorem copy_bytes_at {T : TypeId} (w0 : World) (g u m n c k : Nat) (a : Option Addr) (l : List (BitVec 8)) (cs : Array Value) (hh : Has w0 g T cs) (hw : Bytes8 w0 a n l) (hk : k = Nat.min n m) (hu : u + m ≤ cs.size) :
    (Builtin.copy_ #[38, 38] 3 #[.slice (some ⟨g, u, none⟩) m m, .slice a n c]).run Try.prog w0 = .ok (goInt k) (w0.setCells g u (blist (l.take k))) := by
  have hkn : k ≤ n := by rw [hk]; exact Nat.min_le_left _ _
  have hkm : k ≤ m := by rw [hk]; exact Nat.min_le_right _ _
  have hlen : (l.take k).length = k := by rw [List.length_take, hw.1]; omega
  rcases Nat.eq_zero_or_pos k with h0 | h0
  · subst h0
    have := run_copy_none (P := Try.prog) w0 38 38 3 5 (some ⟨g, u, none⟩) a m m n c Try.underlying38 size_byte hk.symm
    rw [this, List.take_zero]
    rfl
  · obtain ⟨ad, rfl, _⟩ := hw.2.2 0 (by omega)
    have := run_copy_cells (P := Try.prog) w0 38 38 3 5 g u m m ad n c (blist (l.take k)) Try.underlying38 size_byte
      (by rw [blist_length, hlen, hk])
      (fun j v hv => by
        have hj : j < k := by
          have := (List.getElem?_eq_some_iff.1 hv).1
          rwa [blist_length, hlen] at this
        obtain ⟨x, e, hx⟩ := hw.2.2 j (by omega)
        injection e with e
        subst e
        rw [hx, ← hv, blist_at (l.take k) j (by omega)]
        congr 3
        unfold cb
        rw [List.getD_eq_getElem?_getD, List.getD_eq_getElem?_getD, List.getElem?_take, if_pos hj])
      (fun j hj => by
        rw [blist_length, hlen] at hj
        rw [hh.cell, Array.getElem?_eq_getElem (by omega)]
        rfl)
      (fun j hj => hh.loose _) (blist_one _)
    rw [this, blist_length, hlen]
end Go.Proofs.Ytpbijcchdjppmaa
