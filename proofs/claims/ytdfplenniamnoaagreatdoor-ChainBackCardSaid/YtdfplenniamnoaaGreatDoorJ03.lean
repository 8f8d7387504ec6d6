/- Arrays whole: read, stored, copied into. Nothing of the program but its types. · transactions: as lists, as cells, as arguments; which are the same · spends, coins, points compared · A map of points to coins: what it holds, key by key; what the operations on it answer -/
import Derived.Test.YtdfplenniamnoaaGreatDoorJ02
import Derived.Maps.OwnSet
/-! Arrays whole: read, stored, copied into. Nothing of the program but its types. -/
namespace Go.Proofs.YtdfplenniamnoaaGreatDoor
open Go Go.RowKit Go.ChangeShapes Go.WideShapes
section
variable {P : Program} {w : World} {g : Nat} {T t : TypeId} {cs : Array Value} {d : TypeDesc}
theorem Has.load_var (h : Has w g T cs) (hu : P.underlying t = some d) (hd : d.isRow = true) (hs : (P.info? t).map (·.size) = some cs.size) : (loadVar t ⟨g, 0, none⟩).run P w = .ok (.agg cs) w := by
  have := run_loadVar_mid (P := P) w g 0 t cs.toList d h.range hu hd (by rw [Array.length_toList]; exact hs)
  rwa [Array.toArray_toList] at this
theorem Has.load_agg (h : Has w g T cs) (hu : P.underlying t = some d) (hd : d.isRow = true) (hs : (P.info? t).map (·.size) = some cs.size) : (Instr.loadAt t (.pointer (some ⟨g, 0, none⟩))).run P w = .ok (.agg cs) w := by
  simp only [Instr.loadAt, Instr.sureAddr, Sem.run_bind, Sem.run_pure, Result.andThen_ok, h.load_var hu hd hs]
theorem Has.whole_cs {cs2 : Array Value} (h : Has w g T cs) (hl : cs2.size = cs.size) : Has (w.setCells g 0 cs2.toList) g T cs2 := by
  have := h.putAll cs2.toList 0
  rwa [putAll_to _ _ 0 (by rw [Array.length_toList]; omega), List.take_zero, List.nil_append, Array.toArray_toList] at this
end
theorem wcells_one (n : Nat) (f : Nat → BitVec 32) : (wcells n f).all (·.oneCell') = true :=
  Array.all_eq_true_iff_forall_mem.2 fun v hv => by
    unfold wcells cellsOf at hv
    simp only [List.mem_toArray, List.mem_map, List.mem_range] at hv
    obtain ⟨j, _, rfl⟩ := hv
    rfl
/-- a table of words is read whole -/
theorem Tab32.load {P : Program} {w : World} {g k : Nat} {t : TypeId} {d : TypeDesc} {l : List (BitVec 32)} (h : Tab32 w g l) (hl : l.length = k) (hu : P.underlying t = some d) (hd : d.isRow = true) (hs : (P.info? t).map (·.size) = some k) :
    (Instr.loadAt t (.pointer (some ⟨g, 0, none⟩))).run P w = .ok (.agg (wcells k fun j => l.getD j 0)) w := by
  have hr : w.rangeAt g 0 (wcells k fun j => l.getD j 0).toList := fun j v hv => by
    rw [Array.getElem?_toList] at hv
    have hj : j < k := by
      rcases Nat.lt_or_ge j k with h1 | h1
      · exact h1
      · rw [Array.getElem?_eq_none (by rw [wcells_size]; exact h1)] at hv; cases hv
    rw [wcells_at _ hj] at hv
    rw [Nat.zero_add, h j (by omega), hv]
  have := run_loadVar_mid (P := P) w g 0 t _ d hr hu hd (by rw [Array.length_toList, wcells_size]; exact hs)
  rw [Array.toArray_toList] at this
  simp only [Instr.loadAt, Instr.sureAddr, Sem.run_bind, Sem.run_pure, Result.andThen_ok, this]
/-- a place of an array value -/
theorem run_index_arr {P : Program} {t e : TypeId} {n : Nat} {k : IntKind} {cs : Array Value} {i : Nat} {v : Value} (h : P.underlying t = some (.array n e)) (hu : P.underlying e = some (.int k)) (hs : (P.info? e).map (·.size) = some 1) (hi : i < n) (hv : cs[i]? = some v) (w : World) :
    (Instr.index t (.agg cs) (.int .i64 (i : Int))).run P w = .ok v w := by
  have h1 : (0 : Int) ≤ (i : Int) ∧ (i : Int) < (n : Int) := by omega
  have hagg : (isAgg e).run P w = .ok false w := by
    unfold isAgg
    rw [Sem.run_bind, run_underlying hu w]
    rfl
  cases hq : P.info? e with
  | none => simp [hq] at hs
  | some inf =>
    have hz : inf.size = 1 := by simpa [hq] using hs
    have hix : (i : Int) < (n : Int) := h1.2
    simp [Instr.index, run_underlying h, asIntOf, hi, sizeOf, typeInfo, hq, hz, part, hagg, hv, Sem.run_bind]
theorem size_byte : (Tryz.prog.info? 5).map (·.size) = some 1 := by kernel_rfl
/-- bytes copied into a block, from place u on -/
theorem copy_bytes_at {T : TypeId} (w0 : World) (g u m n c k : Nat) (a : Option Addr) (l : List (BitVec 8)) (cs : Array Value) (hh : Has w0 g T cs) (hw : Bytes8 w0 a n l) (hk : k = Nat.min n m) (hu : u + m ≤ cs.size) :
    (Builtin.copy_ #[163, 163] 3 #[.slice (some ⟨g, u, none⟩) m m, .slice a n c]).run Tryz.prog w0 = .ok (goInt k) (w0.setCells g u (blist (l.take k))) := by
  have hkn : k ≤ n := by rw [hk]; exact Nat.min_le_left _ _
  have hkm : k ≤ m := by rw [hk]; exact Nat.min_le_right _ _
  have hlen : (l.take k).length = k := by rw [List.length_take, hw.1]; omega
  rcases Nat.eq_zero_or_pos k with h0 | h0
  · subst h0
    have := run_copy_none (P := Tryz.prog) w0 163 163 3 5 (some ⟨g, u, none⟩) a m m n c Tryz.underlying163 size_byte hk.symm
    rw [this, List.take_zero]
    rfl
  · obtain ⟨ad, rfl, _⟩ := hw.2.2 0 (by omega)
    have := run_copy_cells (P := Tryz.prog) w0 163 163 3 5 g u m m ad n c (blist (l.take k)) Tryz.underlying163 size_byte
      (by rw [blist_length, hlen, hk])
      (fun j v hv => by
        have hj : j < k := by
          have := (List.getElem?_eq_some_iff.1 hv).1
          rwa [blist_length, hlen] at this
        obtain ⟨x, e, hx⟩ := hw.2.2 j (by omega)
        injection e with e
        subst e
        rw [hx, ← hv, blist_at (l.take k) j (by omega)]
        congr 3
        unfold cb
        rw [List.getD_eq_getElem?_getD, List.getD_eq_getElem?_getD, List.getElem?_take, if_pos hj])
      (fun j hj => by
        rw [blist_length, hlen] at hj
        rw [hh.cell, Array.getElem?_eq_getElem (by omega)]
        rfl)
      (fun j hj => hh.loose _) (blist_one _)
    rw [this, blist_length, hlen]
end Go.Proofs.YtdfplenniamnoaaGreatDoor

/-! transactions: as lists, as cells, as arguments; which are the same -/
namespace Go.Proofs.YtdfplenniamnoaaGreatDoor
open Go Go.RowKit Go.ChangeShapes Go.WideShapes
namespace Tx
structure Sp where
  h : List (BitVec 8)
  n : Int
  key : List (BitVec 8)
  sl : BitVec 64
structure Co where
  v : Int
  lock : BitVec 64
structure T where
  sp : List Sp
  co : List Co
  firm : Bool
theorem sp_ext {a b : Sp} : a = b ↔ a.h = b.h ∧ a.n = b.n ∧ a.key = b.key ∧ a.sl = b.sl := by
  cases a; cases b; simp
theorem co_ext {a b : Co} : a = b ↔ a.v = b.v ∧ a.lock = b.lock := by
  cases a; cases b; simp
theorem t_ext {a b : T} : a = b ↔ a.sp = b.sp ∧ a.co = b.co ∧ a.firm = b.firm := by
  cases a; cases b; simp
instance : DecidableEq Sp := fun _ _ => decidable_of_iff _ sp_ext.symm
instance : DecidableEq Co := fun _ _ => decidable_of_iff _ co_ext.symm
instance : DecidableEq T := fun _ _ => decidable_of_iff _ t_ext.symm
/-- what a spend's parts are within -/
def SpOk (s : Sp) : Prop := s.h.length = 32 ∧ (-9223372036854775808 ≤ s.n ∧ s.n < 9223372036854775808) ∧ s.key.length ≤ maxLen
def CoOk (c : Co) : Prop := -9223372036854775808 ≤ c.v ∧ c.v < 9223372036854775808
end Tx
def spCells (s : Tx.Sp) : List Value := blist s.h ++ [.int .i64 s.n, .string (strB s.key), .int .u64 (nb64 s.sl)]
def coCells (c : Tx.Co) : List Value := [.int .i64 c.v, .int .u64 (nb64 c.lock)]
theorem spCells_len {s : Tx.Sp} (h : s.h.length = 32) : (spCells s).length = 35 := by simp [spCells, blist_length, h]
/-- a spend as cells -/
def spRec : Rec Tx.Sp where
  k := 35
  cells := spCells
  ok := Tx.SpOk
  pos := by omega
  len t h := spCells_len h.1
  one t v hv := by
    unfold spCells at hv
    rcases List.mem_append.1 hv with h | h
    · exact blist_one _ v h
    · simp at h
      rcases h with rfl | rfl | rfl <;> rfl
/-- a coin as cells -/
def coRec : Rec Tx.Co where
  k := 2
  cells := coCells
  ok := Tx.CoOk
  pos := by omega
  len t _ := rfl
  one t v hv := by
    simp [coCells] at hv
    rcases hv with rfl | rfl <;> rfl
section
variable {H : Type} {enc : TypeId × Value → H} {w : World} {base : Nat} {spare : Nat → Bool} {held : Bool}
theorem at_one {cs : List Value} (j : Nat) (v : Value) (e : (cs.drop j).take 1 = [v]) : cs[j]? = some v := by
  have := congrArg (fun l : List Value => l[0]?) e
  simpa [List.getElem?_take, List.getElem?_drop] using this
theorem open_point {fuel : Nat} {cs : List Value} {x : DataW H × List MemPlace} (h : DataW.trod enc Tryz.prog w base spare held fuel 36 cs = some x) :
    ∃ (l : List (BitVec 8)) (n : Int), cs = blist l ++ [.int .i64 n] ∧ l.length = 32 ∧ (-9223372036854775808 ≤ n ∧ n < 9223372036854775808) := by
  obtain ⟨xs, m, _, _, hlen, hxl, hg⟩ := DataW.trod_struct Tryz.underlying36 h
  have hl : cs.length = 33 := hlen.trans (by kernel_rfl)
  have hx2 : xs.length = 2 := hxl
  have c1 : Tryz.prog.cellsOf 3 = 1 := by kernel_rfl
  have c4 : Tryz.prog.cellsOf 34 = 32 := by kernel_rfl
  have g0 : DataW.trod enc Tryz.prog w base spare held m 34 ((cs.drop 0).take (Tryz.prog.cellsOf 34)) = xs[0]? := hg 0 _ rfl
  have g1 : DataW.trod enc Tryz.prog w base spare held m 3 ((cs.drop 32).take (Tryz.prog.cellsOf 3)) = xs[1]? := hg 1 _ rfl
  rw [List.getElem?_eq_getElem (by omega)] at g0 g1
  rw [c4] at g0
  rw [c1] at g1
  obtain ⟨l, e0, l0⟩ := open_bytes32 Tryz.underlying34 Tryz.underlying5 (by kernel_rfl) c4 g0
  obtain ⟨z1, e1, _, b1⟩ := DataW.trod_int Tryz.underlying3 g1
  have k1 := bounds_i64 b1
  refine ⟨l, z1, ?_, l0, by omega⟩
  have h2 : cs = cs.take 32 ++ cs.drop 32 := (List.take_append_drop 32 cs).symm
  have h3 : cs.drop 32 = [.int .i64 z1] := by
    rw [← e1]
    exact (List.take_of_length_le (by simp [hl])).symm
  rw [h2, h3, ← e0]
  rfl
theorem open_spend {fuel : Nat} {cs : List Value} {x : DataW H × List MemPlace} (h : DataW.trod enc Tryz.prog w base spare held fuel 110 cs = some x) : ∃ s : Tx.Sp, cs = spCells s ∧ Tx.SpOk s := by
  obtain ⟨xs, m, _, _, hlen, hxl, hg⟩ := DataW.trod_struct Tryz.underlying110 h
  have hl : cs.length = 35 := hlen.trans (by kernel_rfl)
  have hx3 : xs.length = 3 := hxl
  have c2 : Tryz.prog.cellsOf 37 = 1 := by kernel_rfl
  have c3 : Tryz.prog.cellsOf 9 = 1 := by kernel_rfl
  have c4 : Tryz.prog.cellsOf 36 = 33 := by kernel_rfl
  have g0 : DataW.trod enc Tryz.prog w base spare held m 36 ((cs.drop 0).take (Tryz.prog.cellsOf 36)) = xs[0]? := hg 0 _ rfl
  have g1 : DataW.trod enc Tryz.prog w base spare held m 9 ((cs.drop 33).take (Tryz.prog.cellsOf 9)) = xs[1]? := hg 1 _ rfl
  have g2 : DataW.trod enc Tryz.prog w base spare held m 37 ((cs.drop 34).take (Tryz.prog.cellsOf 37)) = xs[2]? := hg 2 _ rfl
  rw [List.getElem?_eq_getElem (by omega)] at g0 g1 g2
  rw [c4] at g0
  rw [c3] at g1
  rw [c2] at g2
  obtain ⟨l, n, e0, l0, hn⟩ := open_point g0
  obtain ⟨s, e1, _, b1⟩ := DataW.trod_string Tryz.underlying9 g1
  obtain ⟨z2, e2, _, b2⟩ := DataW.trod_int Tryz.underlying37 g2
  obtain ⟨x2, rfl⟩ := u64_of_bounds (bounds_u64 b2).1 (by have := (bounds_u64 b2).2; omega)
  obtain ⟨k, rfl⟩ := str_of s
  refine ⟨⟨l, n, k, x2⟩, ?_, l0, hn, by rw [strB_size] at b1; exact b1⟩
  have a1 := at_one 33 _ e1
  have a2 := at_one 34 _ e2
  have h2 : cs = cs.take 33 ++ cs.drop 33 := (List.take_append_drop 33 cs).symm
  have h3 : cs.drop 33 = [.string (strB k), .int .u64 (nb64 x2)] := by
    apply List.ext_getElem?
    intro j
    rw [List.getElem?_drop]
    match j with
    | 0 => exact a1
    | 1 => exact a2
    | j + 2 => rw [List.getElem?_eq_none (by omega)]; rfl
  rw [List.drop_zero] at e0
  rw [h2, h3, e0]
  unfold spCells
  simp
theorem open_coin {fuel : Nat} {cs : List Value} {x : DataW H × List MemPlace} (h : DataW.trod enc Tryz.prog w base spare held fuel 39 cs = some x) : ∃ c : Tx.Co, cs = coCells c ∧ Tx.CoOk c := by
  obtain ⟨xs, m, _, _, hlen, hxl, hg⟩ := DataW.trod_struct Tryz.underlying39 h
  have hl : cs.length = 2 := hlen.trans (by kernel_rfl)
  have hx2 : xs.length = 2 := hxl
  have c1 : Tryz.prog.cellsOf 3 = 1 := by kernel_rfl
  have c2 : Tryz.prog.cellsOf 37 = 1 := by kernel_rfl
  have g0 : DataW.trod enc Tryz.prog w base spare held m 3 ((cs.drop 0).take (Tryz.prog.cellsOf 3)) = xs[0]? := hg 0 _ rfl
  have g1 : DataW.trod enc Tryz.prog w base spare held m 37 ((cs.drop 1).take (Tryz.prog.cellsOf 37)) = xs[1]? := hg 1 _ rfl
  rw [List.getElem?_eq_getElem (by omega)] at g0 g1
  rw [c1] at g0
  rw [c2] at g1
  obtain ⟨z0, e0, _, b0⟩ := DataW.trod_int Tryz.underlying3 g0
  obtain ⟨z1, e1, _, b1⟩ := DataW.trod_int Tryz.underlying37 g1
  obtain ⟨x1, rfl⟩ := u64_of_bounds (bounds_u64 b1).1 (by have := (bounds_u64 b1).2; omega)
  have k0 := bounds_i64 b0
  refine ⟨⟨z0, x1⟩, ?_, by show _ ∧ _; dsimp only; omega⟩
  have a0 := at_one 0 _ e0
  have a1 := at_one 1 _ e1
  apply List.ext_getElem?
  intro j
  match j with
  | 0 => exact a0
  | 1 => exact a1
  | j + 2 => rw [List.getElem?_eq_none (by omega)]; rfl
end
/-- a transaction as a value: where its spends and coins lie -/
abbrev txv (a : Option Addr) (n q : Nat) (b : Option Addr) (m r : Nat) (f : Bool) : Value := .agg #[.slice a n q, .slice b m r, .bool f]
/-- what can be read there -/
structure TxAt (w : World) (a : Option Addr) (n q : Nat) (b : Option Addr) (m r : Nat) (t : Tx.T) : Prop where
  sp : Recs spRec w a n t.sp
  co : Recs coRec w b m t.co
  nq : n ≤ q
  mr : m ≤ r
  q0 : a = none → q = 0
  r0 : b = none → r = 0
section
variable {w w' : World} {a b : Option Addr} {n q m r : Nat} {t : Tx.T}
theorem TxAt.below (h : TxAt w a n q b m r t) (hb : Below w.heap.size w w') : TxAt w' a n q b m r t := ⟨h.sp.below hb, h.co.below hb, h.nq, h.mr, h.q0, h.r0⟩
theorem TxAt.draw (h : TxAt w a n q b m r t) : TxAt w.drew a n q b m r t := ⟨h.sp.draw, h.co.draw, h.nq, h.mr, h.q0, h.r0⟩
end
section
variable {H : Type} {enc : TypeId × Value → H} {W : World} {base : Nat} {v : Value} {d : DataW H} {p : List MemPlace}
end
end Go.Proofs.YtdfplenniamnoaaGreatDoor

/-! spends, coins, points compared -/
namespace Go.Proofs.YtdfplenniamnoaaGreatDoor
open Go Go.RowKit Go.ChangeShapes Go.WideShapes
section
variable {P : Program} (w : World)
theorem run_part_agg {t : TypeId} {d : TypeDesc} {k off : Nat} {cs : Array Value} (hu : P.underlying t = some d) (hd : d.isRow = true) (hs : (P.info? t).map (·.size) = some k) : (part t cs off).run P w = .ok (.agg (cs.extract off (off + k))) w := by
  cases hq : P.info? t with
  | none => simp [hq] at hs
  | some j =>
    have hz : j.size = k := by simpa [hq] using hs
    have hagg : (isAgg t).run P w = .ok true w := by
      unfold isAgg
      rw [Sem.run_bind, run_underlying hu w]
      cases d <;> first | rfl | (exact absurd hd (by simp [TypeDesc.isRow]))
    simp [part, sizeOf, typeInfo, hq, hz, hagg]
theorem run_part_one {t : TypeId} {d : TypeDesc} {off : Nat} {cs : Array Value} {v : Value} (hu : P.underlying t = some d) (hd : d.isRow = false) (hv : cs[off]? = some v) : (part t cs off).run P w = .ok v w := by
  have hagg : (isAgg t).run P w = .ok false w := by
    unfold isAgg
    rw [Sem.run_bind, run_underlying hu w]
    cases d <;> first | rfl | (exact absurd hd (by simp [TypeDesc.isRow]))
  simp [part, hagg, hv]
end
theorem eqFields_cons {P : Program} (w : World) (d : Nat) (xs ys : Array Value) (f : Field) (fs : List Field) (a b : Value) (r : Bool) (hn : f.name ≠ "_") (h1 : (part f.type xs f.offset).run P w = .ok a w) (h2 : (part f.type ys f.offset).run P w = .ok b w) (h3 : (Op.equalIn d f.type a b).run P w = .ok r w) :
    (Op.eqFields d xs ys (f :: fs)).run P w = if r = true then (Op.eqFields d xs ys fs).run P w else .ok false w := by
  rw [Op.eqFields, if_pos hn, Sem.run_bind, h1, Result.andThen_ok, Sem.run_bind, h2, Result.andThen_ok, Sem.run_bind, h3, Result.andThen_ok]
  cases r
  · rfl
  · rfl
theorem eqFields_nil {P : Program} (w : World) (d : Nat) (xs ys : Array Value) : (Op.eqFields d xs ys []).run P w = .ok true w := rfl
/-- a point as cells -/
def ptCells (l : List (BitVec 8)) (n : Int) : List Value := blist l ++ [.int .i64 n]
theorem ptCells_len {l : List (BitVec 8)} {n : Int} (h : l.length = 32) : (ptCells l n).length = 33 := by simp [ptCells, blist_length, h]
theorem ptCells_last {l : List (BitVec 8)} {n : Int} (h : l.length = 32) : (ptCells l n).toArray[32]? = some (.int .i64 n) := by
  unfold ptCells
  rw [List.getElem?_toArray, List.getElem?_append_right (by rw [blist_length, h]; omega), blist_length, h]
  rfl
theorem extract_front (l r : List Value) (k : Nat) (h : l.length = k) : (l ++ r).toArray.extract 0 (0 + k) = l.toArray := by
  subst h
  apply Array.ext'
  simp
theorem run_eq_point (w : World) (d : Nat) (l m : List (BitVec 8)) (x y : Int) (hl : l.length = 32) (hm : m.length = 32) :
    (Op.equalIn (d + 3) 36 (.agg (ptCells l x).toArray) (.agg (ptCells m y).toArray)).run Tryz.prog w = .ok (decide (l = m ∧ x = y)) w := by
  rw [run_equalIn_struct w (d + 2) _ _ _ (by simp only [Program.fieldsOf, Tryz.underlying36]) (by kernel_rfl)]
  simp only [Program.fieldsOf, Tryz.underlying36]
  have p1 := run_part_agg (P := Tryz.prog) w (cs := (ptCells l x).toArray) (off := 0) (k := 32) Tryz.underlying34 rfl (by kernel_rfl)
  have p2 := run_part_agg (P := Tryz.prog) w (cs := (ptCells m y).toArray) (off := 0) (k := 32) Tryz.underlying34 rfl (by kernel_rfl)
  unfold ptCells at p1 p2
  rw [extract_front _ _ 32 (by rw [blist_length, hl])] at p1
  rw [extract_front _ _ 32 (by rw [blist_length, hm])] at p2
  rw [show blist l ++ [.int .i64 x] = ptCells l x from rfl] at p1
  rw [show blist m ++ [.int .i64 y] = ptCells m y from rfl] at p2
  have q1 := run_part_one (P := Tryz.prog) w (cs := (ptCells l x).toArray) (off := 32) (v := .int .i64 x) Tryz.underlying3 rfl (ptCells_last hl)
  have q2 := run_part_one (P := Tryz.prog) w (cs := (ptCells m y).toArray) (off := 32) (v := .int .i64 y) Tryz.underlying3 rfl (ptCells_last hm)
  have e1 := run_equal_bytes (P := Tryz.prog) (d := d) w Tryz.underlying34 Tryz.underlying5 (by kernel_rfl) l m hl hm
  have e2 := run_equalIn_int (P := Tryz.prog) w (d + 1) 3 .i64 .i64 x y Tryz.underlying3
  refine Eq.trans (eqFields_cons w _ _ _ _ _ _ _ _ (by simp) p1 p2 e1) ?_
  by_cases hlm : l = m
  · rw [if_pos (decide_eq_true hlm)]
    refine Eq.trans (eqFields_cons w _ _ _ _ _ _ _ _ (by simp) q1 q2 e2) ?_
    rw [eqFields_nil]
    by_cases hxy : x = y
    · rw [if_pos (by simp [hxy]), decide_eq_true ⟨hlm, hxy⟩]
    · rw [if_neg (by simp [hxy]), decide_eq_false (fun e => hxy e.2)]
  · rw [if_neg (by simp [hlm]), decide_eq_false (fun e => hlm e.1)]
theorem run_eq_spend (w : World) (d : Nat) (s o : Tx.Sp) (hs : s.h.length = 32) (ho : o.h.length = 32) :
    (Op.equalIn (d + 4) 110 (.agg (spCells s).toArray) (.agg (spCells o).toArray)).run Tryz.prog w = .ok (decide (s = o)) w := by
  rw [run_equalIn_struct w (d + 3) _ _ _ (by simp only [Program.fieldsOf, Tryz.underlying110]) (by kernel_rfl)]
  simp only [Program.fieldsOf, Tryz.underlying110]
  have cut : ∀ u : Tx.Sp, spCells u = (ptCells u.h u.n) ++ [.string (strB u.key), .int .u64 (nb64 u.sl)] := fun u => by unfold spCells ptCells; simp
  have pt : ∀ u : Tx.Sp, u.h.length = 32 → (part 36 (spCells u).toArray 0).run Tryz.prog w = .ok (.agg (ptCells u.h u.n).toArray) w := fun u hu => by
    have p1 := run_part_agg (P := Tryz.prog) w (cs := (spCells u).toArray) (off := 0) (k := 33) Tryz.underlying36 rfl (by kernel_rfl)
    rw [cut u, extract_front _ _ 33 (ptCells_len hu)] at p1
    rw [cut u]
    exact p1
  have ky : ∀ u : Tx.Sp, u.h.length = 32 → (part 9 (spCells u).toArray 33).run Tryz.prog w = .ok (.string (strB u.key)) w := fun u hu =>
    run_part_one (P := Tryz.prog) w Tryz.underlying9 rfl (by rw [cut u, List.getElem?_toArray, List.getElem?_append_right (by simp [ptCells_len hu])]; simp [ptCells_len hu])
  have se : ∀ u : Tx.Sp, u.h.length = 32 → (part 37 (spCells u).toArray 34).run Tryz.prog w = .ok (.int .u64 (nb64 u.sl)) w := fun u hu =>
    run_part_one (P := Tryz.prog) w Tryz.underlying37 rfl (by rw [cut u, List.getElem?_toArray, List.getElem?_append_right (by simp [ptCells_len hu])]; simp [ptCells_len hu])
  have e1 := run_eq_point w d s.h o.h s.n o.n hs ho
  have e2 := run_equalIn_string (P := Tryz.prog) w (d + 2) 9 (strB s.key) (strB o.key) Tryz.underlying9
  have e3 := run_equalIn_int (P := Tryz.prog) w (d + 2) 37 .u64 .u64 (nb64 s.sl) (nb64 o.sl) Tryz.underlying37
  rw [strB_beq] at e2
  rw [u64_beq] at e3
  have hx := Tx.sp_ext (a := s) (b := o)
  refine Eq.trans (eqFields_cons w _ _ _ _ _ _ _ _ (by simp) (pt s hs) (pt o ho) e1) ?_
  by_cases h1 : s.h = o.h ∧ s.n = o.n
  · rw [if_pos (decide_eq_true h1)]
    refine Eq.trans (eqFields_cons w _ _ _ _ _ _ _ _ (by simp) (ky s hs) (ky o ho) e2) ?_
    by_cases h2 : s.key = o.key
    · rw [if_pos (decide_eq_true h2)]
      refine Eq.trans (eqFields_cons w _ _ _ _ _ _ _ _ (by simp) (se s hs) (se o ho) e3) ?_
      rw [eqFields_nil]
      by_cases h3 : s.sl = o.sl
      · rw [if_pos (by simp [h3]), decide_eq_true (hx.2 ⟨h1.1, h1.2, h2, h3⟩)]
      · rw [if_neg (by simp [h3]), decide_eq_false (fun e => h3 (hx.1 e).2.2.2)]
    · rw [if_neg (by simp [h2]), decide_eq_false (fun e => h2 (hx.1 e).2.2.1)]
  · rw [if_neg (by simp [h1]), decide_eq_false (fun e => h1 ⟨(hx.1 e).1, (hx.1 e).2.1⟩)]
theorem run_eq_coin (w : World) (d : Nat) (s o : Tx.Co) :
    (Op.equalIn (d + 2) 39 (.agg (coCells s).toArray) (.agg (coCells o).toArray)).run Tryz.prog w = .ok (decide (s = o)) w := by
  rw [run_equalIn_struct w (d + 1) _ _ _ (by simp only [Program.fieldsOf, Tryz.underlying39]) (by kernel_rfl)]
  simp only [Program.fieldsOf, Tryz.underlying39]
  have va : ∀ u : Tx.Co, (part 3 (coCells u).toArray 0).run Tryz.prog w = .ok (.int .i64 u.v) w := fun u => run_part_one (P := Tryz.prog) w Tryz.underlying3 rfl rfl
  have lo : ∀ u : Tx.Co, (part 37 (coCells u).toArray 1).run Tryz.prog w = .ok (.int .u64 (nb64 u.lock)) w := fun u => run_part_one (P := Tryz.prog) w Tryz.underlying37 rfl rfl
  have e2 := run_equalIn_int (P := Tryz.prog) w d 3 .i64 .i64 s.v o.v Tryz.underlying3
  have e3 := run_equalIn_int (P := Tryz.prog) w d 37 .u64 .u64 (nb64 s.lock) (nb64 o.lock) Tryz.underlying37
  rw [u64_beq] at e3
  have hx := Tx.co_ext (a := s) (b := o)
  refine Eq.trans (eqFields_cons w _ _ _ _ _ _ _ _ (by simp) (va s) (va o) e2) ?_
  by_cases h1 : s.v = o.v
  · rw [if_pos (by simp [h1])]
    refine Eq.trans (eqFields_cons w _ _ _ _ _ _ _ _ (by simp) (lo s) (lo o) e3) ?_
    rw [eqFields_nil]
    by_cases h2 : s.lock = o.lock
    · rw [if_pos (by simp [h2]), decide_eq_true (hx.2 ⟨h1, h2⟩)]
    · rw [if_neg (by simp [h2]), decide_eq_false (fun e => h2 (hx.1 e).2)]
  · rw [if_neg (by simp [h1]), decide_eq_false (fun e => h1 (hx.1 e).1)]
theorem neq_spend (w : World) (s o : Tx.Sp) (hs : s.h.length = 32) (ho : o.h.length = 32) : (binOp .neq 110 (.agg (spCells s).toArray) (.agg (spCells o).toArray)).run Tryz.prog w = .ok (.bool (!decide (s = o))) w := by
  rw [run_neq_struct, run_eq_spend w 9996 s o hs ho]
  rfl
theorem neq_coin (w : World) (s o : Tx.Co) : (binOp .neq 39 (.agg (coCells s).toArray) (.agg (coCells o).toArray)).run Tryz.prog w = .ok (.bool (!decide (s = o))) w := by
  rw [run_neq_struct, run_eq_coin w 9998 s o]
  rfl
theorem eql_point (w : World) (l m : List (BitVec 8)) (x y : Int) (hl : l.length = 32) (hm : m.length = 32) :
    (binOp .eql 36 (.agg (ptCells l x).toArray) (.agg (ptCells m y).toArray)).run Tryz.prog w = .ok (.bool (decide (l = m ∧ x = y))) w := by
  rw [run_eql_struct, run_eq_point w 9997 l m x y hl hm]
  rfl
theorem neq_point (w : World) (l m : List (BitVec 8)) (x y : Int) (hl : l.length = 32) (hm : m.length = 32) :
    (binOp .neq 36 (.agg (ptCells l x).toArray) (.agg (ptCells m y).toArray)).run Tryz.prog w = .ok (.bool (!decide (l = m ∧ x = y))) w := by
  rw [run_neq_struct, run_eq_point w 9997 l m x y hl hm]
  rfl
end Go.Proofs.YtdfplenniamnoaaGreatDoor

/-! A map of points to coins: what it holds, key by key; what the operations on it answer -/
namespace Go.Proofs.YtdfplenniamnoaaGreatDoor
open Go Go.RowKit Go.ChangeShapes Go.WideShapes
namespace Cs
abbrev Pt := List (BitVec 8) × Int
def ptOk (p : Pt) : Prop := p.1.length = 32 ∧ -9223372036854775808 ≤ p.2 ∧ p.2 < 9223372036854775808
def ptV (p : Pt) : Value := .agg (ptCells p.1 p.2).toArray
def coV (c : Tx.Co) : Value := .agg (coCells c).toArray
/-- where a point stands, its coin -/
def idx (p : Pt) : List (Pt × Tx.Co) → Option (Nat × Tx.Co)
  | [] => none
  | x :: M => if p = x.1 then some (0, x.2) else (idx p M).map (fun r => (r.1 + 1, r.2))
def look (M : List (Pt × Tx.Co)) (p : Pt) : Option Tx.Co := (idx p M).map (·.2)
def put (M : List (Pt × Tx.Co)) (p : Pt) (c : Tx.Co) : List (Pt × Tx.Co) := match idx p M with
  | some r => M.set r.1 (p, c)
  | none => M ++ [(p, c)]
def del (M : List (Pt × Tx.Co)) (p : Pt) : List (Pt × Tx.Co) := match idx p M with
  | some r => M.eraseIdx r.1
  | none => M
theorem idx_at {p : Pt} : ∀ {M : List (Pt × Tx.Co)} {r : Nat × Tx.Co}, idx p M = some r → M[r.1]? = some (p, r.2)
  | [], r, h => by cases h
  | x :: M, r, h => by
    unfold idx at h
    split at h
    · rename_i e
      injection h with h
      subst h
      subst e
      rfl
    · obtain ⟨s, hs, rfl⟩ := Option.map_eq_some_iff.1 h
      show M[s.1]? = some (p, s.2)
      exact idx_at hs
theorem idx_none {p : Pt} : ∀ {M : List (Pt × Tx.Co)}, idx p M = none ↔ ∀ x, x ∈ M → x.1 ≠ p
  | [] => ⟨(fun _ x h => by cases h), (fun _ => rfl)⟩
  | x :: M => by
    unfold idx
    split
    · rename_i e
      exact ⟨(fun h => by cases h), fun h => absurd e.symm (h x List.mem_cons_self)⟩
    · rename_i e
      rw [Option.map_eq_none_iff, idx_none]
      refine ⟨fun h y hy => ?_, fun h y hy => h y (List.mem_cons_of_mem _ hy)⟩
      rcases List.mem_cons.1 hy with rfl | hy
      · exact fun e2 => e e2.symm
      · exact h y hy
end Cs
/-- block b is a map of points to coins that holds M, in the order of the entries -/
def MapAt (w : World) (b : Nat) (M : List (Cs.Pt × Tx.Co)) : Prop :=
  ∃ (es : Array MapEntry) (clock : Nat), w.heap[b]? = some (.map es clock) ∧ es.toList.map (fun e => (e.key, e.val)) = M.map (fun x => (Cs.ptV x.1, Cs.coV x.2)) ∧ (M.map (·.1)).Nodup ∧ (∀ x, x ∈ M → Cs.ptOk x.1 ∧ Tx.CoOk x.2) ∧
    (∀ e, e ∈ es.toList → e.born < clock) ∧ (es.toList.map (·.born)).Nodup
theorem MapAt.lt {w : World} {b : Nat} {M : List (Cs.Pt × Tx.Co)} (h : MapAt w b M) : b < w.heap.size := by
  obtain ⟨es, clock, h, _⟩ := h
  exact (Array.getElem?_eq_some_iff.1 h).1
theorem MapAt.moved {F : Nat → Prop} {w w' : World} {b : Nat} {M : List (Cs.Pt × Tx.Co)} (h : MapAt w b M) (hm : Moved F w w') (hb : ¬ F b) : MapAt w' b M := by
  have hl := h.lt
  obtain ⟨es, clock, h1, h2⟩ := h
  exact ⟨es, clock, (hm.block b hl hb).trans h1, h2⟩
theorem MapAt.below {w w' : World} {b : Nat} {M : List (Cs.Pt × Tx.Co)} (h : MapAt w b M) (hb : Below w.heap.size w w') : MapAt w' b M := h.moved (F := fun _ => False) (Moved.of_below hb) (fun e => e)
theorem MapAt.fresh (w : World) : MapAt (w.alloc (.map #[] 0)) w.heap.size [] :=
  ⟨#[], 0, (by show (w.heap.push _)[w.heap.size]? = _; exact Array.getElem?_push_size), rfl, List.nodup_nil, (fun _ h => by cases h), (fun _ h => by cases h), List.nodup_nil⟩
set_option maxRecDepth 100000 in
theorem run_checkPt32 (em : Bool) (w : World) (d0 d1 d2 d3 d4 d5 d6 d7 d8 d9 d10 d11 d12 d13 d14 d15 d16 d17 d18 d19 d20 d21 d22 d23 d24 d25 d26 d27 d28 d29 d30 d31 : BitVec 8) (n : Int) : (Instr.checkKey em 10000 36 (.agg (ptCells [d0, d1, d2, d3, d4, d5, d6, d7, d8, d9, d10, d11, d12, d13, d14, d15, d16, d17, d18, d19, d20, d21, d22, d23, d24, d25, d26, d27, d28, d29, d30, d31] n).toArray)).run Tryz.prog w = .ok () w := by kernel_rfl
theorem run_checkPt (em : Bool) (w : World) : ∀ (p : Cs.Pt), p.1.length = 32 → (Instr.checkKey em 10000 36 (Cs.ptV p)).run Tryz.prog w = .ok () w
  | ([d0, d1, d2, d3, d4, d5, d6, d7, d8, d9, d10, d11, d12, d13, d14, d15, d16, d17, d18, d19, d20, d21, d22, d23, d24, d25, d26, d27, d28, d29, d30, d31], n), _ => run_checkPt32 em w d0 d1 d2 d3 d4 d5 d6 d7 d8 d9 d10 d11 d12 d13 d14 d15 d16 d17 d18 d19 d20 d21 d22 d23 d24 d25 d26 d27 d28 d29 d30 d31 n
set_option maxRecDepth 100000 in
theorem run_findAsking (w : World) (p : Cs.Pt) (hp : p.1.length = 32) : ∀ (es : List MapEntry) (M : List (Cs.Pt × Tx.Co)) (i : Nat), es.map (fun e => (e.key, e.val)) = M.map (fun x => (Cs.ptV x.1, Cs.coV x.2)) → (∀ x, x ∈ M → Cs.ptOk x.1 ∧ Tx.CoOk x.2) →
    (Instr.findAsking 36 (Cs.ptV p) es i).run Tryz.prog w = .ok ((Cs.idx p M).map (fun r => (i + r.1, Cs.coV r.2))) w
  | [], [], i, _, _ => rfl
  | [], x :: M, i, h, _ => by cases h
  | e :: es, [], i, h, _ => by cases h
  | e :: es, x :: M, i, h, hM => by
    rw [List.map_cons, List.map_cons] at h
    injection h with h1 h2
    injection h1 with hk hv
    have ih := run_findAsking w p hp es M (i + 1) h2 (fun y hy => hM y (List.mem_cons_of_mem _ hy))
    have he := run_eq_point w 9997 p.1 x.1.1 p.2 x.1.2 hp (hM x List.mem_cons_self).1.1
    unfold Instr.findAsking
    rw [hk, hv]
    show ((Op.equalIn 10000 36 (Cs.ptV p) (Cs.ptV x.1)) >>= _ : Sem _).run Tryz.prog w = _
    rw [Sem.run_bind, show (Op.equalIn 10000 36 (Cs.ptV p) (Cs.ptV x.1)).run Tryz.prog w = _ from he]
    by_cases hx : p = x.1
    · have h3 : decide (p.1 = x.1.1 ∧ p.2 = x.1.2) = true := decide_eq_true ⟨congrArg (·.1) hx, congrArg (·.2) hx⟩
      rw [h3, Cs.idx, if_pos hx]
      rfl
    · have h3 : decide (p.1 = x.1.1 ∧ p.2 = x.1.2) = false := decide_eq_false (fun e => hx (Prod.ext e.1 e.2))
      rw [h3, Cs.idx, if_neg hx, Option.map_map]
      show (Instr.findAsking 36 (Cs.ptV p) es (i + 1)).run Tryz.prog w = _
      rw [ih]
      congr 2
      funext r
      show (i + 1 + r.1, Cs.coV r.2) = (i + (r.1 + 1), Cs.coV r.2)
      rw [Nat.add_assoc, Nat.add_comm 1]
theorem run_findPt (w : World) (p : Cs.Pt) (hp : p.1.length = 32) (es : List MapEntry) (M : List (Cs.Pt × Tx.Co)) (h : es.map (fun e => (e.key, e.val)) = M.map (fun x => (Cs.ptV x.1, Cs.coV x.2))) (hM : ∀ x, x ∈ M → Cs.ptOk x.1 ∧ Tx.CoOk x.2) :
    (Instr.findKey 36 (Cs.ptV p) es).run Tryz.prog w = .ok ((Cs.idx p M).map (fun r => (r.1, Cs.coV r.2))) w := by
  have hf := run_findAsking w p hp es M 0 h hM
  simp only [Nat.zero_add] at hf
  rw [run_findKey_eq (P := Tryz.prog) (w := w) (k := 36) (by rw [Tryz.underlying36]) (Cs.ptV p) es]
  exact hf
theorem blist_ints (l : List (BitVec 8)) : ∀ v, v ∈ blist l → ∃ k x, v = .int k x := fun v hv => by
  obtain ⟨x, _, rfl⟩ := List.mem_map.1 (show v ∈ l.map _ from hv)
  exact ⟨_, _, rfl⟩
theorem same_ints : ∀ (cs : List Value), (∀ v, v ∈ cs → ∃ k x, v = .int k x) → (cs.zip cs).all (fun p => Instr.sameBits 9999 p.1 p.2) = true
  | [], _ => rfl
  | c :: cs, h => by
    obtain ⟨k, x, rfl⟩ := h c List.mem_cons_self
    rw [List.zip_cons_cons, List.all_cons, same_ints cs (fun v hv => h v (List.mem_cons_of_mem _ hv)), Bool.and_true]
    simp [Instr.sameBits]
theorem same_pt (p : Cs.Pt) : Instr.sameBits 10000 (Cs.ptV p) (Cs.ptV p) = true := by
  have h := same_ints (ptCells p.1 p.2) (fun v hv => by
    rcases List.mem_append.1 hv with h | h
    · exact blist_ints _ v h
    · exact ⟨_, _, List.mem_singleton.1 h⟩)
  show (_ == _ && _) = true
  rw [beq_self_eq_true, Bool.true_and]
  exact h
theorem zero_coin (w : World) : (zeroValue 39).run Tryz.prog w = .ok (Cs.coV ⟨0, 0#64⟩) w := by kernel_rfl
/-- v, ok := m[p] -/
theorem MapAt.look {w : World} {b : Nat} {M : List (Cs.Pt × Tx.Co)} (h : MapAt w b M) (p : Cs.Pt) (hp : p.1.length = 32) (c : Bool) :
    (Instr.lookup 111 (.map (some b)) (Cs.ptV p) c).run Tryz.prog w = .ok (if c then .tuple #[Cs.coV ((Cs.look M p).getD ⟨0, 0#64⟩), .bool (Cs.look M p).isSome] else Cs.coV ((Cs.look M p).getD ⟨0, 0#64⟩)) w := by
  obtain ⟨es, clock, hb, he, hn, hM, h1, h2⟩ := h
  have hf := run_findPt w p hp es.toList M he hM
  unfold Cs.look
  cases hi : Cs.idx p M with
  | none =>
    rw [hi] at hf
    simp [Instr.lookup, run_underlying Tryz.underlying111, MapKept.run_getObj_map hb, run_checkPt _ w p hp, hf, zero_coin w, Result.andThen]
  | some r =>
    rw [hi] at hf
    simp [Instr.lookup, run_underlying Tryz.underlying111, MapKept.run_getObj_map hb, run_checkPt _ w p hp, hf, Result.andThen]
theorem MapAt.len {w : World} {b : Nat} {M : List (Cs.Pt × Tx.Co)} (h : MapAt w b M) (ty : TypeId) : (Builtin.len_ #[111] ty #[.map (some b)]).run Tryz.prog w = .ok (.int .i64 M.length) w := by
  obtain ⟨es, clock, hb, he, hn, hM, h1, h2⟩ := h
  have e : es.size = M.length := by
    have e2 := congrArg List.length he
    simpa using e2
  simp [Builtin.len_, run_underlying Tryz.underlying111, MapKept.run_getObj_map hb, goInt, Result.andThen, e]
theorem moved_setBlock {w : World} {b : Nat} {es : Array MapEntry} {clock : Nat} (hb : w.heap[b]? = some (.map es clock)) (o : Obj) : Moved (fun j => j = b) w (ChangeMaps.setBlock w b o) :=
  ⟨rfl, rfl, rfl, by simp [ChangeMaps.setBlock], fun k _ hk => ChangeMaps.heap_setBlock_other hb o (fun e => hk e)⟩
namespace Cs
theorem put_keys {M : List (Pt × Tx.Co)} {p : Pt} {c : Tx.Co} (h : (M.map (·.1)).Nodup) : ((put M p c).map (·.1)).Nodup := by
  unfold put
  cases hi : idx p M with
  | none =>
    show ((M ++ [(p, c)]).map (·.1)).Nodup
    rw [List.map_append, List.nodup_append]
    refine ⟨h, by simp, fun a ha b hb => ?_⟩
    obtain ⟨x, hx, rfl⟩ := List.mem_map.1 ha
    obtain rfl : b = p := by simpa using hb
    exact idx_none.1 hi x hx
  | some r =>
    show ((M.set r.1 (p, c)).map (·.1)).Nodup
    have h2 := idx_at hi
    obtain ⟨h3, h4⟩ := List.getElem?_eq_some_iff.1 h2
    have e : (M.set r.1 (p, c)).map (·.1) = M.map (·.1) := by
      rw [List.map_set]
      apply List.ext_getElem?
      intro i
      rw [List.getElem?_set]
      split
      · rename_i e
        subst e
        rw [List.length_map]
        simp [h3, h4]
      · rfl
    rw [e]
    exact h
theorem put_mem {M : List (Pt × Tx.Co)} {p : Pt} {c : Tx.Co} {x : Pt × Tx.Co} (h : x ∈ put M p c) : x ∈ M ∨ x = (p, c) := by
  unfold put at h
  cases hi : idx p M with
  | none =>
    rw [hi] at h
    rcases List.mem_append.1 h with h | h
    · exact .inl h
    · exact .inr (List.mem_singleton.1 h)
  | some r =>
    rw [hi] at h
    exact List.mem_or_eq_of_mem_set h
end Cs
theorem keep_pt (w : World) (p : Cs.Pt) : (Instr.keyThatStays (Cs.ptV p) (Cs.ptV p)).run Tryz.prog w = .ok (Cs.ptV p) w := by
  simp [Instr.keyThatStays, same_pt p]
theorem entries_at {es : Array MapEntry} {M : List (Cs.Pt × Tx.Co)} (he : es.toList.map (fun e => (e.key, e.val)) = M.map (fun x => (Cs.ptV x.1, Cs.coV x.2))) {i : Nat} {x : Cs.Pt × Tx.Co} (hx : M[i]? = some x) : ∃ e, es[i]? = some e ∧ e.key = Cs.ptV x.1 ∧ e.val = Cs.coV x.2 := by
  have h := congrArg (fun l => l[i]?) he
  simp only [List.getElem?_map, hx, Option.map_some] at h
  cases h2 : es.toList[i]? with
  | none => rw [h2] at h; cases h
  | some e =>
    rw [h2] at h
    injection h with h
    injection h with h3 h4
    exact ⟨e, by rw [← Array.getElem?_toList]; exact h2, h3, h4⟩
/-- m[p] = c -/
theorem MapAt.put {w : World} {b : Nat} {M : List (Cs.Pt × Tx.Co)} (h : MapAt w b M) (p : Cs.Pt) (hp : Cs.ptOk p) (c : Tx.Co) (hc : Tx.CoOk c) :
    ∃ w', (Instr.mapUpdate 111 (.map (some b)) (Cs.ptV p) (Cs.coV c)).run Tryz.prog w = .ok () w' ∧ MapAt w' b (Cs.put M p c) ∧ Moved (fun j => j = b) w w' := by
  have hkeys := Cs.put_keys (p := p) (c := c) (M := M)
  have hmem := fun x => Cs.put_mem (p := p) (c := c) (M := M) (x := x)
  obtain ⟨es, clock, hb, he, hn, hM, h1, h2⟩ := h
  have hf := run_findPt w p hp.1 es.toList M he hM
  have hall : ∀ x, x ∈ Cs.put M p c → Cs.ptOk x.1 ∧ Tx.CoOk x.2 := fun x hx => by
    rcases hmem x hx with h | h
    · exact hM x h
    · rw [h]; exact ⟨hp, hc⟩
  cases hi : Cs.idx p M with
  | none =>
    rw [hi] at hf
    refine ⟨ChangeMaps.setBlock w b (.map (es.push { key := Cs.ptV p, val := Cs.coV c, born := clock }) (clock + 1)), ?_, ?_, moved_setBlock hb _⟩
    · simp [Instr.mapUpdate, run_underlying Tryz.underlying111, MapKept.run_getObj_map hb, run_checkPt _ w p hp.1, hf, MapKept.run_setObj_map _ hb, Result.andThen, ChangeMaps.setBlock]
    · refine ⟨_, _, ChangeMaps.heap_setBlock_same hb _, ?_, hkeys hn, hall, ?_, ?_⟩
      · rw [Cs.put, hi, Array.toList_push, List.map_append, he, List.map_append]
        rfl
      · intro e hm
        rw [Array.toList_push] at hm
        rcases List.mem_append.1 hm with hm | hm
        · have := h1 e hm
          omega
        · rw [List.mem_singleton.1 hm]
          show clock < clock + 1
          omega
      · rw [Array.toList_push, List.map_append, List.nodup_append]
        refine ⟨h2, by simp, fun x hx y hy => ?_⟩
        obtain ⟨e, hm, rfl⟩ := List.mem_map.1 hx
        have := h1 e hm
        have e2 : y = clock := by simpa using hy
        omega
  | some r =>
    rw [hi] at hf
    obtain ⟨e0, he0, hk0, hv0⟩ := entries_at he (Cs.idx_at hi)
    have hlt : r.1 < es.size := (Array.getElem?_eq_some_iff.1 he0).1
    refine ⟨ChangeMaps.setBlock w b (.map (es.modify r.1 fun e => { e with key := Cs.ptV p, val := Cs.coV c }) clock), ?_, ?_, moved_setBlock hb _⟩
    · simp [Instr.mapUpdate, run_underlying Tryz.underlying111, MapKept.run_getObj_map hb, run_checkPt _ w p hp.1, hf, he0, hk0, keep_pt w p, MapKept.run_setObj_map _ hb, Result.andThen, ChangeMaps.setBlock]
    · have hl : (es.modify r.1 fun e => { e with key := Cs.ptV p, val := Cs.coV c }).toList = es.toList.set r.1 { e0 with key := Cs.ptV p, val := Cs.coV c } := by
        apply List.ext_getElem?
        intro i
        rw [Array.getElem?_toList, Array.getElem?_modify, List.getElem?_set, Array.getElem?_toList]
        split
        · rename_i e
          subst e
          rw [he0]
          simp [hlt]
        · rfl
      refine ⟨_, _, ChangeMaps.heap_setBlock_same hb _, ?_, hkeys hn, hall, ?_, ?_⟩
      · rw [hl, List.map_set, he, Cs.put, hi, List.map_set]
      · rw [hl]
        intro e hm
        rcases List.mem_or_eq_of_mem_set hm with hm | hm
        · exact h1 e hm
        · rw [hm]
          exact h1 e0 (List.mem_of_getElem? (by rw [Array.getElem?_toList]; exact he0))
      · rw [hl, List.map_set]
        have e : (es.toList.map (·.born)).set r.1 e0.born = es.toList.map (·.born) := by
          apply List.ext_getElem?
          intro i
          rw [List.getElem?_set]
          split
          · rename_i e
            subst e
            rw [List.length_map, List.getElem?_map, Array.getElem?_toList, he0]
            simp [hlt]
          · rfl
        show ((es.toList.map (·.born)).set r.1 e0.born).Nodup
        rw [e]
        exact h2
/-- delete(m, p) -/
theorem MapAt.del {w : World} {b : Nat} {M : List (Cs.Pt × Tx.Co)} (h : MapAt w b M) (p : Cs.Pt) (hp : p.1.length = 32) (ty : TypeId) :
    ∃ w', (Builtin.delete_ #[111, 36] ty #[.map (some b), Cs.ptV p]).run Tryz.prog w = .ok (.tuple #[]) w' ∧ MapAt w' b (Cs.del M p) ∧ Moved (fun j => j = b) w w' := by
  obtain ⟨es, clock, hb, he, hn, hM, h1, h2⟩ := h
  have hf := run_findPt w p hp es.toList M he hM
  cases hi : Cs.idx p M with
  | none =>
    rw [hi] at hf
    refine ⟨ChangeMaps.setBlock w b (.map es clock), ?_, ⟨es, clock, ChangeMaps.heap_setBlock_same hb _, ?_⟩, moved_setBlock hb _⟩
    · simp [Builtin.delete_, run_underlying Tryz.underlying111, MapKept.run_getObj_map hb, run_checkPt _ w p hp, hf, MapKept.run_setObj_map _ hb, Result.andThen, ChangeMaps.setBlock]
    · rw [Cs.del, hi]
      exact ⟨he, hn, hM, h1, h2⟩
  | some r =>
    rw [hi] at hf
    have hsub : ∀ {α : Type} (l : List α) (i : Nat), (l.eraseIdx i).Sublist l := fun l i => List.eraseIdx_sublist l i
    have hlt : r.1 < es.size := (Array.getElem?_eq_some_iff.1 (entries_at he (Cs.idx_at hi)).choose_spec.1).1
    refine ⟨ChangeMaps.setBlock w b (.map (es.eraseIdxIfInBounds r.1) clock), ?_, ⟨_, clock, ChangeMaps.heap_setBlock_same hb _, ?_⟩, moved_setBlock hb _⟩
    · simp [Builtin.delete_, run_underlying Tryz.underlying111, MapKept.run_getObj_map hb, run_checkPt _ w p hp, hf, MapKept.run_setObj_map _ hb, Result.andThen, ChangeMaps.setBlock]
    · have hl : (es.eraseIdxIfInBounds r.1).toList = es.toList.eraseIdx r.1 := by
        simp [Array.eraseIdxIfInBounds, hlt]
      rw [hl, Cs.del, hi]
      refine ⟨?_, ?_, fun x hx => hM x ((hsub _ _).subset hx), fun e hm => h1 e ((hsub _ _).subset hm), ?_⟩
      · rw [ChangeMaps.map_eraseIdx, he, ChangeMaps.map_eraseIdx]
      · show ((M.eraseIdx r.1).map (·.1)).Nodup
        exact hn.sublist ((hsub _ _).map _)
      · exact h2.sublist ((hsub _ _).map _)
end Go.Proofs.YtdfplenniamnoaaGreatDoor
