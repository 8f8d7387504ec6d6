/- spends, coins, points compared -/
import Derived.Test.YtcedecljbgailaaDoorTxM
namespace Go.Proofs.YtcedecljbgailaaDoor
open Go Go.RowKit Go.ChangeShapes Go.WideShapes
section
variable {P : Program} (w : World)
theorem run_part_agg {t : TypeId} {d : TypeDesc} {k off : Nat} {cs : Array Value} (hu : P.underlying t = some d) (hd : d.isRow = true) (hs : (P.info? t).map (·.size) = some k) : (part t cs off).run P w = .ok (.agg (cs.extract off (off + k))) w := by
  cases hq : P.info? t with
  | none => simp [hq] at hs
  | some j =>
    have hz : j.size = k := by simpa [hq] using hs
    have hagg : (isAgg t).run P w = .ok true w := by
      unfold isAgg
      rw [Sem.run_bind, run_underlying hu w]
      cases d <;> first | rfl | (exact absurd hd (by simp [TypeDesc.isRow]))
    simp [part, sizeOf, typeInfo, hq, hz, hagg]
theorem run_part_one {t : TypeId} {d : TypeDesc} {off : Nat} {cs : Array Value} {v : Value} (hu : P.underlying t = some d) (hd : d.isRow = false) (hv : cs[off]? = some v) : (part t cs off).run P w = .ok v w := by
  have hagg : (isAgg t).run P w = .ok false w := by
    unfold isAgg
    rw [Sem.run_bind, run_underlying hu w]
    cases d <;> first | rfl | (exact absurd hd (by simp [TypeDesc.isRow]))
  simp [part, hagg, hv]
end
theorem eqFields_cons {P : Program} (w : World) (d : Nat) (xs ys : Array Value) (f : Field) (fs : List Field) (a b : Value) (r : Bool) (hn : f.name ≠ "_") (h1 : (part f.type xs f.offset).run P w = .ok a w) (h2 : (part f.type ys f.offset).run P w = .ok b w) (h3 : (Op.equalIn d f.type a b).run P w = .ok r w) :
    (Op.eqFields d xs ys (f :: fs)).run P w = if r = true then (Op.eqFields d xs ys fs).run P w else .ok false w := by
  rw [Op.eqFields, if_pos hn, Sem.run_bind, h1, Result.andThen_ok, Sem.run_bind, h2, Result.andThen_ok, Sem.run_bind, h3, Result.andThen_ok]
  cases r
  · rfl
  · rfl
theorem eqFields_nil {P : Program} (w : World) (d : Nat) (xs ys : Array Value) : (Op.eqFields d xs ys []).run P w = .ok true w := rfl
/-- a point as cells -/
def ptCells (l : List (BitVec 8)) (n : Int) : List Value := blist l ++ [.int .i64 n]
theorem ptCells_len {l : List (BitVec 8)} {n : Int} (h : l.length = 32) : (ptCells l n).length = 33 := by simp [ptCells, blist_length, h]
theorem ptCells_last {l : List (BitVec 8)} {n : Int} (h : l.length = 32) : (ptCells l n).toArray[32]? = some (.int .i64 n) := by
  unfold ptCells
  rw [List.getElem?_toArray, List.getElem?_append_right (by rw [blist_length, h]; omega), blist_length, h]
  rfl
theorem extract_front (l r : List Value) (k : Nat) (h : l.length = k) : (l ++ r).toArray.extract 0 (0 + k) = l.toArray := by
  subst h
  apply Array.ext'
  simp
theorem run_eq_point (w : World) (d : Nat) (l m : List (BitVec 8)) (x y : Int) (hl : l.length = 32) (hm : m.length = 32) :
    (Op.equalIn (d + 3) 25 (.agg (ptCells l x).toArray) (.agg (ptCells m y).toArray)).run Tryd.prog w = .ok (decide (l = m ∧ x = y)) w := by
  rw [run_equalIn_struct w (d + 2) _ _ _ (by simp only [Program.fieldsOf, Tryd.underlying25]) (by kernel_rfl)]
  simp only [Program.fieldsOf, Tryd.underlying25]
  have p1 := run_part_agg (P := Tryd.prog) w (cs := (ptCells l x).toArray) (off := 0) (k := 32) Tryd.underlying23 rfl (by kernel_rfl)
  have p2 := run_part_agg (P := Tryd.prog) w (cs := (ptCells m y).toArray) (off := 0) (k := 32) Tryd.underlying23 rfl (by kernel_rfl)
  unfold ptCells at p1 p2
  rw [extract_front _ _ 32 (by rw [blist_length, hl])] at p1
  rw [extract_front _ _ 32 (by rw [blist_length, hm])] at p2
  rw [show blist l ++ [.int .i64 x] = ptCells l x from rfl] at p1
  rw [show blist m ++ [.int .i64 y] = ptCells m y from rfl] at p2
  have q1 := run_part_one (P := Tryd.prog) w (cs := (ptCells l x).toArray) (off := 32) (v := .int .i64 x) Tryd.underlying3 rfl (ptCells_last hl)
  have q2 := run_part_one (P := Tryd.prog) w (cs := (ptCells m y).toArray) (off := 32) (v := .int .i64 y) Tryd.underlying3 rfl (ptCells_last hm)
  have e1 := run_equal_bytes (P := Tryd.prog) (d := d) w Tryd.underlying23 Tryd.underlying5 (by kernel_rfl) l m hl hm
  have e2 := run_equalIn_int (P := Tryd.prog) w (d + 1) 3 .i64 .i64 x y Tryd.underlying3
  refine Eq.trans (eqFields_cons w _ _ _ _ _ _ _ _ (by simp) p1 p2 e1) ?_
  by_cases hlm : l = m
  · rw [if_pos (decide_eq_true hlm)]
    refine Eq.trans (eqFields_cons w _ _ _ _ _ _ _ _ (by simp) q1 q2 e2) ?_
    rw [eqFields_nil]
    by_cases hxy : x = y
    · rw [if_pos (by simp [hxy]), decide_eq_true ⟨hlm, hxy⟩]
    · rw [if_neg (by simp [hxy]), decide_eq_false (fun e => hxy e.2)]
  · rw [if_neg (by simp [hlm]), decide_eq_false (fun e => hlm e.1)]
theorem run_eq_spend (w : World) (d : Nat) (s o : Tx.Sp) (hs : s.h.length = 32) (ho : o.h.length = 32) :
    (Op.equalIn (d + 4) 28 (.agg (spCells s).toArray) (.agg (spCells o).toArray)).run Tryd.prog w = .ok (decide (s = o)) w := by
  rw [run_equalIn_struct w (d + 3) _ _ _ (by simp only [Program.fieldsOf, Tryd.underlying28]) (by kernel_rfl)]
  simp only [Program.fieldsOf, Tryd.underlying28]
  have cut : ∀ u : Tx.Sp, spCells u = (ptCells u.h u.n) ++ [.string (strB u.key), .int .u64 (nb64 u.sl)] := fun u => by unfold spCells ptCells; simp
  have pt : ∀ u : Tx.Sp, u.h.length = 32 → (part 25 (spCells u).toArray 0).run Tryd.prog w = .ok (.agg (ptCells u.h u.n).toArray) w := fun u hu => by
    have p1 := run_part_agg (P := Tryd.prog) w (cs := (spCells u).toArray) (off := 0) (k := 33) Tryd.underlying25 rfl (by kernel_rfl)
    rw [cut u, extract_front _ _ 33 (ptCells_len hu)] at p1
    rw [cut u]
    exact p1
  have ky : ∀ u : Tx.Sp, u.h.length = 32 → (part 9 (spCells u).toArray 33).run Tryd.prog w = .ok (.string (strB u.key)) w := fun u hu =>
    run_part_one (P := Tryd.prog) w Tryd.underlying9 rfl (by rw [cut u, List.getElem?_toArray, List.getElem?_append_right (by simp [ptCells_len hu])]; simp [ptCells_len hu])
  have se : ∀ u : Tx.Sp, u.h.length = 32 → (part 26 (spCells u).toArray 34).run Tryd.prog w = .ok (.int .u64 (nb64 u.sl)) w := fun u hu =>
    run_part_one (P := Tryd.prog) w Tryd.underlying26 rfl (by rw [cut u, List.getElem?_toArray, List.getElem?_append_right (by simp [ptCells_len hu])]; simp [ptCells_len hu])
  have e1 := run_eq_point w d s.h o.h s.n o.n hs ho
  have e2 := run_equalIn_string (P := Tryd.prog) w (d + 2) 9 (strB s.key) (strB o.key) Tryd.underlying9
  have e3 := run_equalIn_int (P := Tryd.prog) w (d + 2) 26 .u64 .u64 (nb64 s.sl) (nb64 o.sl) Tryd.underlying26
  rw [strB_beq] at e2
  rw [u64_beq] at e3
  have hx := Tx.sp_ext (a := s) (b := o)
  refine Eq.trans (eqFields_cons w _ _ _ _ _ _ _ _ (by simp) (pt s hs) (pt o ho) e1) ?_
  by_cases h1 : s.h = o.h ∧ s.n = o.n
  · rw [if_pos (decide_eq_true h1)]
    refine Eq.trans (eqFields_cons w _ _ _ _ _ _ _ _ (by simp) (ky s hs) (ky o ho) e2) ?_
    by_cases h2 : s.key = o.key
    · rw [if_pos (decide_eq_true h2)]
      refine Eq.trans (eqFields_cons w _ _ _ _ _ _ _ _ (by simp) (se s hs) (se o ho) e3) ?_
      rw [eqFields_nil]
      by_cases h3 : s.sl = o.sl
      · rw [if_pos (by simp [h3]), decide_eq_true (hx.2 ⟨h1.1, h1.2, h2, h3⟩)]
      · rw [if_neg (by simp [h3]), decide_eq_false (fun e => h3 (hx.1 e).2.2.2)]
    · rw [if_neg (by simp [h2]), decide_eq_false (fun e => h2 (hx.1 e).2.2.1)]
  · rw [if_neg (by simp [h1]), decide_eq_false (fun e => h1 ⟨(hx.1 e).1, (hx.1 e).2.1⟩)]
theorem run_eq_coin (w : World) (d : Nat) (s o : Tx.Co) :
    (Op.equalIn (d + 2) 30 (.agg (coCells s).toArray) (.agg (coCells o).toArray)).run Tryd.prog w = .ok (decide (s = o)) w := by
  rw [run_equalIn_struct w (d + 1) _ _ _ (by simp only [Program.fieldsOf, Tryd.underlying30]) (by kernel_rfl)]
  simp only [Program.fieldsOf, Tryd.underlying30]
  have va : ∀ u : Tx.Co, (part 3 (coCells u).toArray 0).run Tryd.prog w = .ok (.int .i64 u.v) w := fun u => run_part_one (P := Tryd.prog) w Tryd.underlying3 rfl rfl
  have lo : ∀ u : Tx.Co, (part 26 (coCells u).toArray 1).run Tryd.prog w = .ok (.int .u64 (nb64 u.lock)) w := fun u => run_part_one (P := Tryd.prog) w Tryd.underlying26 rfl rfl
  have e2 := run_equalIn_int (P := Tryd.prog) w d 3 .i64 .i64 s.v o.v Tryd.underlying3
  have e3 := run_equalIn_int (P := Tryd.prog) w d 26 .u64 .u64 (nb64 s.lock) (nb64 o.lock) Tryd.underlying26
  rw [u64_beq] at e3
  have hx := Tx.co_ext (a := s) (b := o)
  refine Eq.trans (eqFields_cons w _ _ _ _ _ _ _ _ (by simp) (va s) (va o) e2) ?_
  by_cases h1 : s.v = o.v
  · rw [if_pos (by simp [h1])]
    refine Eq.trans (eqFields_cons w _ _ _ _ _ _ _ _ (by simp) (lo s) (lo o) e3) ?_
    rw [eqFields_nil]
    by_cases h2 : s.lock = o.lock
    · rw [if_pos (by simp [h2]), decide_eq_true (hx.2 ⟨h1, h2⟩)]
    · rw [if_neg (by simp [h2]), decide_eq_false (fun e => h2 (hx.1 e).2)]
  · rw [if_neg (by simp [h1]), decide_eq_false (fun e => h1 (hx.1 e).1)]
theorem neq_spend (w : World) (s o : Tx.Sp) (hs : s.h.length = 32) (ho : o.h.length = 32) : (binOp .neq 28 (.agg (spCells s).toArray) (.agg (spCells o).toArray)).run Tryd.prog w = .ok (.bool (!decide (s = o))) w := by
  rw [run_neq_struct, run_eq_spend w 9996 s o hs ho]
  rfl
theorem eql_spend (w : World) (s o : Tx.Sp) (hs : s.h.length = 32) (ho : o.h.length = 32) : (binOp .eql 28 (.agg (spCells s).toArray) (.agg (spCells o).toArray)).run Tryd.prog w = .ok (.bool (decide (s = o))) w := by
  rw [run_eql_struct, run_eq_spend w 9996 s o hs ho]
  rfl
theorem neq_coin (w : World) (s o : Tx.Co) : (binOp .neq 30 (.agg (coCells s).toArray) (.agg (coCells o).toArray)).run Tryd.prog w = .ok (.bool (!decide (s = o))) w := by
  rw [run_neq_struct, run_eq_coin w 9998 s o]
  rfl
theorem eql_coin (w : World) (s o : Tx.Co) : (binOp .eql 30 (.agg (coCells s).toArray) (.agg (coCells o).toArray)).run Tryd.prog w = .ok (.bool (decide (s = o))) w := by
  rw [run_eql_struct, run_eq_coin w 9998 s o]
  rfl
theorem eql_point (w : World) (l m : List (BitVec 8)) (x y : Int) (hl : l.length = 32) (hm : m.length = 32) :
    (binOp .eql 25 (.agg (ptCells l x).toArray) (.agg (ptCells m y).toArray)).run Tryd.prog w = .ok (.bool (decide (l = m ∧ x = y))) w := by
  rw [run_eql_struct, run_eq_point w 9997 l m x y hl hm]
  rfl
theorem neq_point (w : World) (l m : List (BitVec 8)) (x y : Int) (hl : l.length = 32) (hm : m.length = 32) :
    (binOp .neq 25 (.agg (ptCells l x).toArray) (.agg (ptCells m y).toArray)).run Tryd.prog w = .ok (.bool (!decide (l = m ∧ x = y))) w := by
  rw [run_neq_struct, run_eq_point w 9997 l m x y hl hm]
  rfl
end Go.Proofs.YtcedecljbgailaaDoor
