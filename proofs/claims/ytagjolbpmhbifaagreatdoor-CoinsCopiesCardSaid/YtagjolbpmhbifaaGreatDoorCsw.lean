/- A range over a map of points to coins: which entries are still to come · The operations on a map of points to coins, for the walk -/
import Derived.Test.YtagjolbpmhbifaaGreatDoorCsz
import Derived.Maps.RangeRun
import Derived.Test.YtagjolbpmhbifaaGreatDoorLz
import Derived.Test.YtagjolbpmhbifaaGreatDoorDgy
import Derived.Tactics
/-! A range over a map of points to coins: which entries are still to come -/
namespace Go.Proofs.YtagjolbpmhbifaaGreatDoor
open Go Go.RowKit Go.ChangeShapes Go.WideShapes
/-- block r ranges over the map in block b, which holds M; left is still to come -/
def RangeAt (w : World) (b r : Nat) (M left : List (Cs.Pt × Tx.Co)) : Prop :=
  ∃ (es : Array MapEntry) (clock since c0 : Nat) (seen : Array Nat), w.heap[b]? = some (.map es clock) ∧ es.toList.map (fun e => (e.key, e.val)) = M.map (fun x => (Cs.ptV x.1, Cs.coV x.2)) ∧ (M.map (·.1)).Nodup ∧ (∀ x, x ∈ M → Cs.ptOk x.1 ∧ Tx.CoOk x.2) ∧
    (∀ e, e ∈ es.toList → e.born < clock) ∧ (es.toList.map (·.born)).Nodup ∧
    w.heap[r]? = some (.mapIter (some b) since seen c0) ∧ (∀ x ∈ es.toList, x.born < since) ∧ since ≤ c0 ∧ since ≤ clock ∧
    (leftOf es seen).toList.map (fun e => (e.key, e.val)) = left.map (fun x => (Cs.ptV x.1, Cs.coV x.2))
section
variable {w : World} {b r : Nat} {M left : List (Cs.Pt × Tx.Co)}
theorem RangeAt.map (h : RangeAt w b r M left) : MapAt w b M := by
  obtain ⟨es, clock, since, c0, seen, h1, h2, h3, h4, h5, h6, _⟩ := h
  exact ⟨es, clock, h1, h2, h3, h4, h5, h6⟩
theorem RangeAt.ne (h : RangeAt w b r M left) : r ≠ b := by
  rintro rfl
  obtain ⟨es, clock, since, c0, seen, h1, _, _, _, _, _, h7, _⟩ := h
  rw [h1] at h7
  cases h7
theorem RangeAt.lt (h : RangeAt w b r M left) : b < w.heap.size ∧ r < w.heap.size := by
  obtain ⟨es, clock, since, c0, seen, h1, _, _, _, _, _, h7, _⟩ := h
  exact ⟨(Array.getElem?_eq_some_iff.1 h1).1, (Array.getElem?_eq_some_iff.1 h7).1⟩
theorem RangeAt.moved {F : Nat → Prop} {w' : World} (h : RangeAt w b r M left) (hm : Moved F w w') (hb : ¬ F b) (hr : ¬ F r) : RangeAt w' b r M left := by
  obtain ⟨l1, l2⟩ := h.lt
  obtain ⟨es, clock, since, c0, seen, h1, h2, h3, h4, h5, h6, h7, h8⟩ := h
  exact ⟨es, clock, since, c0, seen, (hm.block b l1 hb).trans h1, h2, h3, h4, h5, h6, (hm.block r l2 hr).trans h7, h8⟩
theorem RangeAt.below {w' : World} (h : RangeAt w b r M left) (hb : Below w.heap.size w w') : RangeAt w' b r M left := h.moved (F := fun _ => False) (Moved.of_below hb) (fun e => e) (fun e => e)

theorem MapAt.ranges (h : MapAt w b M) : ∃ w', (Instr.range 76 (.map (some b))).run Tryz.prog w = .ok (.pointer (some ⟨w.heap.size, 0, none⟩)) w' ∧ RangeAt w' b w.heap.size M M ∧ Below w.heap.size w w' := by
  have hlt := h.lt
  obtain ⟨es, clock, hb, he, hn, hM, h1, h2⟩ := h
  refine ⟨_, run_range_map w _ _ _ b es clock Tryz.underlying76 hb, ⟨es, clock, clock, clock, #[], ((MapKept.heap_alloc w _).2 b hlt).trans hb, he, hn, hM, h1, h2, (MapKept.heap_alloc w _).1, h1, Nat.le_refl _, Nat.le_refl _, ?_⟩, (Below.refl _ _).alloc (Nat.le_refl _) _⟩
  have e : (leftOf es #[]).toList = es.toList := by simp [leftOf]
  rw [e]
  exact he
theorem left_push {es : Array MapEntry} {seen : Array Nat} (k : Nat) : (leftOf es (seen.push k)).toList = (leftOf es seen).toList.filter (fun y => !(y.born == k)) := by
  unfold leftOf
  rw [Array.toList_filter, Array.toList_filter, List.filter_filter]
  congr 1
  funext y
  simp only [Array.contains_push, Bool.not_or]
  rw [Bool.and_comm]
/-- the step -/
theorem RangeAt.next (h : RangeAt w b r M left) (ty : TypeId) :
    (left = [] ∧ (Instr.next (.pointer (some ⟨r, 0, none⟩)) false ty).run Tryz.prog w = .ok (.tuple #[.bool false]) w) ∨
    ∃ (l1 l2 : List (Cs.Pt × Tx.Co)) (x : Cs.Pt × Tx.Co) (w' : World), left = l1 ++ x :: l2 ∧ (Instr.next (.pointer (some ⟨r, 0, none⟩)) false ty).run Tryz.prog w = .ok (.tuple #[.bool true, Cs.ptV x.1, Cs.coV x.2]) w' ∧
      RangeAt w' b r M (l1 ++ l2) ∧ Moved (fun j => j = r) w w' ∧ (Instr.entry (.pointer (some ⟨r, 0, none⟩))).run Tryz.prog w' = .ok (.tuple #[Cs.ptV x.1, Cs.coV x.2]) w' := by
  have hne := h.ne
  obtain ⟨es, clock, since, c0, seen, h1, h2, h3, h4, h5, h6, h7, h8, h9, h10, h11⟩ := h
  rcases run_next_at (P := Tryz.prog) w ty r b since c0 seen es clock h7 h1 h8 h9 with ⟨h0, hrun⟩ | ⟨e, he, w1, hw1, hrun⟩
  · refine .inl ⟨?_, hrun⟩
    have e := congrArg List.length h11
    simp only [List.length_map, Array.length_toList, h0] at e
    exact List.length_eq_zero_iff.1 e.symm
  · obtain ⟨A, B, hAB⟩ := List.append_of_mem he
    rw [hAB, List.map_append, List.map_cons] at h11
    obtain ⟨l1, l2', rfl, hA, hB⟩ := List.map_eq_append_iff.1 h11.symm
    obtain ⟨x, l2, rfl, hx, hB2⟩ := List.map_eq_cons_iff.1 hB
    injection hx with hk hv
    rw [← hk, ← hv] at hrun
    have hw : w1.heap = w.heap := by rcases hw1 with rfl | rfl <;> rfl
    have hr1 : w1.heap[r]? = some (.mapIter (some b) since seen c0) := by rw [hw]; exact h7
    have hb1 : w1.heap[b]? = some (.map es clock) := by rw [hw]; exact h1
    have s1 : (ChangeMaps.setBlock w1 r (.mapIter (some b) since (seen.push e.born) clock)).heap[r]? = some (.mapIter (some b) since (seen.push e.born) clock) := by
      show (w1.heap.setIfInBounds r _)[r]? = _
      rw [Array.getElem?_setIfInBounds_self_of_lt (Array.getElem?_eq_some_iff.1 hr1).1]
    have s2 : ∀ j, j ≠ r → (ChangeMaps.setBlock w1 r (.mapIter (some b) since (seen.push e.born) clock)).heap[j]? = w.heap[j]? := fun j hj => by
      show (w1.heap.setIfInBounds r _)[j]? = _
      rw [Array.getElem?_setIfInBounds_ne (fun e => hj e.symm), hw]
    have hsub : (leftOf es seen).toList.Sublist es.toList := by
      unfold leftOf
      rw [Array.toList_filter]
      exact List.filter_sublist
    have hnd : ((A ++ e :: B).map (·.born)).Nodup := by rw [← hAB]; exact h6.sublist (hsub.map _)
    have hleft : (leftOf es (seen.push e.born)).toList = A ++ B := by
      rw [left_push, hAB, List.filter_append, List.filter_cons]
      rw [List.map_append, List.map_cons, List.nodup_append] at hnd
      obtain ⟨_, n2, n3⟩ := hnd
      have f1 : A.filter (fun y => !(y.born == e.born)) = A := List.filter_eq_self.2 fun y hy => by
        have := n3 y.born (List.mem_map.2 ⟨y, hy, rfl⟩) e.born List.mem_cons_self
        simpa using this
      have f2 : B.filter (fun y => !(y.born == e.born)) = B := List.filter_eq_self.2 fun y hy => by
        have n4 := (List.nodup_cons.1 n2).1
        have : y.born ≠ e.born := fun e2 => n4 (List.mem_map.2 ⟨y, hy, e2⟩)
        simpa using this
      rw [f1, f2]
      simp
    refine .inr ⟨l1, l2, x, _, rfl, hrun, ⟨es, clock, since, clock, seen.push e.born, (s2 b (fun e => hne e.symm)).trans h1, h2, h3, h4, h5, h6, s1, h8, h10, h10, ?_⟩, ?_, ?_⟩
    · rw [hleft, List.map_append, ← hA, ← hB2, List.map_append]
    · refine ⟨?_, ?_, ?_, ?_, fun j _ hj => s2 j hj⟩
      · rcases hw1 with rfl | rfl <;> rfl
      · rcases hw1 with rfl | rfl <;> rfl
      · rcases hw1 with rfl | rfl <;> rfl
      · show w.heap.size ≤ (w1.heap.setIfInBounds r _).size
        rw [Array.size_setIfInBounds, hw]
        exact Nat.le_refl _
    · rw [hk, hv]
      exact run_entry_at _ r b since seen es clock e s1 ((s2 b (fun e => hne e.symm)).trans h1) (hsub.subset he) h6
end
end Go.Proofs.YtagjolbpmhbifaaGreatDoor

/-! The operations on a map of points to coins, for the walk -/
namespace Go.Proofs.YtagjolbpmhbifaaGreatDoor
open Go Go.RowKit Go.ChangeShapes Go.WideShapes
def ptRec : Rec Cs.Pt where
  k := 33
  cells := fun p => ptCells p.1 p.2
  ok := Cs.ptOk
  pos := by omega
  len t h := ptCells_len h.1
  one t v hv := by
    rcases List.mem_append.1 hv with h | h
    · exact blist_one _ v h
    · rw [List.mem_singleton.1 h]; rfl
theorem size_ptr : (Tryz.prog.info? 32).map (·.size) = some ptRec.k := by kernel_rfl
abbrev Fp := Nat → Prop
namespace Cs
def putE (M : Mp) (p : Pt) (c : Tx.Co) : Int := if Am.Good c.v then if (look M p).isSome then 6 else 0 else 9
def worthT (M : Mp) : Int × Int := if Am.Good (worth M) then (worth M, 0) else (0, 9)
/-- one point ahead of another -/
def Ahead (p q : Pt) : Prop := Dg.cmp p.1 q.1 = -1 ∨ (p.1 = q.1 ∧ p.2 < q.2)
/-- a set's own blocks behind a call: the old ones, new ones -/
def Grown (w : World) (F F' : Fp) : Prop := ∀ j, F' j → F j ∨ w.heap.size ≤ j
end Cs
section
variable {w : World} {ops : Array Oper} {rest : List Oper} {o : Oper} {a : Act} {Q : Exit → Act → World → Prop} {M left : List (Cs.Pt × Tx.Co)} {b r : Nat}
/-- what a look-up answers -/
def Cs.got (M : List (Cs.Pt × Tx.Co)) (p : Cs.Pt) (c : Bool) : Value := if c then .tuple #[Cs.coV ((Cs.look M p).getD ⟨0, 0#64⟩), .bool (Cs.look M p).isSome] else Cs.coV ((Cs.look M p).getD ⟨0, 0#64⟩)
theorem wpList_lookup_pt (hg : o.guard = none) (m x : Operand) (c : Bool) (hop : o.op = Op.lookup 76 m x c) (hm : a.eval m = .map (some b)) (h : MapAt w b M) (p : Cs.Pt) (hx : a.eval x = Cs.ptV p) (hp : p.1.length = 32)
    (hK : wpList Tryz.prog ops Q rest (a.put o.dst (Cs.got M p c)) w) : wpList Tryz.prog ops Q (o :: rest) a w := by
  refine wpList_plain hg fun K' hK' => ?_
  have hrun := h.look p hp c
  unfold Oper.wp
  simp only [execOp, hop, hm, hx, Sem.run_bind, Sem.run_pure, hrun, Result.andThen_ok]
  exact hK' _ _ hK
theorem wpList_mapUpdate_pt (hg : o.guard = none) (m x v : Operand) (hop : o.op = Op.mapUpdate 76 m x v) (hm : a.eval m = .map (some b)) (h : MapAt w b M) (p : Cs.Pt) (hx : a.eval x = Cs.ptV p) (hp : Cs.ptOk p) (c : Tx.Co) (hv : a.eval v = Cs.coV c) (hc : Tx.CoOk c)
    (hK : ∀ w', MapAt w' b (Cs.put M p c) → Moved (fun j => j = b) w w' → wpList Tryz.prog ops Q rest (a.put o.dst undef) w') : wpList Tryz.prog ops Q (o :: rest) a w := by
  refine wpList_plain hg fun K' hK' => ?_
  obtain ⟨w', hrun, r1, r2⟩ := h.put p hp c hc
  unfold Oper.wp
  simp [execOp, hop, hm, hx, hv, hrun, Result.andThen]
  exact hK' _ _ (hK w' r1 r2)
theorem wpList_delete_pt (hg : o.guard = none) (m x : Operand) (hop : o.op = Op.call { callee := Callee.builtin Builtin.delete, args := #[m, x], argTypes := #[76, 32] }) (hm : a.eval m = .map (some b)) (h : MapAt w b M) (p : Cs.Pt) (hx : a.eval x = Cs.ptV p) (hp : p.1.length = 32)
    (hK : ∀ w', MapAt w' b (Cs.del M p) → Moved (fun j => j = b) w w' → wpList Tryz.prog ops Q rest (a.put o.dst (.tuple #[])) w') : wpList Tryz.prog ops Q (o :: rest) a w := by
  refine wpList_plain hg fun K' hK' => ?_
  obtain ⟨w', hrun, r1, r2⟩ := h.del p hp o.type
  unfold Oper.wp
  simp [execOp, hop, resolve, invoke, builtin, hm, hx, hrun, Result.andThen]
  exact hK' _ _ (hK w' r1 r2)
theorem wpList_len_pt (hg : o.guard = none) (m : Operand) (hop : o.op = Op.call { callee := Callee.builtin Builtin.len, args := #[m], argTypes := #[76] }) (hm : a.eval m = .map (some b)) (h : MapAt w b M)
    (hK : wpList Tryz.prog ops Q rest (a.put o.dst (.int .i64 M.length)) w) : wpList Tryz.prog ops Q (o :: rest) a w := by
  refine wpList_plain hg fun K' hK' => ?_
  unfold Oper.wp
  simp [execOp, hop, resolve, invoke, builtin, hm, h.len o.type, Result.andThen]
  exact hK' _ _ hK
theorem wpList_range_pt (hg : o.guard = none) (m : Operand) (hop : o.op = Op.range 76 m) (hm : a.eval m = .map (some b)) (h : MapAt w b M)
    (hK : ∀ w', RangeAt w' b w.heap.size M M → Below w.heap.size w w' → wpList Tryz.prog ops Q rest (a.put o.dst (.pointer (some ⟨w.heap.size, 0, none⟩))) w') : wpList Tryz.prog ops Q (o :: rest) a w := by
  refine wpList_plain hg fun K' hK' => ?_
  obtain ⟨w', hrun, r1, r2⟩ := h.ranges
  unfold Oper.wp
  simp [execOp, hop, hm, hrun, Result.andThen]
  exact hK' _ _ (hK w' r1 r2)
theorem wpList_next_pt (hg : o.guard = none) (it : Operand) (hop : o.op = Op.next it false) (hit : a.eval it = .pointer (some ⟨r, 0, none⟩)) (h : RangeAt w b r M left)
    (hDone : left = [] → wpList Tryz.prog ops Q rest (a.put o.dst (.tuple #[.bool false])) w)
    (hMore : ∀ (l1 l2 : List (Cs.Pt × Tx.Co)) (x : Cs.Pt × Tx.Co) (w' : World), left = l1 ++ x :: l2 → RangeAt w' b r M (l1 ++ l2) → Moved (fun j => j = r) w w' → (Instr.entry (.pointer (some ⟨r, 0, none⟩))).run Tryz.prog w' = .ok (.tuple #[Cs.ptV x.1, Cs.coV x.2]) w' →
      wpList Tryz.prog ops Q rest (a.put o.dst (.tuple #[.bool true, Cs.ptV x.1, Cs.coV x.2])) w') : wpList Tryz.prog ops Q (o :: rest) a w := by
  refine wpList_plain hg fun K' hK' => ?_
  unfold Oper.wp
  rcases h.next o.type with ⟨h0, hrun⟩ | ⟨l1, l2, x, w', hl, hrun, h1, h2, h3⟩
  · simp [execOp, hop, hit, hrun, Result.andThen]
    exact hK' _ _ (hDone h0)
  · simp [execOp, hop, hit, hrun, Result.andThen]
    exact hK' _ _ (hMore l1 l2 x w' hl h1 h2 h3)
/-- in a drawn region -/
theorem yieldsIf_lookup_pt {S : World → Prop} (hw : Region.wanted o (yielded ops a.tmps) = true) (m x : Operand) (c : Bool) (hop : o.op = Op.lookup 76 m x c) (hm : a.eval m = .map (some b)) (p : Cs.Pt) (hx : a.eval x = Cs.ptV p) (hp : p.1.length = 32) (h : ∀ w, S w → MapAt w b M) :
    YieldsIf Tryz.prog ops S o (Cs.got M p c) a :=
  .inl ⟨hw, fun w hS => by
    have hrun := (h w hS).look p hp c
    unfold execOp
    simp only [hop, hm, hx, Sem.run_bind, Sem.run_pure, hrun, Result.andThen_ok]
    rfl⟩
theorem step_mapUpdate_pt {K : Act → World → Prop} {E : Prop} (hwt : Region.wanted o (yielded ops a.tmps) = true) (m x v : Operand) (hop : o.op = Op.mapUpdate 76 m x v) (hm : a.eval m = .map (some b)) (h : MapAt w b M) (p : Cs.Pt) (hx : a.eval x = Cs.ptV p) (hp : Cs.ptOk p) (c : Tx.Co) (hv : a.eval v = Cs.coV c) (hc : Tx.CoOk c)
    (hK : ∀ w', MapAt w' b (Cs.put M p c) → Moved (fun j => j = b) w w' → K (a.put o.dst undef) w') : if Region.wanted o (yielded ops a.tmps) = true then Oper.wp Tryz.prog o a w K Q else E := by
  rw [if_pos hwt]
  obtain ⟨w', hrun, r1, r2⟩ := h.put p hp c hc
  unfold Oper.wp
  simp [execOp, hop, hm, hx, hv, hrun, Result.andThen]
  exact hK w' r1 r2
theorem step_delete_pt {K : Act → World → Prop} {E : Prop} (hwt : Region.wanted o (yielded ops a.tmps) = true) (m x : Operand) (hop : o.op = Op.call { callee := Callee.builtin Builtin.delete, args := #[m, x], argTypes := #[76, 32] }) (hm : a.eval m = .map (some b)) (h : MapAt w b M) (p : Cs.Pt) (hx : a.eval x = Cs.ptV p) (hp : p.1.length = 32)
    (hK : ∀ w', MapAt w' b (Cs.del M p) → Moved (fun j => j = b) w w' → K (a.put o.dst (.tuple #[])) w') : if Region.wanted o (yielded ops a.tmps) = true then Oper.wp Tryz.prog o a w K Q else E := by
  rw [if_pos hwt]
  obtain ⟨w', hrun, r1, r2⟩ := h.del p hp o.type
  unfold Oper.wp
  simp [execOp, hop, resolve, invoke, builtin, hm, hx, hrun, Result.andThen]
  exact hK w' r1 r2
end
end Go.Proofs.YtagjolbpmhbifaaGreatDoor
