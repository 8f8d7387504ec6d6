/- A map of points to coins: what it holds, key by key; what the operations on it answer · Maps of points to coins as what is looked up (pure). Nothing of the program. · Worth of a map of points to coins; what is done and taken back (pure). Nothing of the program. -/
import Derived.Test.YtagjolbpmhbifaaGreatDoorTxz
import Derived.Maps.OwnSet
import Derived.Test.YtagjolbpmhbifaaGreatDoorAmz
/-! A map of points to coins: what it holds, key by key; what the operations on it answer -/
namespace Go.Proofs.YtagjolbpmhbifaaGreatDoor
open Go Go.RowKit Go.ChangeShapes Go.WideShapes
namespace Cs
abbrev Pt := List (BitVec 8) × Int
def ptOk (p : Pt) : Prop := p.1.length = 32 ∧ -9223372036854775808 ≤ p.2 ∧ p.2 < 9223372036854775808
def ptV (p : Pt) : Value := .agg (ptCells p.1 p.2).toArray
def coV (c : Tx.Co) : Value := .agg (coCells c).toArray
/-- where a point stands, its coin -/
def idx (p : Pt) : List (Pt × Tx.Co) → Option (Nat × Tx.Co)
  | [] => none
  | x :: M => if p = x.1 then some (0, x.2) else (idx p M).map (fun r => (r.1 + 1, r.2))
def look (M : List (Pt × Tx.Co)) (p : Pt) : Option Tx.Co := (idx p M).map (·.2)
def put (M : List (Pt × Tx.Co)) (p : Pt) (c : Tx.Co) : List (Pt × Tx.Co) := match idx p M with
  | some r => M.set r.1 (p, c)
  | none => M ++ [(p, c)]
def del (M : List (Pt × Tx.Co)) (p : Pt) : List (Pt × Tx.Co) := match idx p M with
  | some r => M.eraseIdx r.1
  | none => M
theorem idx_at {p : Pt} : ∀ {M : List (Pt × Tx.Co)} {r : Nat × Tx.Co}, idx p M = some r → M[r.1]? = some (p, r.2)
  | [], r, h => by cases h
  | x :: M, r, h => by
    unfold idx at h
    split at h
    · rename_i e
      injection h with h
      subst h
      subst e
      rfl
    · obtain ⟨s, hs, rfl⟩ := Option.map_eq_some_iff.1 h
      show M[s.1]? = some (p, s.2)
      exact idx_at hs
theorem idx_none {p : Pt} : ∀ {M : List (Pt × Tx.Co)}, idx p M = none ↔ ∀ x, x ∈ M → x.1 ≠ p
  | [] => ⟨(fun _ x h => by cases h), (fun _ => rfl)⟩
  | x :: M => by
    unfold idx
    split
    · rename_i e
      exact ⟨(fun h => by cases h), fun h => absurd e.symm (h x List.mem_cons_self)⟩
    · rename_i e
      rw [Option.map_eq_none_iff, idx_none]
      refine ⟨fun h y hy => ?_, fun h y hy => h y (List.mem_cons_of_mem _ hy)⟩
      rcases List.mem_cons.1 hy with rfl | hy
      · exact fun e2 => e e2.symm
      · exact h y hy
theorem blist_inj : ∀ {l m : List (BitVec 8)}, blist l = blist m → l = m
  | [], [], _ => rfl
  | [], y :: m, h => by simp [blist] at h
  | x :: l, [], h => by simp [blist] at h
  | x :: l, y :: m, h => by
    have h2 : (Value.int .u8 (nb8 x)) :: blist l = (Value.int .u8 (nb8 y)) :: blist m := by simpa [blist] using h
    injection h2 with h3 h4
    injection h3 with _ h5
    have h6 : x.toNat = y.toNat := Int.ofNat.inj h5
    rw [BitVec.eq_of_toNat_eq h6, blist_inj h4]
theorem ptV_inj {p q : Pt} (hp : p.1.length = 32) (hq : q.1.length = 32) (h : ptV p = ptV q) : p = q := by
  injection h with h
  have h2 := congrArg Array.toList h
  simp only [ptCells] at h2
  have h3 := List.append_inj h2 (by rw [blist_length, blist_length, hp, hq])
  have e1 := blist_inj h3.1
  have e2 : p.2 = q.2 := by
    have h4 := h3.2
    injection h4 with h4
    injection h4
  cases p
  cases q
  simp_all
end Cs
/-- block b is a map of points to coins that holds M, in the order of the entries -/
def MapAt (w : World) (b : Nat) (M : List (Cs.Pt × Tx.Co)) : Prop :=
  ∃ (es : Array MapEntry) (clock : Nat), w.heap[b]? = some (.map es clock) ∧ es.toList.map (fun e => (e.key, e.val)) = M.map (fun x => (Cs.ptV x.1, Cs.coV x.2)) ∧ (M.map (·.1)).Nodup ∧ (∀ x, x ∈ M → Cs.ptOk x.1 ∧ Tx.CoOk x.2) ∧
    (∀ e, e ∈ es.toList → e.born < clock) ∧ (es.toList.map (·.born)).Nodup
theorem MapAt.lt {w : World} {b : Nat} {M : List (Cs.Pt × Tx.Co)} (h : MapAt w b M) : b < w.heap.size := by
  obtain ⟨es, clock, h, _⟩ := h
  exact (Array.getElem?_eq_some_iff.1 h).1
theorem MapAt.moved {F : Nat → Prop} {w w' : World} {b : Nat} {M : List (Cs.Pt × Tx.Co)} (h : MapAt w b M) (hm : Moved F w w') (hb : ¬ F b) : MapAt w' b M := by
  have hl := h.lt
  obtain ⟨es, clock, h1, h2⟩ := h
  exact ⟨es, clock, (hm.block b hl hb).trans h1, h2⟩
theorem MapAt.below {w w' : World} {b : Nat} {M : List (Cs.Pt × Tx.Co)} (h : MapAt w b M) (hb : Below w.heap.size w w') : MapAt w' b M := h.moved (F := fun _ => False) (Moved.of_below hb) (fun e => e)
theorem MapAt.fresh (w : World) : MapAt (w.alloc (.map #[] 0)) w.heap.size [] :=
  ⟨#[], 0, (by show (w.heap.push _)[w.heap.size]? = _; exact Array.getElem?_push_size), rfl, List.nodup_nil, (fun _ h => by cases h), (fun _ h => by cases h), List.nodup_nil⟩
set_option maxRecDepth 100000 in
theorem run_checkPt32 (em : Bool) (w : World) (d0 d1 d2 d3 d4 d5 d6 d7 d8 d9 d10 d11 d12 d13 d14 d15 d16 d17 d18 d19 d20 d21 d22 d23 d24 d25 d26 d27 d28 d29 d30 d31 : BitVec 8) (n : Int) : (Instr.checkKey em 10000 32 (.agg (ptCells [d0, d1, d2, d3, d4, d5, d6, d7, d8, d9, d10, d11, d12, d13, d14, d15, d16, d17, d18, d19, d20, d21, d22, d23, d24, d25, d26, d27, d28, d29, d30, d31] n).toArray)).run Tryz.prog w = .ok () w := by kernel_rfl
theorem run_checkPt (em : Bool) (w : World) : ∀ (p : Cs.Pt), p.1.length = 32 → (Instr.checkKey em 10000 32 (Cs.ptV p)).run Tryz.prog w = .ok () w
  | ([d0, d1, d2, d3, d4, d5, d6, d7, d8, d9, d10, d11, d12, d13, d14, d15, d16, d17, d18, d19, d20, d21, d22, d23, d24, d25, d26, d27, d28, d29, d30, d31], n), _ => run_checkPt32 em w d0 d1 d2 d3 d4 d5 d6 d7 d8 d9 d10 d11 d12 d13 d14 d15 d16 d17 d18 d19 d20 d21 d22 d23 d24 d25 d26 d27 d28 d29 d30 d31 n
set_option maxRecDepth 100000 in
theorem run_findAsking (w : World) (p : Cs.Pt) (hp : p.1.length = 32) : ∀ (es : List MapEntry) (M : List (Cs.Pt × Tx.Co)) (i : Nat), es.map (fun e => (e.key, e.val)) = M.map (fun x => (Cs.ptV x.1, Cs.coV x.2)) → (∀ x, x ∈ M → Cs.ptOk x.1 ∧ Tx.CoOk x.2) →
    (Instr.findAsking 32 (Cs.ptV p) es i).run Tryz.prog w = .ok ((Cs.idx p M).map (fun r => (i + r.1, Cs.coV r.2))) w
  | [], [], i, _, _ => rfl
  | [], x :: M, i, h, _ => by cases h
  | e :: es, [], i, h, _ => by cases h
  | e :: es, x :: M, i, h, hM => by
    rw [List.map_cons, List.map_cons] at h
    injection h with h1 h2
    injection h1 with hk hv
    have ih := run_findAsking w p hp es M (i + 1) h2 (fun y hy => hM y (List.mem_cons_of_mem _ hy))
    have he := run_eq_point w 9997 p.1 x.1.1 p.2 x.1.2 hp (hM x List.mem_cons_self).1.1
    unfold Instr.findAsking
    rw [hk, hv]
    show ((Op.equalIn 10000 32 (Cs.ptV p) (Cs.ptV x.1)) >>= _ : Sem _).run Tryz.prog w = _
    rw [Sem.run_bind, show (Op.equalIn 10000 32 (Cs.ptV p) (Cs.ptV x.1)).run Tryz.prog w = _ from he]
    by_cases hx : p = x.1
    · have h3 : decide (p.1 = x.1.1 ∧ p.2 = x.1.2) = true := decide_eq_true ⟨congrArg (·.1) hx, congrArg (·.2) hx⟩
      rw [h3, Cs.idx, if_pos hx]
      rfl
    · have h3 : decide (p.1 = x.1.1 ∧ p.2 = x.1.2) = false := decide_eq_false (fun e => hx (Prod.ext e.1 e.2))
      rw [h3, Cs.idx, if_neg hx, Option.map_map]
      show (Instr.findAsking 32 (Cs.ptV p) es (i + 1)).run Tryz.prog w = _
      rw [ih]
      congr 2
      funext r
      show (i + 1 + r.1, Cs.coV r.2) = (i + (r.1 + 1), Cs.coV r.2)
      rw [Nat.add_assoc, Nat.add_comm 1]
theorem run_findPt (w : World) (p : Cs.Pt) (hp : p.1.length = 32) (es : List MapEntry) (M : List (Cs.Pt × Tx.Co)) (h : es.map (fun e => (e.key, e.val)) = M.map (fun x => (Cs.ptV x.1, Cs.coV x.2))) (hM : ∀ x, x ∈ M → Cs.ptOk x.1 ∧ Tx.CoOk x.2) :
    (Instr.findKey 32 (Cs.ptV p) es).run Tryz.prog w = .ok ((Cs.idx p M).map (fun r => (r.1, Cs.coV r.2))) w := by
  have hf := run_findAsking w p hp es M 0 h hM
  simp only [Nat.zero_add] at hf
  rw [run_findKey_eq (P := Tryz.prog) (w := w) (k := 32) (by rw [Tryz.underlying32]) (Cs.ptV p) es]
  exact hf
theorem blist_ints (l : List (BitVec 8)) : ∀ v, v ∈ blist l → ∃ k x, v = .int k x := fun v hv => by
  obtain ⟨x, _, rfl⟩ := List.mem_map.1 (show v ∈ l.map _ from hv)
  exact ⟨_, _, rfl⟩
theorem same_ints : ∀ (cs : List Value), (∀ v, v ∈ cs → ∃ k x, v = .int k x) → (cs.zip cs).all (fun p => Instr.sameBits 9999 p.1 p.2) = true
  | [], _ => rfl
  | c :: cs, h => by
    obtain ⟨k, x, rfl⟩ := h c List.mem_cons_self
    rw [List.zip_cons_cons, List.all_cons, same_ints cs (fun v hv => h v (List.mem_cons_of_mem _ hv)), Bool.and_true]
    simp [Instr.sameBits]
theorem same_pt (p : Cs.Pt) : Instr.sameBits 10000 (Cs.ptV p) (Cs.ptV p) = true := by
  have h := same_ints (ptCells p.1 p.2) (fun v hv => by
    rcases List.mem_append.1 hv with h | h
    · exact blist_ints _ v h
    · exact ⟨_, _, List.mem_singleton.1 h⟩)
  show (_ == _ && _) = true
  rw [beq_self_eq_true, Bool.true_and]
  exact h
theorem zero_coin (w : World) : (zeroValue 35).run Tryz.prog w = .ok (Cs.coV ⟨0, 0#64⟩) w := by kernel_rfl
/-- v, ok := m[p] -/
theorem MapAt.look {w : World} {b : Nat} {M : List (Cs.Pt × Tx.Co)} (h : MapAt w b M) (p : Cs.Pt) (hp : p.1.length = 32) (c : Bool) :
    (Instr.lookup 76 (.map (some b)) (Cs.ptV p) c).run Tryz.prog w = .ok (if c then .tuple #[Cs.coV ((Cs.look M p).getD ⟨0, 0#64⟩), .bool (Cs.look M p).isSome] else Cs.coV ((Cs.look M p).getD ⟨0, 0#64⟩)) w := by
  obtain ⟨es, clock, hb, he, hn, hM, h1, h2⟩ := h
  have hf := run_findPt w p hp es.toList M he hM
  unfold Cs.look
  cases hi : Cs.idx p M with
  | none =>
    rw [hi] at hf
    simp [Instr.lookup, run_underlying Tryz.underlying76, MapKept.run_getObj_map hb, run_checkPt _ w p hp, hf, zero_coin w, Result.andThen]
  | some r =>
    rw [hi] at hf
    simp [Instr.lookup, run_underlying Tryz.underlying76, MapKept.run_getObj_map hb, run_checkPt _ w p hp, hf, Result.andThen]
theorem MapAt.len {w : World} {b : Nat} {M : List (Cs.Pt × Tx.Co)} (h : MapAt w b M) (ty : TypeId) : (Builtin.len_ #[76] ty #[.map (some b)]).run Tryz.prog w = .ok (.int .i64 M.length) w := by
  obtain ⟨es, clock, hb, he, hn, hM, h1, h2⟩ := h
  have e : es.size = M.length := by
    have e2 := congrArg List.length he
    simpa using e2
  simp [Builtin.len_, run_underlying Tryz.underlying76, MapKept.run_getObj_map hb, goInt, Result.andThen, e]
theorem moved_setBlock {w : World} {b : Nat} {es : Array MapEntry} {clock : Nat} (hb : w.heap[b]? = some (.map es clock)) (o : Obj) : Moved (fun j => j = b) w (ChangeMaps.setBlock w b o) :=
  ⟨rfl, rfl, rfl, by simp [ChangeMaps.setBlock], fun k _ hk => ChangeMaps.heap_setBlock_other hb o (fun e => hk e)⟩
namespace Cs
theorem put_keys {M : List (Pt × Tx.Co)} {p : Pt} {c : Tx.Co} (h : (M.map (·.1)).Nodup) : ((put M p c).map (·.1)).Nodup := by
  unfold put
  cases hi : idx p M with
  | none =>
    show ((M ++ [(p, c)]).map (·.1)).Nodup
    rw [List.map_append, List.nodup_append]
    refine ⟨h, by simp, fun a ha b hb => ?_⟩
    obtain ⟨x, hx, rfl⟩ := List.mem_map.1 ha
    obtain rfl : b = p := by simpa using hb
    exact idx_none.1 hi x hx
  | some r =>
    show ((M.set r.1 (p, c)).map (·.1)).Nodup
    have h2 := idx_at hi
    obtain ⟨h3, h4⟩ := List.getElem?_eq_some_iff.1 h2
    have e : (M.set r.1 (p, c)).map (·.1) = M.map (·.1) := by
      rw [List.map_set]
      apply List.ext_getElem?
      intro i
      rw [List.getElem?_set]
      split
      · rename_i e
        subst e
        rw [List.length_map]
        simp [h3, h4]
      · rfl
    rw [e]
    exact h
theorem put_mem {M : List (Pt × Tx.Co)} {p : Pt} {c : Tx.Co} {x : Pt × Tx.Co} (h : x ∈ put M p c) : x ∈ M ∨ x = (p, c) := by
  unfold put at h
  cases hi : idx p M with
  | none =>
    rw [hi] at h
    rcases List.mem_append.1 h with h | h
    · exact .inl h
    · exact .inr (List.mem_singleton.1 h)
  | some r =>
    rw [hi] at h
    exact List.mem_or_eq_of_mem_set h
end Cs
theorem keep_pt (w : World) (p : Cs.Pt) : (Instr.keyThatStays (Cs.ptV p) (Cs.ptV p)).run Tryz.prog w = .ok (Cs.ptV p) w := by
  simp [Instr.keyThatStays, same_pt p]
theorem entries_at {es : Array MapEntry} {M : List (Cs.Pt × Tx.Co)} (he : es.toList.map (fun e => (e.key, e.val)) = M.map (fun x => (Cs.ptV x.1, Cs.coV x.2))) {i : Nat} {x : Cs.Pt × Tx.Co} (hx : M[i]? = some x) : ∃ e, es[i]? = some e ∧ e.key = Cs.ptV x.1 ∧ e.val = Cs.coV x.2 := by
  have h := congrArg (fun l => l[i]?) he
  simp only [List.getElem?_map, hx, Option.map_some] at h
  cases h2 : es.toList[i]? with
  | none => rw [h2] at h; cases h
  | some e =>
    rw [h2] at h
    injection h with h
    injection h with h3 h4
    exact ⟨e, by rw [← Array.getElem?_toList]; exact h2, h3, h4⟩
/-- m[p] = c -/
theorem MapAt.put {w : World} {b : Nat} {M : List (Cs.Pt × Tx.Co)} (h : MapAt w b M) (p : Cs.Pt) (hp : Cs.ptOk p) (c : Tx.Co) (hc : Tx.CoOk c) :
    ∃ w', (Instr.mapUpdate 76 (.map (some b)) (Cs.ptV p) (Cs.coV c)).run Tryz.prog w = .ok () w' ∧ MapAt w' b (Cs.put M p c) ∧ Moved (fun j => j = b) w w' := by
  have hkeys := Cs.put_keys (p := p) (c := c) (M := M)
  have hmem := fun x => Cs.put_mem (p := p) (c := c) (M := M) (x := x)
  obtain ⟨es, clock, hb, he, hn, hM, h1, h2⟩ := h
  have hf := run_findPt w p hp.1 es.toList M he hM
  have hall : ∀ x, x ∈ Cs.put M p c → Cs.ptOk x.1 ∧ Tx.CoOk x.2 := fun x hx => by
    rcases hmem x hx with h | h
    · exact hM x h
    · rw [h]; exact ⟨hp, hc⟩
  cases hi : Cs.idx p M with
  | none =>
    rw [hi] at hf
    refine ⟨ChangeMaps.setBlock w b (.map (es.push { key := Cs.ptV p, val := Cs.coV c, born := clock }) (clock + 1)), ?_, ?_, moved_setBlock hb _⟩
    · simp [Instr.mapUpdate, run_underlying Tryz.underlying76, MapKept.run_getObj_map hb, run_checkPt _ w p hp.1, hf, MapKept.run_setObj_map _ hb, Result.andThen, ChangeMaps.setBlock]
    · refine ⟨_, _, ChangeMaps.heap_setBlock_same hb _, ?_, hkeys hn, hall, ?_, ?_⟩
      · rw [Cs.put, hi, Array.toList_push, List.map_append, he, List.map_append]
        rfl
      · intro e hm
        rw [Array.toList_push] at hm
        rcases List.mem_append.1 hm with hm | hm
        · have := h1 e hm
          omega
        · rw [List.mem_singleton.1 hm]
          show clock < clock + 1
          omega
      · rw [Array.toList_push, List.map_append, List.nodup_append]
        refine ⟨h2, by simp, fun x hx y hy => ?_⟩
        obtain ⟨e, hm, rfl⟩ := List.mem_map.1 hx
        have := h1 e hm
        have e2 : y = clock := by simpa using hy
        omega
  | some r =>
    rw [hi] at hf
    obtain ⟨e0, he0, hk0, hv0⟩ := entries_at he (Cs.idx_at hi)
    have hlt : r.1 < es.size := (Array.getElem?_eq_some_iff.1 he0).1
    refine ⟨ChangeMaps.setBlock w b (.map (es.modify r.1 fun e => { e with key := Cs.ptV p, val := Cs.coV c }) clock), ?_, ?_, moved_setBlock hb _⟩
    · simp [Instr.mapUpdate, run_underlying Tryz.underlying76, MapKept.run_getObj_map hb, run_checkPt _ w p hp.1, hf, he0, hk0, keep_pt w p, MapKept.run_setObj_map _ hb, Result.andThen, ChangeMaps.setBlock]
    · have hl : (es.modify r.1 fun e => { e with key := Cs.ptV p, val := Cs.coV c }).toList = es.toList.set r.1 { e0 with key := Cs.ptV p, val := Cs.coV c } := by
        apply List.ext_getElem?
        intro i
        rw [Array.getElem?_toList, Array.getElem?_modify, List.getElem?_set, Array.getElem?_toList]
        split
        · rename_i e
          subst e
          rw [he0]
          simp [hlt]
        · rfl
      refine ⟨_, _, ChangeMaps.heap_setBlock_same hb _, ?_, hkeys hn, hall, ?_, ?_⟩
      · rw [hl, List.map_set, he, Cs.put, hi, List.map_set]
      · rw [hl]
        intro e hm
        rcases List.mem_or_eq_of_mem_set hm with hm | hm
        · exact h1 e hm
        · rw [hm]
          exact h1 e0 (List.mem_of_getElem? (by rw [Array.getElem?_toList]; exact he0))
      · rw [hl, List.map_set]
        have e : (es.toList.map (·.born)).set r.1 e0.born = es.toList.map (·.born) := by
          apply List.ext_getElem?
          intro i
          rw [List.getElem?_set]
          split
          · rename_i e
            subst e
            rw [List.length_map, List.getElem?_map, Array.getElem?_toList, he0]
            simp [hlt]
          · rfl
        show ((es.toList.map (·.born)).set r.1 e0.born).Nodup
        rw [e]
        exact h2
/-- delete(m, p) -/
theorem MapAt.del {w : World} {b : Nat} {M : List (Cs.Pt × Tx.Co)} (h : MapAt w b M) (p : Cs.Pt) (hp : p.1.length = 32) (ty : TypeId) :
    ∃ w', (Builtin.delete_ #[76, 32] ty #[.map (some b), Cs.ptV p]).run Tryz.prog w = .ok (.tuple #[]) w' ∧ MapAt w' b (Cs.del M p) ∧ Moved (fun j => j = b) w w' := by
  obtain ⟨es, clock, hb, he, hn, hM, h1, h2⟩ := h
  have hf := run_findPt w p hp es.toList M he hM
  cases hi : Cs.idx p M with
  | none =>
    rw [hi] at hf
    refine ⟨ChangeMaps.setBlock w b (.map es clock), ?_, ⟨es, clock, ChangeMaps.heap_setBlock_same hb _, ?_⟩, moved_setBlock hb _⟩
    · simp [Builtin.delete_, run_underlying Tryz.underlying76, MapKept.run_getObj_map hb, run_checkPt _ w p hp, hf, MapKept.run_setObj_map _ hb, Result.andThen, ChangeMaps.setBlock]
    · rw [Cs.del, hi]
      exact ⟨he, hn, hM, h1, h2⟩
  | some r =>
    rw [hi] at hf
    have hsub : ∀ {α : Type} (l : List α) (i : Nat), (l.eraseIdx i).Sublist l := fun l i => List.eraseIdx_sublist l i
    have hlt : r.1 < es.size := (Array.getElem?_eq_some_iff.1 (entries_at he (Cs.idx_at hi)).choose_spec.1).1
    refine ⟨ChangeMaps.setBlock w b (.map (es.eraseIdxIfInBounds r.1) clock), ?_, ⟨_, clock, ChangeMaps.heap_setBlock_same hb _, ?_⟩, moved_setBlock hb _⟩
    · simp [Builtin.delete_, run_underlying Tryz.underlying76, MapKept.run_getObj_map hb, run_checkPt _ w p hp, hf, MapKept.run_setObj_map _ hb, Result.andThen, ChangeMaps.setBlock]
    · have hl : (es.eraseIdxIfInBounds r.1).toList = es.toList.eraseIdx r.1 := by
        simp [Array.eraseIdxIfInBounds, hlt]
      rw [hl, Cs.del, hi]
      refine ⟨?_, ?_, fun x hx => hM x ((hsub _ _).subset hx), fun e hm => h1 e ((hsub _ _).subset hm), ?_⟩
      · rw [ChangeMaps.map_eraseIdx, he, ChangeMaps.map_eraseIdx]
      · show ((M.eraseIdx r.1).map (·.1)).Nodup
        exact hn.sublist ((hsub _ _).map _)
      · exact h2.sublist ((hsub _ _).map _)
end Go.Proofs.YtagjolbpmhbifaaGreatDoor

/-! Maps of points to coins as what is looked up (pure). Nothing of the program. -/
namespace Go.Proofs.YtagjolbpmhbifaaGreatDoor
open Go Go.RowKit
namespace Cs
abbrev Mp := List (Pt × Tx.Co)
def Keys (M : Mp) : Prop := (M.map (·.1)).Nodup
theorem keys_at {M : Mp} (h : Keys M) {i j : Nat} {x y : Pt × Tx.Co} (hx : M[i]? = some x) (hy : M[j]? = some y) (e : x.1 = y.1) : i = j := by
  have h3 := (List.getElem?_eq_some_iff.1 hx).1
  exact (List.getElem?_inj (l := M.map Prod.fst) (by rw [List.length_map]; exact h3) h).1 (by rw [List.getElem?_map, List.getElem?_map, hx, hy, Option.map_some, Option.map_some, e])
theorem nodup_of_keys {M : Mp} (h : Keys M) : M.Nodup := (List.pairwise_map.1 h).imp (fun h e => h (congrArg (·.1) e))
theorem Keys.one {M : Mp} (h : Keys M) {x y : Pt × Tx.Co} (hx : x ∈ M) (hy : y ∈ M) (e : x.1 = y.1) : x = y := by
  obtain ⟨i, hi⟩ := List.mem_iff_getElem?.1 hx
  obtain ⟨j, hj⟩ := List.mem_iff_getElem?.1 hy
  obtain rfl := keys_at h hi hj e
  rw [hi] at hj
  injection hj
theorem look_some {M : Mp} (h : Keys M) {p : Pt} {c : Tx.Co} : look M p = some c ↔ (p, c) ∈ M := by
  unfold look
  constructor
  · intro e
    obtain ⟨r, hr, rfl⟩ := Option.map_eq_some_iff.1 e
    exact List.mem_of_getElem? (idx_at hr)
  · intro hm
    cases hi : idx p M with
    | none => exact absurd rfl (idx_none.1 hi _ hm)
    | some r =>
      have h2 := List.mem_of_getElem? (idx_at hi)
      have h3 := h.one hm h2 rfl
      have h4 : c = r.2 := congrArg Prod.snd h3
      show some r.2 = some c
      rw [h4]
theorem look_none {M : Mp} {p : Pt} : look M p = none ↔ ∀ x, x ∈ M → x.1 ≠ p := by
  unfold look
  rw [Option.map_eq_none_iff]
  exact idx_none
theorem mem_put {M : Mp} (h : Keys M) {p : Pt} {c : Tx.Co} {x : Pt × Tx.Co} : x ∈ put M p c ↔ x = (p, c) ∨ (x ∈ M ∧ x.1 ≠ p) := by
  unfold put
  cases hi : idx p M with
  | none =>
    have hn := idx_none.1 hi
    show x ∈ M ++ [(p, c)] ↔ _
    rw [List.mem_append, List.mem_singleton]
    exact ⟨fun e => e.elim (fun e => .inr ⟨e, hn x e⟩) .inl, fun e => e.elim .inr (fun e => .inl e.1)⟩
  | some r =>
    have h2 := idx_at hi
    obtain ⟨h3, h4⟩ := List.getElem?_eq_some_iff.1 h2
    show x ∈ M.set r.1 (p, c) ↔ _
    constructor
    · intro hx
      obtain ⟨j, hj⟩ := List.mem_iff_getElem?.1 hx
      rw [List.getElem?_set] at hj
      split at hj
      · try rw [if_pos h3] at hj
        injection hj with hj
        exact .inl hj.symm
      · rename_i hne
        exact .inr ⟨List.mem_of_getElem? hj, fun e => hne (keys_at h h2 hj e.symm)⟩
    · rintro (rfl | ⟨hx, hne⟩)
      · exact List.mem_iff_getElem?.2 ⟨r.1, by rw [List.getElem?_set_self h3]⟩
      · obtain ⟨j, hj⟩ := List.mem_iff_getElem?.1 hx
        refine List.mem_iff_getElem?.2 ⟨j, ?_⟩
        rw [List.getElem?_set_ne (fun e => hne ?_)]
        · exact hj
        · subst e
          rw [h2] at hj
          injection hj with hj
          rw [← hj]
theorem mem_del {M : Mp} (h : Keys M) {p : Pt} {x : Pt × Tx.Co} : x ∈ del M p ↔ x ∈ M ∧ x.1 ≠ p := by
  unfold del
  cases hi : idx p M with
  | none =>
    have hn := idx_none.1 hi
    show x ∈ M ↔ _
    exact ⟨fun e => ⟨e, hn x e⟩, fun e => e.1⟩
  | some r =>
    have h2 := idx_at hi
    obtain ⟨h3, h4⟩ := List.getElem?_eq_some_iff.1 h2
    show x ∈ M.eraseIdx r.1 ↔ _
    rw [List.mem_eraseIdx_iff_getElem?]
    constructor
    · rintro ⟨j, hne, hj⟩
      exact ⟨List.mem_of_getElem? hj, fun e => hne (keys_at h hj h2 e)⟩
    · rintro ⟨hx, hne⟩
      obtain ⟨j, hj⟩ := List.mem_iff_getElem?.1 hx
      refine ⟨j, fun e => hne ?_, hj⟩
      subst e
      rw [h2] at hj
      injection hj with hj
      rw [← hj]
theorem del_keys {M : Mp} (h : Keys M) (p : Pt) : Keys (del M p) := by
  unfold del Keys
  cases idx p M with
  | none => exact h
  | some r => exact List.Nodup.sublist ((List.eraseIdx_sublist _ _).map _) h
theorem look_put {M : Mp} (h : Keys M) (p : Pt) (c : Tx.Co) (q : Pt) : look (put M p c) q = if q = p then some c else look M q := by
  have hk : Keys (put M p c) := put_keys h
  by_cases e : q = p
  · rw [if_pos e, look_some hk, mem_put h]
    exact .inl (by rw [e])
  · rw [if_neg e]
    cases hl : look M q with
    | none =>
      rw [look_none] at hl ⊢
      intro x hx
      rcases (mem_put h).1 hx with rfl | ⟨h1, _⟩
      · exact fun e2 => e e2.symm
      · exact hl x h1
    | some d =>
      rw [look_some hk, mem_put h]
      exact .inr ⟨(look_some h).1 hl, e⟩
theorem look_del {M : Mp} (h : Keys M) (p q : Pt) : look (del M p) q = if q = p then none else look M q := by
  have hk : Keys (del M p) := del_keys h p
  by_cases e : q = p
  · rw [if_pos e, look_none]
    intro x hx
    rw [e]
    exact ((mem_del h).1 hx).2
  · rw [if_neg e]
    cases hl : look M q with
    | none =>
      rw [look_none] at hl ⊢
      exact fun x hx => hl x ((mem_del h).1 hx).1
    | some d =>
      rw [look_some hk, mem_del h]
      exact ⟨(look_some h).1 hl, e⟩
/-- maps that answer alike hold the same -/
theorem perm_of_look {M N : Mp} (hM : Keys M) (hN : Keys N) (h : ∀ q, look M q = look N q) : M.Perm N := by
  refine (List.perm_ext_iff_of_nodup (nodup_of_keys hM) (nodup_of_keys hN)).2 fun x => ?_
  rw [← look_some hM (p := x.1) (c := x.2), h, look_some hN]
theorem look_perm {M N : Mp} (hM : Keys M) (h : M.Perm N) (q : Pt) : look M q = look N q := by
  have hN : Keys N := (h.map _).nodup_iff.1 hM
  cases hl : look N q with
  | none =>
    rw [look_none] at hl ⊢
    exact fun x hx => hl x (h.mem_iff.1 hx)
  | some c =>
    rw [look_some hM]
    exact h.mem_iff.2 ((look_some hN).1 hl)
end Cs
end Go.Proofs.YtagjolbpmhbifaaGreatDoor

/-! Worth of a map of points to coins; what is done and taken back (pure). Nothing of the program. -/
namespace Go.Proofs.YtagjolbpmhbifaaGreatDoor
open Go Go.RowKit
namespace Cs
def worth (M : Mp) : Int := (M.map (fun x => x.2.v)).sum
theorem sum_perm {l m : List Int} (h : l.Perm m) : l.sum = m.sum := by
  induction h with
  | nil => rfl
  | cons x _ ih => rw [List.sum_cons, List.sum_cons, ih]
  | swap x y l =>
    simp only [List.sum_cons]
    omega
  | trans _ _ a b => exact a.trans b
theorem worth_perm {M N : Mp} (h : M.Perm N) : worth M = worth N := sum_perm (h.map _)
theorem worth_put {M : Mp} {p : Pt} {c : Tx.Co} (h : look M p = none) : worth (put M p c) = worth M + c.v := by
  unfold look at h
  rw [Option.map_eq_none_iff] at h
  unfold put worth
  rw [h]
  show ((M ++ [(p, c)]).map _).sum = _
  rw [List.map_append, List.sum_append]
  simp
theorem sum_erase : ∀ (l : List Int) (i : Nat) (z : Int), l[i]? = some z → (l.eraseIdx i).sum + z = l.sum
  | [], i, z, h => by simp at h
  | x :: l, 0, z, h => by
    obtain rfl : x = z := by simpa using h
    simp [Int.add_comm]
  | x :: l, i + 1, z, h => by
    have ih := sum_erase l i z (by simpa using h)
    simp only [List.eraseIdx_cons_succ, List.sum_cons]
    omega
theorem worth_del {M : Mp} {p : Pt} {c : Tx.Co} (h : look M p = some c) : worth (del M p) + c.v = worth M := by
  unfold look at h
  obtain ⟨r, hr, rfl⟩ := Option.map_eq_some_iff.1 h
  unfold del worth
  rw [hr]
  show ((M.eraseIdx r.1).map _).sum + _ = _
  rw [ChangeMaps.map_eraseIdx]
  exact sum_erase _ _ _ (by rw [List.getElem?_map, idx_at hr]; rfl)
theorem del_none {M : Mp} {p : Pt} (h : look M p = none) : del M p = M := by
  unfold look at h
  rw [Option.map_eq_none_iff] at h
  unfold del
  rw [h]
/-- the total of amounts, in whatever order -/
theorem total_good : ∀ (l : List Int) (s : Int), (∀ z, z ∈ l → Am.Good z) → Am.Good s → Am.total l s = if Am.Good (s + l.sum) then (s + l.sum, 0) else (0, 9)
  | [], s, _, hs => by
    rw [List.sum_nil, Int.add_zero, if_pos hs]
    rfl
  | z :: l, s, h, hs => by
    have hz := h z List.mem_cons_self
    have hl : 0 ≤ l.sum := by
      have : ∀ (m : List Int), (∀ z, z ∈ m → Am.Good z) → 0 ≤ m.sum := fun m => by
        induction m with
        | nil => intro _; simp
        | cons y m ih =>
          intro hm
          have h1 := ih (fun z hz => hm z (List.mem_cons_of_mem _ hz))
          have h2 := (hm y List.mem_cons_self).1
          rw [List.sum_cons]
          omega
      exact this l (fun z hz => h z (List.mem_cons_of_mem _ hz))
    unfold Am.total
    rw [if_pos hz, List.sum_cons, ← Int.add_assoc]
    by_cases hg : Am.Good (s + z)
    · rw [if_pos hg]
      exact total_good l (s + z) (fun z hz => h z (List.mem_cons_of_mem _ hz)) hg
    · rw [if_neg hg, if_neg]
      intro h3
      refine hg ⟨?_, ?_⟩
      · have := hs.1
        have := hz.1
        omega
      · have := h3.2
        omega
/-- a transaction's own coins, by their points -/
def own (id : List (BitVec 8)) (co : List Tx.Co) (q : Pt) : Option Tx.Co := if q.1 = id ∧ 0 ≤ q.2 then co[q.2.toNat]? else none
def pt (s : Tx.Sp) : Pt := (s.h, s.n)
/-- N is M when t was applied -/
def IsDo (M N : Mp) (id : List (BitVec 8)) (t : Tx.T) : Prop := ∀ q, look N q = match own id t.co q with
  | some c => some c
  | none => if q ∈ t.sp.map pt then none else look M q
/-- .. when it was taken back -/
def IsBack (M N : Mp) (id : List (BitVec 8)) (t : Tx.T) (spent : List Tx.Co) : Prop := ∀ q, look N q = match ((t.sp.map pt).zip spent).reverse.find? (fun x => decide (x.1 = q)) with
  | some x => some x.2
  | none => if (own id t.co q).isSome then none else look M q
theorem back_do {M N K L : Mp} {id : List (BitVec 8)} {t : Tx.T} {spent : List Tx.Co} (hd : IsDo M N id t) (he : ∀ q, look K q = look N q) (hb : IsBack K L id t spent)
    (hs : ∀ x, x ∈ (t.sp.map pt).zip spent → look M x.1 = some x.2) (hl : spent.length = t.sp.length) (ho : ∀ q, (own id t.co q).isSome = true → look M q = none) : ∀ q, look L q = look M q := by
  intro q
  rw [hb q]
  cases hf : ((t.sp.map pt).zip spent).reverse.find? (fun x => decide (x.1 = q)) with
  | some x =>
    have h1 := List.mem_of_find?_eq_some hf
    have h2 : x.1 = q := by simpa using List.find?_some hf
    rw [List.mem_reverse] at h1
    show some x.2 = _
    rw [← hs x h1, h2]
  | none =>
    have hn : ¬ q ∈ t.sp.map pt := by
      intro hm
      obtain ⟨i, hi⟩ := List.mem_iff_getElem?.1 hm
      have hlt : i < spent.length := by
        have := (List.getElem?_eq_some_iff.1 hi).1
        rw [List.length_map] at this
        omega
      have h3 : (q, spent[i]) ∈ (t.sp.map pt).zip spent := by
        refine List.mem_iff_getElem?.2 ⟨i, ?_⟩
        rw [List.getElem?_zip_eq_some]
        exact ⟨hi, List.getElem?_eq_getElem hlt⟩
      have h4 := List.find?_eq_none.1 hf (q, spent[i]) (List.mem_reverse.2 h3)
      simp at h4
    show (if (own id t.co q).isSome then none else look K q) = _
    by_cases hw : (own id t.co q).isSome = true
    · rw [if_pos hw, ho q hw]
    · rw [if_neg hw, he q, hd q]
      cases ho2 : own id t.co q with
      | some c => rw [ho2] at hw; exact absurd rfl hw
      | none =>
        show (if q ∈ t.sp.map pt then none else look M q) = _
        rw [if_neg hn]
end Cs
end Go.Proofs.YtagjolbpmhbifaaGreatDoor
