/- Digests: arrays of 32 bytes, and slices of them, that came in. -/
import Derived.Test.YtpbijcchdjppmaaRows
import Derived.Test.YtpbijcchdjppmaaBb
import Derived.Deep.Slices
import Derived.Deep.MidRow
namespace Go.Proofs.Ytpbijcchdjppmaa
open Go Go.RowKit Go.ChangeShapes Go.WideShapes
theorem blist_of : ∀ (cs : List Value), (∀ v ∈ cs, ∃ x : BitVec 8, v = .int .u8 (nb8 x)) → ∃ l, cs = blist l ∧ l.length = cs.length
  | [], _ => ⟨[], rfl, rfl⟩
  | v :: cs, h => by
    obtain ⟨x, rfl⟩ := h v (by simp)
    obtain ⟨l, rfl, hl⟩ := blist_of cs (fun u hu => h u (by simp [hu]))
    exact ⟨x :: l, rfl, congrArg (· + 1) hl⟩
section
variable {H : Type} {enc : TypeId × Value → H} {P : Program} {w : World} {base : Nat} {spare : Nat → Bool} {held : Bool}
theorem open_bytes32 {t e : TypeId} {k fuel : Nat} {cs : List Value} {x : DataW H × List MemPlace} (ht : P.underlying t = some (.array k e)) (he : P.underlying e = some (.int .u8)) (hc : P.cellsOf e = 1) (hC : P.cellsOf t = k) (h : DataW.trod enc P w base spare held fuel t cs = some x) :
    ∃ l : List (BitVec 8), cs = blist l ∧ l.length = k := by
  obtain ⟨xs, m, _, _, hlen, hxl, hg⟩ := DataW.trod_array ht h
  rw [hC] at hlen
  obtain ⟨l, e1, e2⟩ := blist_of cs (fun v hv => by
    obtain ⟨i, hi, rfl⟩ := List.mem_iff_getElem.1 hv
    have h1 := hg i (by omega)
    rw [hc, Nat.mul_one] at h1
    have e1 : (cs.drop i).take 1 = [cs[i]] := by
      rw [List.drop_eq_getElem_cons hi]
      rfl
    rw [e1, List.getElem?_eq_getElem (by omega)] at h1
    obtain ⟨z, e, _, hw⟩ := DataW.trod_int he h1
    obtain ⟨e, _⟩ := List.cons.inj e
    obtain ⟨b, rfl⟩ := u8_of_wf hw
    exact ⟨b, e⟩)
  exact ⟨l, e1, e2.trans hlen⟩
end
section
variable {H : Type} {enc : TypeId × Value → H} {P : Program} {W : World} {base : Nat} {v : Value} {d : DataW H} {p : List MemPlace}
theorem arg_bytes32 {t e : TypeId} {k : Nat} (ht : P.underlying t = some (.array k e)) (he : P.underlying e = some (.int .u8)) (hc : P.cellsOf e = 1) (hC : P.cellsOf t = k) (o : Value.okWide P W .any base t v) (h : DataW.Trod enc P W 0 (fun _ => true) true t v d p) :
    ∃ l : List (BitVec 8), v = .agg (blist l).toArray ∧ l.length = k := by
  have hv : ∃ cs : Array Value, v = .agg cs := by
    simp only [Value.okWide, ht] at o
    obtain ⟨cs, h1, _⟩ := o
    exact ⟨cs, h1⟩
  obtain ⟨cs, rfl⟩ := hv
  obtain ⟨fuel, hf⟩ := h
  obtain ⟨l, e1, e2⟩ := open_bytes32 ht he hc hC hf
  exact ⟨l, by rw [← e1]; rfl, e2⟩
end
theorem size_hash {l : List (BitVec 8)} (hl : l.length = 32) : (Try.prog.info? 49).map (·.size) = some (blist l).length := by
  rw [blist_length, hl]
  kernel_rfl
theorem Has.range8 {w : World} {g : Nat} {T : TypeId} {l : List (BitVec 8)} (h : Has w g T (blist l).toArray) : w.rangeAt g 0 (blist l) := h.range
theorem wpList_load_run {P : Program} {ops : Array Oper} {rest : List Oper} {op : Oper} {a : Act} {w : World} {Q : Exit → Act → World → Prop} (hgd : op.guard = none) (ty : TypeId) (x : Operand) (ho : op.op = .load ty x)
    (p v : Value) (hx : a.eval x = p) (hr : (Instr.loadAt ty p).run P w = .ok v w) (h : wpList P ops Q rest (a.put op.dst v) w) : wpList P ops Q (op :: rest) a w :=
  wpList_plain hgd fun K hK => by
    unfold Oper.wp execOp
    simp only [ho, hx, Sem.run_bind, Sem.run_pure, Result.andThen_ok, hr]
    exact hK _ _ h
theorem putAll_to : ∀ (vs : List Value) (cs : Array Value) (o : Nat), o + vs.length = cs.size → putAll cs o vs = (cs.toList.take o ++ vs).toArray
  | [], cs, o, h => by
    have : cs.toList.take o = cs.toList := List.take_of_length_le (by rw [Array.length_toList]; simp at h; omega)
    rw [List.append_nil, this]
    rfl
  | v :: vs, cs, o, h => by
    have hs : (cs.setIfInBounds o v).size = cs.size := Array.size_setIfInBounds
    rw [putAll, putAll_to vs _ (o + 1) (by rw [hs]; simp only [List.length_cons] at h; omega)]
    have ho : o < cs.toList.length := by rw [Array.length_toList]; simp only [List.length_cons] at h; omega
    rw [Array.toList_setIfInBounds]
    congr 1
    have : (cs.toList.set o v).take (o + 1) = cs.toList.take o ++ [v] := by
      rw [List.take_succ_eq_append_getElem (by rw [List.length_set]; exact ho), List.getElem_set_self, List.take_set_of_le (Nat.le_refl _)]
    rw [this, List.append_assoc]
    rfl
/-- a block of k cells, written whole -/
theorem Has.whole {w : World} {g : Nat} {T : TypeId} {cs : Array Value} {l : List (BitVec 8)} (h : Has w g T cs) (hl : l.length = cs.size) : Has (w.setCells g 0 (blist l)) g T (blist l).toArray := by
  have := h.putAll (blist l) 0
  rwa [putAll_to (blist l) cs 0 (by rw [blist_length, hl]; omega)] at this
/-- a new array of 32 bytes -/
abbrev z32 : Array Value := #[.int .u8 0, .int .u8 0, .int .u8 0, .int .u8 0, .int .u8 0, .int .u8 0, .int .u8 0, .int .u8 0, .int .u8 0, .int .u8 0, .int .u8 0, .int .u8 0, .int .u8 0, .int .u8 0, .int .u8 0, .int .u8 0, .int .u8 0, .int .u8 0, .int .u8 0, .int .u8 0, .int .u8 0, .int .u8 0, .int .u8 0, .int .u8 0, .int .u8 0, .int .u8 0, .int .u8 0, .int .u8 0, .int .u8 0, .int .u8 0, .int .u8 0, .int .u8 0]
theorem there_new (w : World) (T : TypeId) {l : List (BitVec 8)} (hl : l.length = 32) : (w.alloc (.cells z32 T)).there w.heap.size 0 (blist l).toArray.size :=
  (Has.fresh w T z32).there 0 _ (by rw [List.size_toArray, blist_length, hl]; decide)
theorem size_hash' {l : List (BitVec 8)} (hl : l.length = 32) : (Try.prog.info? 49).map (·.size) = some (blist l).toArray.size := by
  rw [List.size_toArray]; exact size_hash hl
theorem one_hash (l : List (BitVec 8)) : (blist l).toArray.all (·.oneCell') = true :=
  Array.all_eq_true_iff_forall_mem.2 fun v hv => blist_one l v (by simpa using hv)
/-- a new array into which a digest is stored -/
theorem hash_new {w w' : World} {T : TypeId} {l : List (BitVec 8)} (hl : l.length = 32) (h : w' = (w.alloc (.cells z32 T)).setCells w.heap.size 0 (blist l)) : Has w' w.heap.size T (blist l).toArray ∧ Below w.heap.size w w' := by
  subst h
  exact ⟨(Has.fresh w T z32).whole (by rw [hl]; rfl), below_setAll (Nat.le_refl _) _ 0 ((Below.refl _ _).alloc (Nat.le_refl _) _)⟩
/-- a slice of arrays of k bytes: readable where there are any -/
def Rows8 (k : Nat) (w : World) (a : Option Addr) (n : Nat) (L : List (List (BitVec 8))) : Prop :=
  L.length = n ∧ n ≤ maxLen ∧ (∀ l, l ∈ L → l.length = k) ∧ ∀ i, i < n → ∃ x, a = some x ∧ ∀ j, j < k → w.cell? (x.add (i * k + j)) = some (.int .u8 (nb8 (cb (L.getD i []) j)))
theorem Rows8.keep {k : Nat} {w w' : World} {a : Option Addr} {n : Nat} {L : List (List (BitVec 8))} (h : Rows8 k w a n L) (hk : ∀ p : Addr, (w.cell? p).isSome = true → w'.cell? p = w.cell? p) : Rows8 k w' a n L := by
  refine ⟨h.1, h.2.1, h.2.2.1, fun i hi => ?_⟩
  obtain ⟨x, rfl, hx⟩ := h.2.2.2 i hi
  exact ⟨x, rfl, fun j hj => by rw [hk _ (by rw [hx j hj]; rfl)]; exact hx j hj⟩
theorem Rows8.below {k : Nat} {w w' : World} {a : Option Addr} {n : Nat} {L : List (List (BitVec 8))} (h : Rows8 k w a n L) (hb : Below w.heap.size w w') : Rows8 k w' a n L :=
  h.keep fun _ hp => hb.cell (isSome_lt hp)
theorem Rows8.past {k : Nat} {w : World} {a : Option Addr} {n : Nat} {L : List (List (BitVec 8))} (h : Rows8 k w a n L) (o : Obj) : Rows8 k (w.alloc o) a n L := h.keep fun p hp => World.cell?_alloc_lt w o p (isSome_lt hp)
theorem Rows8.draw {k : Nat} {w : World} {a : Option Addr} {n : Nat} {L : List (List (BitVec 8))} (h : Rows8 k w a n L) : Rows8 k w.drew a n L := h
theorem Rows8.len {k : Nat} {w : World} {a : Option Addr} {n i : Nat} {L : List (List (BitVec 8))} (h : Rows8 k w a n L) (hi : i < n) : (L.getD i []).length = k := by
  refine h.2.2.1 _ ?_
  rw [List.getD_eq_getElem?_getD, List.getElem?_eq_getElem (by rw [h.1]; exact hi)]
  exact List.getElem_mem _
theorem add_mul_add (x : Addr) (a b : Nat) : (x.add a).add b = x.add (a + b) := Addr.add_add x a b
/-- an array of k bytes is read whole -/
theorem run_load_bytes {P : Program} {t e : TypeId} {k : Nat} (ht : P.underlying t = some (.array k e)) (hs : (P.info? t).map (·.size) = some k) {w : World} {a : Addr} {l : List (BitVec 8)} (hl : l.length = k) (hc : ∀ j, j < k → w.cell? (a.add j) = some (.int .u8 (nb8 (cb l j)))) :
    (Instr.loadAt t (.pointer (some a))).run P w = .ok (.agg (blist l).toArray) w := by
  have h1 : (loadCells a k).run P w = .ok (blist l).toArray w := by
    have := run_loadCells_list (P := P) w a (blist l) (fun j v hj => by
      have hjl : j < l.length := by
        have := (List.getElem?_eq_some_iff.1 hj).1
        rwa [blist_length] at this
      rw [hc j (by omega), ← hj, blist_at l j hjl])
    rwa [blist_length, hl] at this
  cases hq : P.info? t with
  | none => simp [hq] at hs
  | some i =>
    have hz : i.size = k := by simpa [hq] using hs
    have hagg : (isAgg t).run P w = .ok true w := by
      unfold isAgg
      rw [Sem.run_bind, run_underlying ht w]
      rfl
    simp [Instr.loadAt, Instr.sureAddr, loadVar, Sem.run_bind, hagg, sizeOf, typeInfo, hq, hz, h1]
theorem Has.load_bytes {P : Program} {t e : TypeId} {k : Nat} (ht : P.underlying t = some (.array k e)) (hs : (P.info? t).map (·.size) = some k) {w : World} {g : Nat} {T : TypeId} {l : List (BitVec 8)} (hl : l.length = k) (h : Has w g T (blist l).toArray) :
    (Instr.loadAt t (.pointer (some ⟨g, 0, none⟩))).run P w = .ok (.agg (blist l).toArray) w :=
  run_load_bytes ht hs hl fun j hj => by
    rw [Addr.add_mid, Nat.zero_add, h.cell, List.getElem?_toArray]
    exact blist_at l j (by omega)
theorem Rows8.load {P : Program} {t e : TypeId} {k : Nat} (ht : P.underlying t = some (.array k e)) (hs : (P.info? t).map (·.size) = some k) {w : World} {a : Option Addr} {n i : Nat} {L : List (List (BitVec 8))} (h : Rows8 k w a n L) (hi : i < n) :
    ∃ x, a = some x ∧ (Instr.loadAt t (.pointer (some (x.add (i * k))))).run P w = .ok (.agg (blist (L.getD i [])).toArray) w := by
  obtain ⟨x, rfl, hx⟩ := h.2.2.2 i hi
  exact ⟨x, rfl, run_load_bytes ht hs (h.len hi) fun j hj => by rw [Addr.add_add]; exact hx j hj⟩
section
variable {H : Type} {enc : TypeId × Value → H} {P : Program} {W : World} {base : Nat} {v : Value} {d : DataW H} {p : List MemPlace}
theorem exists_list {k : Nat} (W : World) (x : Addr) : ∀ (n : Nat) (_ : ∀ i, i < n → ∃ l : List (BitVec 8), l.length = k ∧ ∀ j, j < k → W.cell? (x.add (i * k + j)) = some (.int .u8 (nb8 (cb l j)))),
    ∃ L : List (List (BitVec 8)), L.length = n ∧ (∀ l, l ∈ L → l.length = k) ∧ ∀ i, i < n → ∀ j, j < k → W.cell? (x.add (i * k + j)) = some (.int .u8 (nb8 (cb (L.getD i []) j)))
  | 0, _ => ⟨[], rfl, (fun l hl => nomatch hl), fun i hi => absurd hi (Nat.not_lt_zero _)⟩
  | n + 1, h => by
    obtain ⟨L, h1, h2, h3⟩ := exists_list W x n (fun i hi => h i (by omega))
    obtain ⟨l, h4, h5⟩ := h n (by omega)
    refine ⟨L ++ [l], by simp [h1], fun u hu => ?_, fun i hi j hj => ?_⟩
    · rcases List.mem_append.1 hu with h | h
      · exact h2 u h
      · rw [List.mem_singleton.1 h]; exact h4
    · rcases Nat.lt_or_ge i n with hlt | hge
      · rw [h3 i hlt j hj, List.getD_eq_getElem?_getD, List.getD_eq_getElem?_getD, List.getElem?_append_left (by omega)]
      · obtain rfl : i = n := by omega
        rw [h5 j hj, List.getD_eq_getElem?_getD, List.getElem?_append_right (by omega), h1, Nat.sub_self]
        rfl
theorem arg_rows8 {t r e : TypeId} {k : Nat} (ht : P.underlying t = some (.slice r)) (hr : P.underlying r = some (.array k e)) (he : P.underlying e = some (.int .u8)) (hc : P.cellsOf e = 1) (hC : P.cellsOf r = k) (o : Value.okWide P W .any base t v) (h : DataW.Trod enc P W 0 (fun _ => true) true t v d p) :
    ∃ (a : Option Addr) (n c : Nat) (L : List (List (BitVec 8))), v = .slice a n c ∧ Rows8 k W a n L ∧ n ≤ c ∧ (a = none → c = 0) := by
  obtain ⟨a, n, c, rfl⟩ := okWide_slice ht o
  obtain ⟨fuel, hf⟩ := h
  refine ⟨a, n, c, ?_⟩
  rcases Go.Deep.open_slice ht hf with ⟨hcs, _⟩ | ⟨x, len, cap, m, q, D, Pl, hcs, _, hl, hm, hmm, _, hcell⟩
  · simp [Value.cells] at hcs
    obtain ⟨rfl, rfl, rfl⟩ := hcs
    exact ⟨[], rfl, ⟨rfl, by unfold maxLen; omega, (fun l hl => by cases hl), fun i hi => by omega⟩, Nat.le_refl _, fun _ => rfl⟩
  · simp [Value.cells] at hcs
    obtain ⟨rfl, rfl, rfl⟩ := hcs
    obtain ⟨L, h1, h2, h3⟩ := exists_list (k := k) W x n (fun i hi => by
      obtain ⟨cs, hcs, htr⟩ := hcell i (by split at hmm <;> omega)
      obtain ⟨l, rfl, hll⟩ := open_bytes32 hr he hc hC htr
      rw [hC] at hcs
      obtain ⟨_, hlen, hat⟩ := World.cells?_some hcs
      exact ⟨l, hll, fun j hj => by rw [← Addr.add_add, hat j hj, blist_at l j (by omega)]⟩)
    exact ⟨L, rfl, ⟨h1, by omega, h2, fun i hi => ⟨x, rfl, fun j hj => h3 i hi j hj⟩⟩, hl, fun e => by cases e⟩
end
end Go.Proofs.Ytpbijcchdjppmaa
