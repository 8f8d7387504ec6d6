/- the reference's Sign (mklkg.py) · what signing does. Nothing of the program. -/
import Derived.Test.YtagjolbpmhbifaaGreatDoorCsy
import Derived.Test.YtagjolbpmhbifaaGreatDoorLz
/-! the reference's Sign (mklkg.py) -/
namespace Go.Proofs.YtagjolbpmhbifaaGreatDoor
open Go Go.RowKit Go.ChangeShapes Go.WideShapes
set_option maxRecDepth 100000 in
theorem built_sp32 (d0 d1 d2 d3 d4 d5 d6 d7 d8 d9 d10 d11 d12 d13 d14 d15 d16 d17 d18 d19 d20 d21 d22 d23 d24 d25 d26 d27 d28 d29 d30 d31 : BitVec 8) (n : Int) (key : ByteArray) (sl : BitVec 64) : Tryz.prog.built 75 [(0, .agg (ptCells [d0, d1, d2, d3, d4, d5, d6, d7, d8, d9, d10, d11, d12, d13, d14, d15, d16, d17, d18, d19, d20, d21, d22, d23, d24, d25, d26, d27, d28, d29, d30, d31] n).toArray), (1, .string key), (2, .int .u64 (nb64 sl))] = some (blist [d0, d1, d2, d3, d4, d5, d6, d7, d8, d9, d10, d11, d12, d13, d14, d15, d16, d17, d18, d19, d20, d21, d22, d23, d24, d25, d26, d27, d28, d29, d30, d31] ++ ([.int .i64 n, .string key, .int .u64 (nb64 sl)] : List Value)).toArray := by kernel_rfl
theorem built_sp : ∀ (h : List (BitVec 8)), h.length = 32 → ∀ (n : Int) (key : List (BitVec 8)) (sl : BitVec 64), Tryz.prog.built 75 [(0, .agg (ptCells h n).toArray), (1, .string (strB key)), (2, .int .u64 (nb64 sl))] = some (spCells ⟨h, n, key, sl⟩).toArray
  | [d0, d1, d2, d3, d4, d5, d6, d7, d8, d9, d10, d11, d12, d13, d14, d15, d16, d17, d18, d19, d20, d21, d22, d23, d24, d25, d26, d27, d28, d29, d30, d31], _, n, key, sl => built_sp32 d0 d1 d2 d3 d4 d5 d6 d7 d8 d9 d10 d11 d12 d13 d14 d15 d16 d17 d18 d19 d20 d21 d22 d23 d24 d25 d26 d27 d28 d29 d30 d31 n (strB key) sl
theorem yieldsIf_build_sp {ops : Array Oper} {S : World → Prop} {op : Oper} {a : Act} (hw : Region.wanted op (yielded ops a.tmps) = true) (x y z : Operand) (ho : op.op = .build 75 #[(0, x), (1, y), (2, z)]) (h : List (BitVec 8)) (n : Int) (key : List (BitVec 8)) (sl : BitVec 64)
    (hx : a.eval x = .agg (ptCells h n).toArray) (hy : a.eval y = .string (strB key)) (hz : a.eval z = .int .u64 (nb64 sl)) (hl : h.length = 32) {cs : Array Value} (hcs : cs = (spCells ⟨h, n, key, sl⟩).toArray) : YieldsIf Tryz.prog ops S op (.agg cs) a :=
  .inl ⟨hw, fun w _ => by
    have hr := run_build (P := Tryz.prog) w 75 #[(0, .agg (ptCells h n).toArray), (1, .string (strB key)), (2, .int .u64 (nb64 sl))] _ (built_sp h hl n key sl)
    subst hcs
    unfold execOp
    simp only [ho, List.map_toArray, List.map_cons, List.map_nil, hx, hy, hz, Sem.run_bind, Sem.run_pure, Result.andThen_ok, hr]⟩
theorem lk_step_build_row {P : Program} {w : World} {ops : Array Oper} {o : Oper} {a : Act} {K : Act → World → Prop} {Q : Exit → Act → World → Prop} {E : Prop} (hwt : Region.wanted o (yielded ops a.tmps) = true) (x : Operand) (t : TypeId) (ho : o.op = .buildSlice t 1 #[(0, x)])
    (T : TypeId) {z : Array Value} {k by_ : Nat} (ht : P.underlying t = some (.slice T)) (hi : (P.info? T).map (fun i => (i.zero, i.size, i.bytes)) = some (some (.agg z), k, by_)) (hk : 0 < k) (hk2 : k ≤ 16777216) (cs : Array Value) (hc : cs.size = k) (hx : a.eval x = .agg cs)
    (h : K (a.put o.dst (.slice (some ⟨w.heap.size, 0, none⟩) 1 1)) (w.alloc (.cells cs T))) : if Region.wanted o (yielded ops a.tmps) = true then Oper.wp P o a w K Q else E := by
  rw [if_pos hwt]
  have hr := run_build_row (P := P) ht hi hk hk2 cs hc w
  unfold Oper.wp execOp
  simp only [ho, List.map_toArray, List.map_cons, List.map_nil, hx, Sem.run_bind, Sem.run_pure, Result.andThen_ok, hr]
  exact h
theorem Recs.block_lt {α : Type} {R : Rec α} {w : World} {a : Option Addr} {n : Nat} {L : List α} (h : Recs R w a n L) (hn : 0 < n) (x : Addr) (hx : a = some x) : x.block < w.heap.size := by
  subst hx
  obtain ⟨t, ht⟩ := h.get hn
  have hp : 0 < (R.cells t).length := by rw [R.len t (h.okay ht)]; exact R.pos
  have hc := h.field (R := R) (j := 0) ht (List.getElem?_eq_getElem hp)
  have h1 := isSome_lt (w := w) (p := x.add (0 * R.k + 0)) (by rw [hc]; rfl)
  rwa [block_add] at h1
theorem lk_recs_one {α : Type} {R : Rec α} {T : TypeId} {w : World} {x : α} (hx : R.ok x) {cs : Array Value} (hcs : cs = (R.cells x).toArray) : Recs R (w.alloc (.cells cs T)) (some ⟨w.heap.size, 0, none⟩) 1 [x] :=
  recs_fresh (R := R) (L := [x]) (fun t ht => by rw [List.mem_singleton.1 ht]; exact hx) (Has.fresh _ _ _) (by show 1 ≤ maxLen; unfold maxLen; omega) (fun j u hj => by
    rw [hcs, List.getElem?_toArray]
    simpa [Rec.row] using hj)
namespace Lk
def signSp (id : List (BitVec 8)) (s : Tx.Sp) (key : List (BitVec 8)) : Tx.Sp := ⟨s.h, s.n, key, sealOf key id⟩
def signed (t : Tx.T) (keys : List (List (BitVec 8))) : List Tx.Sp := (t.sp.zip keys).map (fun p => signSp (Tx.idOf false t) p.1 p.2)
def sign (t : Tx.T) (keys : List (List (BitVec 8))) : Tx.T := ⟨signed t keys, t.co, t.firm⟩
theorem signed_len (t : Tx.T) (keys : List (List (BitVec 8))) (h : keys.length = t.sp.length) : (signed t keys).length = t.sp.length := by
  unfold signed
  rw [List.length_map, List.length_zip, h, Nat.min_self]
theorem signed_at {t : Tx.T} {keys : List (List (BitVec 8))} {i : Nat} {s : Tx.Sp} {key : List (BitVec 8)} (hs : t.sp[i]? = some s) (hk : keys[i]? = some key) : (signed t keys)[i]? = some (signSp (Tx.idOf false t) s key) := by
  unfold signed
  rw [List.getElem?_map, List.zip_eq_zipWith, List.getElem?_zipWith, hs, hk]
  rfl
theorem signed_take {t : Tx.T} {keys : List (List (BitVec 8))} {i : Nat} {s : Tx.Sp} {key : List (BitVec 8)} (hs : t.sp[i]? = some s) (hk : keys[i]? = some key) : (signed t keys).take (i + 1) = (signed t keys).take i ++ [signSp (Tx.idOf false t) s key] := by
  obtain ⟨h2, h3⟩ := List.getElem?_eq_some_iff.1 (signed_at hs hk)
  rw [List.take_succ_eq_append_getElem h2, h3]
end Lk
def SignPost (n : Nat) (b : Option Addr) (m r : Nat) (t : Tx.T) (keys : List (List (BitVec 8))) (w0 : World) (e : Ending) (w' : World) : Prop :=
  ∃ (a : Option Addr) (q : Nat), e = .returned (txv a n q b m r t.firm) ∧ OwnR spRec 75 w0.heap.size w' (.slice a n q) (Lk.signed t keys) ∧ Below w0.heap.size w0 w'
end Go.Proofs.YtagjolbpmhbifaaGreatDoor

/-! what signing does. Nothing of the program. -/
namespace Go.Proofs.YtagjolbpmhbifaaGreatDoor
open Go Go.RowKit Go.ChangeShapes Go.WideShapes
namespace Lk
theorem zip_base (id : List (BitVec 8)) : ∀ (l : List Tx.Sp) (k : List (List (BitVec 8))), k.length = l.length → ((l.zip k).map (fun p => signSp id p.1 p.2)).flatMap (Tx.encSp false) = l.flatMap (Tx.encSp false)
  | [], k, _ => rfl
  | s :: l, [], h => by simp at h
  | s :: l, x :: k, h => by
    rw [List.zip_cons_cons, List.map_cons, List.flatMap_cons, List.flatMap_cons, zip_base id l k (by simpa using h)]
    rfl
theorem base_sign (t : Tx.T) (keys : List (List (BitVec 8))) (h : keys.length = t.sp.length) : Tx.enc false (sign t keys) = Tx.enc false t := by
  have e1 : (signed t keys).flatMap (Tx.encSp false) = t.sp.flatMap (Tx.encSp false) := zip_base _ t.sp keys h
  unfold Tx.enc sign
  dsimp only
  rw [e1, signed_len t keys h]
theorem id_sign (t : Tx.T) (keys : List (List (BitVec 8))) (h : keys.length = t.sp.length) : Tx.idOf false (sign t keys) = Tx.idOf false t := by
  rw [Tx.idOf, Tx.idOf, base_sign t keys h]
theorem zip_again (id : List (BitVec 8)) : ∀ (l : List Tx.Sp) (k : List (List (BitVec 8))), (((l.zip k).map (fun p => signSp id p.1 p.2)).zip k).map (fun p => signSp id p.1 p.2) = (l.zip k).map (fun p => signSp id p.1 p.2)
  | [], k => rfl
  | s :: l, [] => rfl
  | s :: l, x :: k => by
    rw [List.zip_cons_cons, List.map_cons, List.zip_cons_cons, List.map_cons, zip_again id l k]
    rfl
/-- signing again changes nothing -/
theorem sign_again (t : Tx.T) (keys : List (List (BitVec 8))) (h : keys.length = t.sp.length) : sign (sign t keys) keys = sign t keys := by
  have e1 : signed (sign t keys) keys = signed t keys := by
    unfold signed
    rw [id_sign t keys h]
    exact zip_again _ t.sp keys
  show (⟨signed (sign t keys) keys, t.co, t.firm⟩ : Tx.T) = _
  rw [e1]
  rfl
/-- the coins that keys lock -/
def coins (keys : List (List (BitVec 8))) : List Tx.Co := keys.map (fun k => ⟨0, lockOf k⟩)
theorem signed_get {t : Tx.T} {keys : List (List (BitVec 8))} {j : Nat} {s : Tx.Sp} (h : (signed t keys)[j]? = some s) : ∃ u key, t.sp[j]? = some u ∧ keys[j]? = some key ∧ s = signSp (Tx.idOf false t) u key := by
  unfold signed at h
  rw [List.getElem?_map] at h
  cases hz : (t.sp.zip keys)[j]? with
  | none => rw [hz] at h; cases h
  | some p =>
    rw [hz] at h
    have h2 : s = signSp (Tx.idOf false t) p.1 p.2 := by injection h with h; exact h.symm
    rw [List.getElem?_zip_eq_some] at hz
    exact ⟨p.1, p.2, hz.1, hz.2, h2⟩
/-- what is signed opens the coins that its keys lock -/
theorem check_sign (t : Tx.T) (keys : List (List (BitVec 8))) (h : keys.length = t.sp.length) : check (sign t keys) (coins keys) = 0 := by
  have hl : (coins keys).length = (sign t keys).sp.length := by
    show (keys.map _).length = (signed t keys).length
    rw [List.length_map, signed_len t keys h, h]
  rw [check, if_pos hl, if_pos]
  intro j s c hs hc
  obtain ⟨u, key, _, hk, rfl⟩ := signed_get hs
  have hc2 : c = ⟨0, lockOf key⟩ := by
    unfold coins at hc
    rw [List.getElem?_map, hk] at hc
    injection hc with hc
    exact hc.symm
  rw [hc2, id_sign t keys h, opens, decide_eq_true_iff]
  exact ⟨rfl, rfl⟩
/-- every seal turned by one -/
def spoil (t : Tx.T) : Tx.T := ⟨t.sp.map (fun s => ⟨s.h, s.n, s.key, s.sl + 1#64⟩), t.co, t.firm⟩
theorem base_spoil (t : Tx.T) : Tx.enc false (spoil t) = Tx.enc false t := by
  have e1 : (t.sp.map (fun s : Tx.Sp => (⟨s.h, s.n, s.key, s.sl + 1#64⟩ : Tx.Sp))).flatMap (Tx.encSp false) = t.sp.flatMap (Tx.encSp false) := by
    rw [List.flatMap_map]
    rfl
  unfold Tx.enc spoil
  dsimp only
  rw [e1, List.length_map]
theorem ne_succ (x : BitVec 64) : ¬ x = x + 1#64 := by
  intro e
  have h := congrArg BitVec.toNat e
  rw [BitVec.toNat_add] at h
  have := x.isLt
  simp at h
  omega
theorem check_spoil (t : Tx.T) (keys : List (List (BitVec 8))) (h : keys.length = t.sp.length) (h0 : keys ≠ []) : check (spoil (sign t keys)) (coins keys) = 10 := by
  have hl : (coins keys).length = (spoil (sign t keys)).sp.length := by
    show (keys.map _).length = ((signed t keys).map _).length
    rw [List.length_map, List.length_map, signed_len t keys h, h]
  rw [check, if_pos hl, if_neg]
  intro ha
  have hp : 0 < keys.length := List.length_pos_iff.2 h0
  obtain ⟨u, hu⟩ : ∃ u, t.sp[0]? = some u := ⟨t.sp[0]'(by omega), List.getElem?_eq_getElem _⟩
  obtain ⟨key, hk⟩ : ∃ k, keys[0]? = some k := ⟨keys[0]'hp, List.getElem?_eq_getElem _⟩
  have hs := signed_at hu hk
  have h1 := ha 0 ⟨u.h, u.n, key, sealOf key (Tx.idOf false t) + 1#64⟩ ⟨0, lockOf key⟩ (by
    show ((signed t keys).map _)[0]? = _
    rw [List.getElem?_map, hs]
    rfl) (by
    unfold coins
    rw [List.getElem?_map, hk]
    rfl)
  rw [opens, decide_eq_true_iff] at h1
  have h2 : Tx.idOf false (spoil (sign t keys)) = Tx.idOf false t := by
    rw [Tx.idOf, base_spoil, base_sign t keys h]
    rfl
  rw [h2] at h1
  exact ne_succ _ h1.2
theorem sign_small {t : Tx.T} (hs : Tx.Small t) (keys : List (List (BitVec 8))) (h : keys.length = t.sp.length) (hk : ∀ k, k ∈ keys → k.length ≤ 300) : Tx.Small (sign t keys) := by
  refine ⟨by show (signed t keys).length ≤ 30; rw [signed_len t keys h]; exact hs.1, hs.2.1, fun s hm => ?_⟩
  obtain ⟨j, hj⟩ := List.mem_iff_getElem?.1 hm
  obtain ⟨u, key, _, hk2, rfl⟩ := signed_get hj
  have := hk key (List.mem_of_getElem? hk2)
  show key.length ≤ 5000
  omega
end Lk
end Go.Proofs.YtagjolbpmhbifaaGreatDoor
