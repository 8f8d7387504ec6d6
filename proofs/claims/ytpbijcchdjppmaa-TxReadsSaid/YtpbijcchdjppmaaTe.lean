/- What a call may change: a set of blocks; appends that tell where the new slice lies. Nothing of the program. -/
import Derived.Test.YtpbijcchdjppmaaBb
import Derived.Maps.AppendAt
import Derived.Lib.AppendStr
namespace Go.Proofs.Ytpbijcchdjppmaa
open Go Go.RowKit
/-- the world but for the blocks of F, and new ones -/
structure Moved (F : Nat → Prop) (w w' : World) : Prop where
  os : w'.os = w.os
  tape : w'.tape = w.tape
  output : w'.output = w.output
  size : w.heap.size ≤ w'.heap.size
  block : ∀ k, k < w.heap.size → ¬ F k → w'.heap[k]? = w.heap[k]?
section
variable {F G : Nat → Prop} {a w w' w2 : World} {g B : Nat}
theorem Moved.refl (F : Nat → Prop) (w : World) : Moved F w w := ⟨rfl, rfl, rfl, Nat.le_refl _, fun _ _ _ => rfl⟩
theorem Moved.of_below (h : Below w.heap.size w w') : Moved F w w' := ⟨h.os, h.tape, h.output, h.size, fun k hk _ => h.block k hk⟩
theorem Moved.of_grown {row : Option Nat} (h : w.grownBy w' row) (hr : ∀ k, row = some k → F k) : Moved F w w' := ⟨h.os, h.tape, h.output, h.size, fun k hk hf => h.block k hk (fun e => hf (hr k e.symm))⟩
theorem Moved.below (h : Moved F w w') (hF : ∀ k, F k → B ≤ k) (hB : B ≤ w.heap.size) : Below B w w' := ⟨h.os, h.tape, h.output, h.size, fun k hk => h.block k (by omega) (fun hf => by have := hF k hf; omega)⟩
theorem Moved.trans (h : Moved F a w) (k : Moved G w w') (hG : ∀ k, G k → F k ∨ a.heap.size ≤ k) : Moved F a w' :=
  ⟨k.os.trans h.os, k.tape.trans h.tape, k.output.trans h.output, Nat.le_trans h.size k.size, fun j hj hf => (k.block j (Nat.lt_of_lt_of_le hj h.size) (fun hg => (hG j hg).elim hf (fun e => by omega))).trans (h.block j hj hf)⟩
theorem Moved.mono (h : Moved F w w') (hFG : ∀ k, F k → G k) : Moved G w w' := ⟨h.os, h.tape, h.output, h.size, fun k hk hg => h.block k hk (fun hf => hg (hFG k hf))⟩
theorem Moved.then (h : Moved F a w) (k : Below w.heap.size w w') : Moved F a w' := h.trans (G := fun _ => False) (Moved.of_below k) (fun _ e => e.elim)
theorem Moved.drew (h : Moved F a w) : Moved F a w.drew := ⟨h.os, h.tape, h.output, h.size, h.block⟩
theorem Moved.put (h : Moved F a w) (hg : F g ∨ a.heap.size ≤ g) (i : Nat) (u : Value) : Moved F a (w.setCell ⟨g, i, none⟩ u) :=
  h.trans (G := fun k => k = g) ⟨rfl, rfl, rfl, by simp, fun k hk hf => Below.heap_setCell w _ u k hf⟩ (fun k e => by subst e; exact hg)
theorem Moved.putAll (hg : F g ∨ a.heap.size ≤ g) : ∀ (vs : List Value) {w : World} (o : Nat), Moved F a w → Moved F a (w.setCells g o vs)
  | [], _, _, h => h
  | v :: r, _, o, h => Moved.putAll hg r (o + 1) (h.put hg o v)
theorem Has.moved {t : TypeId} {cs : Array Value} (h : Has w g t cs) (hm : Moved F w w') (hg : ¬ F g) : Has w' g t cs := (hm.block g h.lt hg).trans h
theorem OwnB.moved {T : TypeId} {v : Value} {l : List (BitVec 8)} (h : OwnB T B w v l) (hm : Moved F w w') (hv : ∀ k, v.ownBlock = some k → ¬ F k) : OwnB T B w' v l := by
  refine ⟨h.1, ?_⟩
  rcases h.2 with hn | ⟨k, cap, cur, rfl, h1, h2, rest⟩
  · exact .inl hn
  · exact .inr ⟨k, cap, cur, rfl, h1, (hm.block k (Array.getElem?_eq_some_iff.1 h2).1 (hv k rfl)).trans h2, rest⟩
theorem block_add (x : Addr) (i : Nat) : (x.add i).block = x.block := by unfold Addr.add; split <;> rfl
theorem Bytes8.moved {x : Option Addr} {n : Nat} {l : List (BitVec 8)} (h : Bytes8 w x n l) (hm : Moved F w w') (hv : 0 < n → ∀ y, x = some y → ¬ F y.block) : Bytes8 w' x n l := by
  refine ⟨h.1, h.2.1, fun i hi => ?_⟩
  obtain ⟨y, rfl, hy⟩ := h.2.2 i hi
  refine ⟨y, rfl, (World.cell?_of_block (hm.block _ (isSome_lt (by rw [hy]; rfl)) ?_)).trans hy⟩
  rw [block_add]
  exact hv (by omega) y rfl
theorem OwnB.lt_size {T : TypeId} {v : Value} {l : List (BitVec 8)} (h : OwnB T B w v l) : ∀ k, v.ownBlock = some k → B ≤ k ∧ k < w.heap.size := World.ownsRow.lt h
/-- a block of another type is another block -/
theorem OwnB.apart {T t : TypeId} {v : Value} {l : List (BitVec 8)} {cs : Array Value} (h : OwnB T B w v l) (hh : Has w g t cs) (ht : (T == t) = false) : ∀ k, v.ownBlock = some k → k ≠ g := by
  rintro k hk rfl
  rcases h.2 with ⟨rfl, _⟩ | ⟨j, cap, cur, rfl, _, h2, _⟩
  · cases hk
  · have e : j = k := by simpa [Value.ownBlock] using hk
    subst e
    unfold Has at hh
    rw [hh] at h2
    injection h2 with h2
    injection h2 with _ e
    rw [e] at ht
    simp at ht
end
/-- where the new slice lies -/
def Lies (w : World) (v v' : Value) : Prop := ∀ k, v'.ownBlock = some k → v.ownBlock = some k ∨ w.heap.size ≤ k
theorem Lies.refl (w : World) (v : Value) : Lies w v v := fun _ h => .inl h
theorem Lies.of {w : World} {v v' : Value} (h : v'.ownBlock = v.ownBlock ∨ v'.ownBlock = some w.heap.size) : Lies w v v' := fun k hk => by
  rcases h with h | h
  · exact .inl (h ▸ hk)
  · right
    rw [h] at hk
    injection hk with hk
    omega
theorem Lies.trans {w w2 : World} {v v' v2 : Value} (h : Lies w v v') (k : Lies w2 v' v2) (hs : w.heap.size ≤ w2.heap.size) : Lies w v v2 := fun j hj => (k j hj).elim (h j) (fun e => .inr (by omega))
theorem Lies.up {w w2 : World} {v v' : Value} (k : Lies w2 v v') (hs : w.heap.size ≤ w2.heap.size) : Lies w v v' := fun j hj => (k j hj).elim .inl (fun e => .inr (by omega))
section
variable {P : Program}
/-- append(own, a...), a whatever: where the new slice lies -/
theorem wp_append_bytes_at {w : World} {o : Oper} {a : Act} {K : Act → World → Prop} {Q : Exit → Act → World → Prop} (s x : Operand) (t : TypeId)
    (ho : o.op = .call { callee := .builtin .append, args := #[s, x], argTypes := #[t, t] })
    (T : TypeId) (ht : P.underlying t = some (.slice T)) (hinfo : (P.info? T).map (fun i => (i.zero, i.size, i.bytes)) = some (some (.int .u8 0), 1, 1))
    (B : Nat) (v : Value) (l : List (BitVec 8)) (hs : a.eval s = v) (hown : OwnB T B w v l) (ad : Option Addr) (m c : Nat) (l2 : List (BitVec 8)) (hx : a.eval x = .slice ad m c) (hw : Bytes8 w ad m l2) (hc : ad = none → c = 0)
    (h63 : l.length + m ≤ 1099511627776) (hbase : B ≤ w.heap.size)
    (h : ∀ v' w', OwnB T B w' v' (l ++ l2) → w.grownBy w' v.ownBlock → Lies w v v' → K (a.put o.dst v') w') : o.wp P a w K Q := by
  obtain ⟨i0, hi, hz0, hz1, hz2⟩ := info_parts hinfo
  obtain ⟨hl2, hm, hcell⟩ := hw
  rcases ad with _ | ad
  · have h0 : m = 0 := by
      rcases Nat.eq_zero_or_pos m with h0 | h0
      · exact h0
      · obtain ⟨_, e, _⟩ := hcell 0 h0
        cases e
    subst h0
    obtain rfl := List.length_eq_zero_iff.1 hl2
    obtain rfl := hc rfl
    have hrun := run_append_owned_none (P := P) (w := w) B t o.type T i0 1 ht hi v _ _ hown
    unfold Oper.wp
    simp [execOp, ho, resolve, invoke, builtin, hs, hx, hrun, Result.andThen]
    exact h v w (by simpa using hown) (World.grownBy.refl w _) (Lies.refl w v)
  · obtain ⟨v', w', hr, h2, h3, _, h5⟩ := run_append_own_at (P := P) w B t o.type T i0 (.int .u8 0) 1 1 ht hi hz0 hz1 hz2 rfl (by decide) v _ _ hown ad m c (blist l2) (by rw [blist_length, hl2, Nat.mul_one]) (fun j u hj => by
      have hj2 : j < l2.length := by
        have := (List.getElem?_eq_some_iff.1 hj).1
        rwa [blist_length] at this
      obtain ⟨ad', e, hx2⟩ := hcell j (by omega)
      injection e with e
      subst e
      rw [hx2, ← hj, blist_at l2 j hj2]) (blist_one _) (by unfold maxLen; omega) (by omega) hbase
    unfold Oper.wp execOp
    simp only [ho, resolve, invoke, builtin, Sem.run_bind, Sem.run_pure, Result.andThen_ok, List.map_toArray, List.map_cons, List.map_nil, hs, hx, hr]
    exact h v' w' (OwnB.all hl2 h2) h3 (Lies.of h5)
theorem wpList_append_bytes_at {w : World} {ops : Array Oper} {rest : List Oper} {o : Oper} {a : Act} {Q : Exit → Act → World → Prop} (hgd : o.guard = none) (s x : Operand) (t : TypeId)
    (ho : o.op = .call { callee := .builtin .append, args := #[s, x], argTypes := #[t, t] })
    (T : TypeId) (ht : P.underlying t = some (.slice T)) (hinfo : (P.info? T).map (fun i => (i.zero, i.size, i.bytes)) = some (some (.int .u8 0), 1, 1))
    (B : Nat) (v : Value) (l : List (BitVec 8)) (hs : a.eval s = v) (hown : OwnB T B w v l) (ad : Option Addr) (m c : Nat) (l2 : List (BitVec 8)) (hx : a.eval x = .slice ad m c) (hw : Bytes8 w ad m l2) (hc : ad = none → c = 0)
    (h63 : l.length + m ≤ 1099511627776) (hbase : B ≤ w.heap.size)
    (h : ∀ v' w', OwnB T B w' v' (l ++ l2) → w.grownBy w' v.ownBlock → Lies w v v' → wpList P ops Q rest (a.put o.dst v') w') : wpList P ops Q (o :: rest) a w :=
  wpList_plain hgd fun _ hK => wp_append_bytes_at s x t ho T ht hinfo B v l hs hown ad m c l2 hx hw hc h63 hbase fun v' w' h1 h2 h3 => hK _ _ (h v' w' h1 h2 h3)
theorem step_append_bytes_at {w : World} {ops : Array Oper} {o : Oper} {a : Act} {K : Act → World → Prop} {Q : Exit → Act → World → Prop} {E : Prop} (hwt : Region.wanted o (yielded ops a.tmps) = true) (s x : Operand) (t : TypeId)
    (ho : o.op = .call { callee := .builtin .append, args := #[s, x], argTypes := #[t, t] })
    (T : TypeId) (ht : P.underlying t = some (.slice T)) (hinfo : (P.info? T).map (fun i => (i.zero, i.size, i.bytes)) = some (some (.int .u8 0), 1, 1))
    (B : Nat) (v : Value) (l : List (BitVec 8)) (hs : a.eval s = v) (hown : OwnB T B w v l) (ad : Option Addr) (m c : Nat) (l2 : List (BitVec 8)) (hx : a.eval x = .slice ad m c) (hw : Bytes8 w ad m l2) (hc : ad = none → c = 0)
    (h63 : l.length + m ≤ 1099511627776) (hbase : B ≤ w.heap.size)
    (h : ∀ v' w', OwnB T B w' v' (l ++ l2) → w.grownBy w' v.ownBlock → Lies w v v' → K (a.put o.dst v') w') : if Region.wanted o (yielded ops a.tmps) = true then Oper.wp P o a w K Q else E := by
  rw [if_pos hwt]
  exact wp_append_bytes_at s x t ho T ht hinfo B v l hs hown ad m c l2 hx hw hc h63 hbase h
/-- append(own, s...), s a string: where the new slice lies -/
theorem run_append_string_at (w : World) (base : Nat) (t u ty e : TypeId) (i : TypeInfo) (ht : P.underlying t = some (.slice e)) (hu : P.underlying u = some .string) (hi : P.info? e = some i) (hz : i.zero = some (.int .u8 0))
    (hsize : i.size = 1) (hby : i.bytes = 1) (v : Value) (n : Nat) (xs : List Value) (hown : w.ownsRow base e 1 v n xs) (s : ByteArray)
    (h63 : n + s.size ≤ 1099511627776) (hbase : base ≤ w.heap.size) :
    ∃ v' w', (Builtin.append_ #[t, u] ty #[v, .string s]).run P w = .ok v' w' ∧ w'.ownsRow base e 1 v' (n + s.size) (xs ++ Lib.strCells s) ∧ w.grownBy w' v.ownBlock ∧ Lies w v v' := by
  obtain ⟨v', w', hr, h2, h3, _⟩ := Lib.run_append_own_string (P := P) w base t u ty e i ht hu hi hz hsize hby v n xs hown s (by unfold maxLen; omega) (by omega) hbase
  refine ⟨v', w', hr, h2, h3, ?_⟩
  have hxl : xs.length = n := by simpa using hown.1
  rcases hown.2 with ⟨rfl, rfl⟩ | ⟨g, cap, cur, rfl, hbg, hg, hnc, hcm, hcs, htake⟩
  · by_cases hm : s.size = 0
    · rcases h2.2 with ⟨rfl, _⟩ | ⟨g, cap, cur, rfl, _, hg, _⟩
      · exact Lies.refl _ _
      · have hf := Lib.run_firstCells_string (P := P) w 1 s
        rw [hm] at hf
        simp [Builtin.append_, run_underlying ht, run_underlying hu, sizeOf, typeInfo, hi, hsize, Builtin.lenOf, hm, hf] at hr
    · have hq := run_append_nil_string (P := P) w t u ty e i (.int .u8 0) ht hu hi hz s (by omega) (by omega) (by rw [hby]; omega)
      rw [hr] at hq
      injection hq with hq _
      subst hq
      exact Lies.of (.inr rfl)
  · by_cases hroom : n + s.size ≤ cap
    · have hcs' : cur.size = cap := by simpa using hcs
      have hq := Lib.run_append_room_string (P := P) w t u ty e i ht hu hi hsize g n cap cur hg s hroom (by omega)
      rw [hr] at hq
      injection hq with hq _
      subst hq
      exact Lies.of (.inl rfl)
    · have hown' : w.ownsRow base e 1 (.slice (some ⟨g, 0, none⟩) n cap) n xs := ⟨by simpa using hxl, .inr ⟨g, cap, cur, rfl, hbg, hg, hnc, hcm, hcs, htake⟩⟩
      have holds : ∀ j u, xs[j]? = some u → w.cell? ((⟨g, 0, none⟩ : Addr).add j) = some u := hown'.cells (g := g) rfl
      have hq := Lib.run_append_grow_string (P := P) w t u ty e i (.int .u8 0) ht hu hi hz ⟨g, 0, none⟩ n cap xs (by rw [hsize]; simpa using hxl) holds s (by omega) (by omega) (by rw [hby]; exact growslice_fits (by omega) (by omega))
      rw [hr] at hq
      injection hq with hq _
      subst hq
      exact Lies.of (.inr rfl)
theorem strCells_strB' (l : List (BitVec 8)) : Lib.strCells (strB l) = blist l := by
  unfold Lib.strCells strB strOfNums blist
  apply List.ext_getElem?
  intro i
  simp only [List.map_map, List.getElem?_map]
  cases l[i]? with
  | none => rfl
  | some x =>
    have hx := x.isLt
    show some (Value.int .u8 ((UInt8.ofNat (nb8 x).toNat).toNat : Int)) = some (Value.int .u8 (nb8 x))
    rw [show (nb8 x).toNat = x.toNat from rfl, UInt8.toNat_ofNat_of_lt' hx]
    rfl
theorem wp_append_str_at {w : World} {o : Oper} {a : Act} {K : Act → World → Prop} {Q : Exit → Act → World → Prop} (s x : Operand) (t u : TypeId)
    (ho : o.op = .call { callee := .builtin .append, args := #[s, x], argTypes := #[t, u] })
    (T : TypeId) (ht : P.underlying t = some (.slice T)) (hu : P.underlying u = some .string) (hinfo : (P.info? T).map (fun i => (i.zero, i.size, i.bytes)) = some (some (.int .u8 0), 1, 1))
    (B : Nat) (v : Value) (l : List (BitVec 8)) (hs : a.eval s = v) (hown : OwnB T B w v l) (l2 : List (BitVec 8)) (hx : a.eval x = .string (strB l2))
    (h63 : l.length + l2.length ≤ 1099511627776) (hbase : B ≤ w.heap.size)
    (h : ∀ v' w', OwnB T B w' v' (l ++ l2) → w.grownBy w' v.ownBlock → Lies w v v' → K (a.put o.dst v') w') : o.wp P a w K Q := by
  obtain ⟨i0, hi, hz0, hz1, hz2⟩ := info_parts hinfo
  obtain ⟨v', w', hr, h2, h3, h4⟩ := run_append_string_at (P := P) w B t u o.type T i0 ht hu hi hz0 hz1 hz2 v _ _ hown (strB l2) (by rw [strB_size]; exact h63) hbase
  rw [strB_size, strCells_strB'] at h2
  unfold Oper.wp execOp
  simp only [ho, resolve, invoke, builtin, Sem.run_bind, Sem.run_pure, Result.andThen_ok, List.map_toArray, List.map_cons, List.map_nil, hs, hx, hr]
  exact h v' w' (OwnB.all rfl h2) h3 h4
theorem wpList_append_str_at {w : World} {ops : Array Oper} {rest : List Oper} {o : Oper} {a : Act} {Q : Exit → Act → World → Prop} (hgd : o.guard = none) (s x : Operand) (t u : TypeId)
    (ho : o.op = .call { callee := .builtin .append, args := #[s, x], argTypes := #[t, u] })
    (T : TypeId) (ht : P.underlying t = some (.slice T)) (hu : P.underlying u = some .string) (hinfo : (P.info? T).map (fun i => (i.zero, i.size, i.bytes)) = some (some (.int .u8 0), 1, 1))
    (B : Nat) (v : Value) (l : List (BitVec 8)) (hs : a.eval s = v) (hown : OwnB T B w v l) (l2 : List (BitVec 8)) (hx : a.eval x = .string (strB l2))
    (h63 : l.length + l2.length ≤ 1099511627776) (hbase : B ≤ w.heap.size)
    (h : ∀ v' w', OwnB T B w' v' (l ++ l2) → w.grownBy w' v.ownBlock → Lies w v v' → wpList P ops Q rest (a.put o.dst v') w') : wpList P ops Q (o :: rest) a w :=
  wpList_plain hgd fun _ hK => wp_append_str_at s x t u ho T ht hu hinfo B v l hs hown l2 hx h63 hbase fun v' w' h1 h2 h3 => hK _ _ (h v' w' h1 h2 h3)
end
end Go.Proofs.Ytpbijcchdjppmaa
