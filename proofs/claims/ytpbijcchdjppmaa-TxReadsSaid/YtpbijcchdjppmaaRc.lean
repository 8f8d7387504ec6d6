/- Records of several cells: slices of them, how they are read, appended to, written. Nothing of the program. -/
import Derived.Test.YtpbijcchdjppmaaTe
import Derived.Test.YtpbijcchdjppmaaB
import Derived.Test.YtpbijcchdjppmaaHa
import Derived.Deep.Slices
namespace Go.Proofs.Ytpbijcchdjppmaa
open Go Go.RowKit Go.ChangeShapes Go.WideShapes
/-- a kind of record: how many cells, which, what is within -/
structure Rec (α : Type) where
  k : Nat
  cells : α → List Value
  ok : α → Prop
  pos : 0 < k
  len : ∀ t, ok t → (cells t).length = k
  one : ∀ t v, v ∈ cells t → v.oneCell' = true
section
variable {α : Type} (R : Rec α)
def Rec.row (L : List α) : List Value := L.flatMap R.cells
theorem Rec.row_app (L M : List α) : R.row (L ++ M) = R.row L ++ R.row M := List.flatMap_append
theorem Rec.row_one (L : List α) : ∀ v ∈ R.row L, v.oneCell' = true := by
  intro v hv
  obtain ⟨t, _, ht⟩ := List.mem_flatMap.1 hv
  exact R.one t v ht
theorem Rec.row_len : ∀ {L : List α}, (∀ t, t ∈ L → R.ok t) → (R.row L).length = L.length * R.k
  | [], _ => by simp [Rec.row]
  | t :: L, h => by
    have ih := Rec.row_len (L := L) (fun u hu => h u (List.mem_cons_of_mem _ hu))
    have h1 := R.len t (h t List.mem_cons_self)
    show (R.cells t ++ R.row L).length = (L.length + 1) * R.k
    rw [List.length_append, h1, ih, Nat.add_mul, Nat.one_mul, Nat.add_comm]
theorem Rec.row_at : ∀ {L : List α} (_ : ∀ t, t ∈ L → R.ok t) (i j : Nat) (t : α), L[i]? = some t → j < R.k → (R.row L)[i * R.k + j]? = (R.cells t)[j]?
  | [], _, i, j, t, hi, _ => by simp at hi
  | u :: L, h, 0, j, t, hi, hj => by
    have h1 := R.len u (h u List.mem_cons_self)
    obtain rfl : u = t := by simpa using hi
    show (R.cells u ++ R.row L)[0 * R.k + j]? = _
    rw [Nat.zero_mul, Nat.zero_add, List.getElem?_append_left (by omega)]
  | u :: L, h, i + 1, j, t, hi, hj => by
    have h1 := R.len u (h u List.mem_cons_self)
    have ih := Rec.row_at (L := L) (fun u hu => h u (List.mem_cons_of_mem _ hu)) i j t (by simpa using hi) hj
    show (R.cells u ++ R.row L)[(i + 1) * R.k + j]? = _
    have e : (i + 1) * R.k + j = R.k + (i * R.k + j) := by rw [Nat.add_mul, Nat.one_mul]; omega
    rw [e, List.getElem?_append_right (by omega), h1, Nat.add_sub_cancel_left, ih]
/-- a slice of records: readable where there are any -/
def Recs (w : World) (a : Option Addr) (n : Nat) (L : List α) : Prop :=
  L.length = n ∧ n ≤ maxLen ∧ (∀ t, t ∈ L → R.ok t) ∧ ∀ (i : Nat) (t : α), L[i]? = some t → ∃ x, a = some x ∧ ∀ (j : Nat) (v : Value), (R.cells t)[j]? = some v → w.cell? (x.add (i * R.k + j)) = some v
/-- v is the call's own slice of records, made since block B; L: its elements -/
def OwnR (T : TypeId) (B : Nat) (w : World) (v : Value) (L : List α) : Prop := (∀ t, t ∈ L → R.ok t) ∧ w.ownsRow B T R.k v L.length (R.row L)
end
section
variable {α : Type} {R : Rec α} {w w' : World} {a : Option Addr} {n : Nat} {L : List α}
theorem Recs.keep (h : Recs R w a n L) (hk : ∀ p : Addr, (w.cell? p).isSome = true → w'.cell? p = w.cell? p) : Recs R w' a n L := by
  refine ⟨h.1, h.2.1, h.2.2.1, fun i t hi => ?_⟩
  obtain ⟨x, rfl, hx⟩ := h.2.2.2 i t hi
  exact ⟨x, rfl, fun j v hj => by rw [hk _ (by rw [hx j v hj]; rfl)]; exact hx j v hj⟩
theorem Recs.below (h : Recs R w a n L) (hb : Below w.heap.size w w') : Recs R w' a n L := h.keep fun _ hp => hb.cell (isSome_lt hp)
theorem Recs.past (h : Recs R w a n L) (o : Obj) : Recs R (w.alloc o) a n L := h.keep fun p hp => World.cell?_alloc_lt w o p (isSome_lt hp)
theorem Recs.draw (h : Recs R w a n L) : Recs R w.drew a n L := h
theorem Recs.draws (h : Recs R w a n L) (m : Nat) : Recs R (w.drewN m) a n L := h
theorem recs_none (R : Rec α) (w : World) : Recs R w none 0 [] := ⟨rfl, by unfold maxLen; omega, (fun _ h => by cases h), fun i t hi => by simp at hi⟩
theorem Recs.moved {F : Nat → Prop} (h : Recs R w a n L) (hm : Moved F w w') (hv : 0 < n → ∀ y, a = some y → ¬ F y.block) : Recs R w' a n L := by
  refine ⟨h.1, h.2.1, h.2.2.1, fun i t hi => ?_⟩
  obtain ⟨x, rfl, hx⟩ := h.2.2.2 i t hi
  refine ⟨x, rfl, fun j v hj => ?_⟩
  have hi' : i < L.length := (List.getElem?_eq_some_iff.1 hi).1
  refine (World.cell?_of_block (hm.block _ (isSome_lt (by rw [hx j v hj]; rfl)) ?_)).trans (hx j v hj)
  rw [block_add]
  exact hv (by have := h.1; omega) x rfl
theorem Recs.okay (h : Recs R w a n L) {i : Nat} {t : α} (hi : L[i]? = some t) : R.ok t := h.2.2.1 t (List.mem_of_getElem? hi)
theorem Recs.get (h : Recs R w a n L) {i : Nat} (hi : i < n) : ∃ t, L[i]? = some t := ⟨L[i]'(by rw [h.1]; exact hi), List.getElem?_eq_getElem _⟩
theorem Recs.field {x : Addr} (h : Recs R w (some x) n L) {i j : Nat} {t : α} {v : Value} (hi : L[i]? = some t) (hj : (R.cells t)[j]? = some v) : w.cell? (x.add (i * R.k + j)) = some v := by
  obtain ⟨y, e, hx⟩ := h.2.2.2 i t hi
  injection e with e
  subst e
  exact hx j v hj
/-- the same as a field's address has it -/
theorem Recs.fieldS {x : Addr} (h : Recs R w (some x) n L) {i j : Nat} {t : α} {v : Value} (hi : L[i]? = some t) (hj : (R.cells t)[j + 1]? = some v) : w.cell? ⟨(x.add (i * R.k)).block, (x.add (i * R.k)).off + (j + 1), none⟩ = some v := by
  have := h.field hi hj
  rwa [← Addr.add_add, Addr.add_succ'] at this
/-- the first m of them -/
theorem Recs.take (h : Recs R w a n L) {m : Nat} (hm : m ≤ n) : Recs R w a m (L.take m) := by
  refine ⟨by rw [List.length_take, h.1]; omega, by have := h.2.1; omega, fun t ht => h.2.2.1 t (List.mem_of_mem_take ht), fun i t hi => ?_⟩
  rw [List.getElem?_take] at hi
  split at hi
  · exact h.2.2.2 i t hi
  · cases hi
variable {T : TypeId} {B : Nat} {v : Value}
theorem OwnR.nil (R : Rec α) (T : TypeId) (B : Nat) (w : World) : OwnR R T B w (.slice none 0 0) [] := ⟨(fun _ h => by cases h), World.ownsRow_nil _ _ _ _⟩
theorem OwnR.empty {w1 : World} {g : Nat} (hB : B ≤ g) (hh : Has w1 g T #[]) : OwnR R T B w1 (.slice (some ⟨g, 0, none⟩) 0 0) [] :=
  ⟨(fun _ h => by cases h), by simp [Rec.row], .inr ⟨g, 0, #[], rfl, hB, hh, Nat.le_refl _, by unfold maxLen; omega, by simp, by simp [Rec.row]⟩⟩
theorem OwnR.all {M : List α} {k : Nat} (hL : ∀ t, t ∈ L → R.ok t) (hM : ∀ t, t ∈ M → R.ok t) (hk : M.length = k) (h : w'.ownsRow B T R.k v (L.length + k) (R.row L ++ R.row M)) : OwnR R T B w' v (L ++ M) := by
  subst hk
  refine ⟨fun l hl => (List.mem_append.1 hl).elim (hL l) (hM l), ?_⟩
  rw [Rec.row_app]
  simpa using h
theorem OwnR.lt (h : OwnR R T B w v L) : ∀ k, v.ownBlock = some k → B ≤ k := fun k hk => (World.ownsRow.lt h.2 k hk).1
theorem OwnR.lt_size (h : OwnR R T B w v L) : ∀ k, v.ownBlock = some k → B ≤ k ∧ k < w.heap.size := World.ownsRow.lt h.2
theorem OwnR.moved {F : Nat → Prop} (h : OwnR R T B w v L) (hm : Moved F w w') (hv : ∀ k, v.ownBlock = some k → ¬ F k) : OwnR R T B w' v L := by
  refine ⟨h.1, h.2.1, ?_⟩
  rcases h.2.2 with hn | ⟨G, cap, cur, rfl, h1, h2, rest⟩
  · exact .inl hn
  · exact .inr ⟨G, cap, cur, rfl, h1, (hm.block G (Array.getElem?_eq_some_iff.1 h2).1 (hv G rfl)).trans h2, rest⟩
theorem OwnR.below (h : OwnR R T B w v L) (hb : Below w.heap.size w w') : OwnR R T B w' v L := by
  refine ⟨h.1, h.2.1, ?_⟩
  rcases h.2.2 with hn | ⟨G, cap, cur, rfl, h1, h2, rest⟩
  · exact .inl hn
  · exact .inr ⟨G, cap, cur, rfl, h1, (hb.block _ (Array.getElem?_eq_some_iff.1 h2).1).trans h2, rest⟩
theorem OwnR.low {B' : Nat} (h : OwnR R T B w v L) (hB : B' ≤ B) : OwnR R T B' w v L := by
  refine ⟨h.1, h.2.1, ?_⟩
  rcases h.2.2 with hn | ⟨G, cap, cur, rfl, h1, h2⟩
  · exact .inl hn
  · exact .inr ⟨G, cap, cur, rfl, by omega, h2⟩
theorem OwnR.draw (h : OwnR R T B w v L) : OwnR R T B w.drew v L := h
theorem OwnR.draws (h : OwnR R T B w v L) (n : Nat) : OwnR R T B (w.drewN n) v L := h
/-- to read it -/
theorem OwnR.shape {K : Nat} (h : OwnR R T B w v L) (hK : L.length = K) : ∃ a c, v = .slice a K c ∧ K ≤ c ∧ (a = none → c = 0) ∧ (∀ x, a = some x → B ≤ x.block ∧ x.block < w.heap.size) ∧ Recs R w a K L := by
  subst hK
  have hlt := h.lt_size
  obtain ⟨hall, hl, ⟨rfl, h0⟩ | ⟨g, cap, cur, rfl, hg, hh, hn, hm, hc, ht⟩⟩ := h
  · obtain rfl := List.length_eq_zero_iff.1 h0
    exact ⟨none, 0, rfl, Nat.le_refl _, fun _ => rfl, (fun x e => by cases e), recs_none R w⟩
  · refine ⟨_, cap, rfl, hn, (fun e => by cases e), (fun x e => by injection e with e; subst e; exact hlt g rfl), rfl, by omega, hall, fun i t hi => ⟨_, rfl, fun j u hj => ?_⟩⟩
    have hi' : i < L.length := (List.getElem?_eq_some_iff.1 hi).1
    have hj' : j < R.k := by
      have := (List.getElem?_eq_some_iff.1 hj).1
      rwa [R.len t (hall t (List.mem_of_getElem? hi))] at this
    have hb : i * R.k + j < L.length * R.k := by
      have := Nat.mul_le_mul_right R.k (show i + 1 ≤ L.length from hi')
      rw [Nat.add_mul, Nat.one_mul] at this
      omega
    rw [Addr.add_mid, Nat.zero_add, (show Has w g T cur from hh).cell, ← hj, ← R.row_at hall i j t hi hj', ← ht, List.getElem?_take, if_pos hb, Array.getElem?_toList]
end
theorem below_own_recs {w0 w w' : World} {row : Option Nat} (hb : Below w0.heap.size w0 w) (hg : w.grownBy w' row) (hr : ∀ k, row = some k → w0.heap.size ≤ k) : Below w0.heap.size w0 w' := hb.grown hg hb.size hr
section
variable {α : Type} {R : Rec α} {P : Program}
theorem Recs.flat {w : World} {x : Addr} {n : Nat} {L : List α} (h : Recs R w (some x) n L) : ∀ j u, (R.row L)[j]? = some u → w.cell? (x.add j) = some u := fun j u hj => by
  obtain ⟨hM, hm, hall, hcell⟩ := h
  have hj2 : j < L.length * R.k := by
    have := (List.getElem?_eq_some_iff.1 hj).1
    rwa [R.row_len hall] at this
  have hk := R.pos
  have hd : j / R.k < L.length := Nat.div_lt_of_lt_mul (by rwa [Nat.mul_comm] at hj2)
  have hmod : j % R.k < R.k := Nat.mod_lt _ hk
  have e2 : j / R.k * R.k + j % R.k = j := by rw [Nat.mul_comm]; exact Nat.div_add_mod j R.k
  have ht : L[j / R.k]? = some L[j / R.k] := List.getElem?_eq_getElem hd
  obtain ⟨y, e, hx2⟩ := hcell (j / R.k) _ ht
  injection e with e
  subst e
  have h4 := R.row_at hall (j / R.k) (j % R.k) _ ht hmod
  rw [e2, hj] at h4
  have h3 := hx2 (j % R.k) u h4.symm
  rwa [e2] at h3
/-- append(own, records...): where the new slice lies -/
theorem wp_append_recs {w : World} {o : Oper} {a : Act} {K : Act → World → Prop} {Q : Exit → Act → World → Prop} (s x : Operand) (t : TypeId)
    (ho : o.op = .call { callee := .builtin .append, args := #[s, x], argTypes := #[t, t] })
    (T : TypeId) (ht : P.underlying t = some (.slice T)) {z : Value} {by_ : Nat} (hinfo : (P.info? T).map (fun i => (i.zero, i.size, i.bytes)) = some (some z, R.k, by_)) (hzk : z.cells.size = R.k) (hby : by_ ≤ 128)
    (B : Nat) (v : Value) (L : List α) (hs : a.eval s = v) (hown : OwnR R T B w v L) (ad : Option Addr) (m c : Nat) (M : List α) (hx : a.eval x = .slice ad m c) (hw : Recs R w ad m M) (hc : ad = none → c = 0)
    (h63 : L.length + m ≤ 1099511627776) (hbase : B ≤ w.heap.size)
    (h : ∀ v' w', OwnR R T B w' v' (L ++ M) → w.grownBy w' v.ownBlock → Lies w v v' → K (a.put o.dst v') w') : o.wp P a w K Q := by
  obtain ⟨i0, hi, hz0, hz1, hz2⟩ := info_parts hinfo
  rcases ad with _ | ad
  · obtain ⟨hM, hm, hall, hcell⟩ := hw
    have h0 : m = 0 := by
      rcases Nat.eq_zero_or_pos m with h0 | h0
      · exact h0
      · obtain ⟨_, e, _⟩ := hcell 0 _ (List.getElem?_eq_getElem (by omega))
        cases e
    subst h0
    obtain rfl := List.length_eq_zero_iff.1 hM
    obtain rfl := hc rfl
    have hrun := run_append_owned_none (P := P) (w := w) B t o.type T i0 R.k ht hi v _ _ hown.2
    unfold Oper.wp
    simp [execOp, ho, resolve, invoke, builtin, hs, hx, hrun, Result.andThen]
    exact h v w (by simpa using hown) (World.grownBy.refl w _) (Lies.refl w v)
  · have hf := hw.flat
    obtain ⟨hM, hm, hall, hcell⟩ := hw
    have hbb : (L.length + m) * by_ ≤ 140737488355328 := Nat.le_trans (Nat.mul_le_mul h63 hby) (by omega)
    obtain ⟨v', w', hr, h2, h3, _, h5⟩ := run_append_own_at (P := P) w B t o.type T i0 z R.k by_ ht hi hz0 hz1 hz2 hzk R.pos v _ _ hown.2 ad m c (R.row M) (by rw [R.row_len hall, hM]) hf (R.row_one _) (by unfold maxLen; omega) hbb hbase
    unfold Oper.wp execOp
    simp only [ho, resolve, invoke, builtin, Sem.run_bind, Sem.run_pure, Result.andThen_ok, List.map_toArray, List.map_cons, List.map_nil, hs, hx, hr]
    exact h v' w' (OwnR.all hown.1 hall hM h2) h3 (Lies.of h5)
theorem wpList_append_recs {w : World} {ops : Array Oper} {rest : List Oper} {o : Oper} {a : Act} {Q : Exit → Act → World → Prop} (hgd : o.guard = none) (s x : Operand) (t : TypeId)
    (ho : o.op = .call { callee := .builtin .append, args := #[s, x], argTypes := #[t, t] })
    (T : TypeId) (ht : P.underlying t = some (.slice T)) {z : Value} {by_ : Nat} (hinfo : (P.info? T).map (fun i => (i.zero, i.size, i.bytes)) = some (some z, R.k, by_)) (hzk : z.cells.size = R.k) (hby : by_ ≤ 128)
    (B : Nat) (v : Value) (L : List α) (hs : a.eval s = v) (hown : OwnR R T B w v L) (ad : Option Addr) (m c : Nat) (M : List α) (hx : a.eval x = .slice ad m c) (hw : Recs R w ad m M) (hc : ad = none → c = 0)
    (h63 : L.length + m ≤ 1099511627776) (hbase : B ≤ w.heap.size)
    (h : ∀ v' w', OwnR R T B w' v' (L ++ M) → w.grownBy w' v.ownBlock → Lies w v v' → wpList P ops Q rest (a.put o.dst v') w') : wpList P ops Q (o :: rest) a w :=
  wpList_plain hgd fun _ hK => wp_append_recs s x t ho T ht hinfo hzk hby B v L hs hown ad m c M hx hw hc h63 hbase fun v' w' h1 h2 h3 => hK _ _ (h v' w' h1 h2 h3)
theorem step_append_recs {w : World} {ops : Array Oper} {o : Oper} {a : Act} {K : Act → World → Prop} {Q : Exit → Act → World → Prop} {E : Prop} (hwt : Region.wanted o (yielded ops a.tmps) = true) (s x : Operand) (t : TypeId)
    (ho : o.op = .call { callee := .builtin .append, args := #[s, x], argTypes := #[t, t] })
    (T : TypeId) (ht : P.underlying t = some (.slice T)) {z : Value} {by_ : Nat} (hinfo : (P.info? T).map (fun i => (i.zero, i.size, i.bytes)) = some (some z, R.k, by_)) (hzk : z.cells.size = R.k) (hby : by_ ≤ 128)
    (B : Nat) (v : Value) (L : List α) (hs : a.eval s = v) (hown : OwnR R T B w v L) (ad : Option Addr) (m c : Nat) (M : List α) (hx : a.eval x = .slice ad m c) (hw : Recs R w ad m M) (hc : ad = none → c = 0)
    (h63 : L.length + m ≤ 1099511627776) (hbase : B ≤ w.heap.size)
    (h : ∀ v' w', OwnR R T B w' v' (L ++ M) → w.grownBy w' v.ownBlock → Lies w v v' → K (a.put o.dst v') w') : if Region.wanted o (yielded ops a.tmps) = true then Oper.wp P o a w K Q else E := by
  rw [if_pos hwt]
  exact wp_append_recs s x t ho T ht hinfo hzk hby B v L hs hown ad m c M hx hw hc h63 hbase h
/-- the records of a block of their own -/
theorem recs_fresh {w : World} {g : Nat} {T : TypeId} {cs : Array Value} {L : List α} (hall : ∀ t, t ∈ L → R.ok t) (hh : Has w g T cs) (hn : L.length ≤ maxLen) (hc : ∀ (j : Nat) (u : Value), (R.row L)[j]? = some u → cs[j]? = some u) : Recs R w (some ⟨g, 0, none⟩) L.length L := by
  refine ⟨rfl, hn, hall, fun i t hi => ⟨_, rfl, fun j u hj => ?_⟩⟩
  have hj' : j < R.k := by
    have := (List.getElem?_eq_some_iff.1 hj).1
    rwa [R.len t (hall t (List.mem_of_getElem? hi))] at this
  rw [Addr.add_mid, Nat.zero_add, hh.cell]
  exact hc _ _ (by rw [R.row_at hall i j t hi hj']; exact hj)
/-- a record is read whole -/
theorem Recs.load {T : TypeId} {d : TypeDesc} (hT : P.underlying T = some d) (hd : d.isRow = true) (hsz : (P.info? T).map (·.size) = some R.k) {w : World} {a : Option Addr} {n i : Nat} {L : List α} {t : α} (h : Recs R w a n L) (hi : L[i]? = some t) :
    ∃ x, a = some x ∧ (Instr.loadAt T (.pointer (some (x.add (i * R.k))))).run P w = .ok (.agg (R.cells t).toArray) w := by
  obtain ⟨x, rfl, hx⟩ := h.2.2.2 i t hi
  refine ⟨x, rfl, ?_⟩
  have hok := h.okay hi
  have h1 := run_loadCells_list (P := P) w (x.add (i * R.k)) (R.cells t) (fun j v hj => by rw [Addr.add_add]; exact hx j v hj)
  rw [R.len t hok] at h1
  cases hq : P.info? T with
  | none => simp [hq] at hsz
  | some inf =>
    have hz : inf.size = R.k := by simpa [hq] using hsz
    have hagg : (isAgg T).run P w = .ok true w := by
      unfold isAgg
      rw [Sem.run_bind, run_underlying hT w]
      cases d <;> first | rfl | (exact absurd hd (by simp [TypeDesc.isRow]))
    simp [Instr.loadAt, Instr.sureAddr, loadVar, Sem.run_bind, hagg, sizeOf, typeInfo, hq, hz, h1]
end
theorem Recs.load_at {α : Type} {R : Rec α} {P : Program} {T : TypeId} {d : TypeDesc} (hT : P.underlying T = some d) (hd : d.isRow = true) (hsz : (P.info? T).map (·.size) = some R.k) {w : World} {x : Addr} {n i : Nat} {L : List α} {t : α} (h : Recs R w (some x) n L) (hi : L[i]? = some t) :
    (Instr.loadAt T (.pointer (some (x.add (i * R.k))))).run P w = .ok (.agg (R.cells t).toArray) w := by
  obtain ⟨y, e, hy⟩ := h.load hT hd hsz hi
  injection e with e
  subst e
  exact hy
section
variable {α : Type} {R : Rec α} {P : Program} {t : α} {z : Array Value}
theorem Rec.there (w : World) (T : TypeId) (hz : z.size = R.k) (h : R.ok t) : (w.alloc (.cells z T)).there w.heap.size 0 (R.cells t).toArray.size :=
  (Has.fresh w T z).there 0 _ (by rw [List.size_toArray, R.len t h, hz]; omega)
theorem Rec.all_one (R : Rec α) (t : α) : (R.cells t).toArray.all (·.oneCell') = true :=
  Array.all_eq_true_iff_forall_mem.2 fun v hv => R.one t v (by simpa using hv)
theorem Rec.size_eq {T : TypeId} (hs : (P.info? T).map (·.size) = some R.k) (h : R.ok t) : (P.info? T).map (·.size) = some (R.cells t).toArray.size := by
  rw [hs, List.size_toArray, R.len t h]
/-- a record that is stored in new memory -/
theorem Rec.new {w w' : World} {T : TypeId} (hz : z.size = R.k) (h : R.ok t) (e : w' = (w.alloc (.cells z T)).setCells w.heap.size 0 (R.cells t)) : Has w' w.heap.size T (R.cells t).toArray ∧ Below w.heap.size w w' := by
  subst e
  refine ⟨?_, below_setAll (Nat.le_refl _) _ 0 ((Below.refl _ _).alloc (Nat.le_refl _) _)⟩
  have := (Has.fresh w T z).putAll (R.cells t) 0
  rwa [putAll_to _ _ 0 (by rw [R.len t h, hz]; omega), List.take_zero, List.nil_append] at this
end
section
variable {α : Type} {R : Rec α} {H : Type} {enc : TypeId × Value → H} {P : Program} {W : World} {base : Nat} {spare : Nat → Bool} {held : Bool}
theorem exists_recs (R : Rec α) (W : World) (x : Addr) : ∀ (n : Nat) (_ : ∀ i, i < n → ∃ t : α, R.ok t ∧ ∀ (j : Nat) (v : Value), (R.cells t)[j]? = some v → W.cell? (x.add (i * R.k + j)) = some v),
    ∃ L : List α, L.length = n ∧ (∀ t, t ∈ L → R.ok t) ∧ ∀ (i : Nat) (t : α), L[i]? = some t → ∀ (j : Nat) (v : Value), (R.cells t)[j]? = some v → W.cell? (x.add (i * R.k + j)) = some v
  | 0, _ => ⟨[], rfl, (fun _ hl => by cases hl), fun i t hi => by simp at hi⟩
  | n + 1, h => by
    obtain ⟨L, h1, h2, h3⟩ := exists_recs R W x n (fun i hi => h i (by omega))
    obtain ⟨t, h4, h5⟩ := h n (by omega)
    refine ⟨L ++ [t], by simp [h1], fun u hu => ?_, fun i u hi => ?_⟩
    · rcases List.mem_append.1 hu with h | h
      · exact h2 u h
      · rw [List.mem_singleton.1 h]; exact h4
    · rcases Nat.lt_or_ge i n with hlt | hge
      · rw [List.getElem?_append_left (by omega)] at hi
        exact h3 i u hi
      · rw [List.getElem?_append_right (by omega), h1] at hi
        have e : i = n := by
          rcases Nat.eq_or_lt_of_le hge with e | e
          · exact e.symm
          · rw [List.getElem?_eq_none (by simp; omega)] at hi; cases hi
        subst e
        rw [Nat.sub_self] at hi
        injection hi with hi
        subst hi
        exact h5
/-- a slice of records as a cell that was read -/
theorem open_recs {t T : TypeId} (ht : P.underlying t = some (.slice T)) (hC : P.cellsOf T = R.k)
    (hone : ∀ {fuel : Nat} {cs : List Value} {x : DataW H × List MemPlace}, DataW.trod enc P W base spare held fuel T cs = some x → ∃ t : α, cs = R.cells t ∧ R.ok t)
    {fuel : Nat} {c : Value} {y : DataW H × List MemPlace} (hf : DataW.trod enc P W base spare held fuel t [c] = some y) :
    ∃ (a : Option Addr) (n q : Nat) (L : List α), c = .slice a n q ∧ Recs R W a n L ∧ n ≤ q ∧ (a = none → q = 0) := by
  rcases Go.Deep.open_slice ht hf with ⟨hcs, _⟩ | ⟨x, len, cap, m, q, D, Pl, hcs, _, hl, hm, hmm, _, hcell⟩
  · obtain ⟨rfl, _⟩ := List.cons.inj hcs
    exact ⟨none, 0, 0, [], rfl, recs_none R W, Nat.le_refl _, fun _ => rfl⟩
  · obtain ⟨rfl, _⟩ := List.cons.inj hcs
    obtain ⟨L, h1, h2, h3⟩ := exists_recs R W x len (fun i hi => by
      obtain ⟨cs, hcs, htr⟩ := hcell i (by split at hmm <;> omega)
      obtain ⟨t, rfl, hok⟩ := hone htr
      rw [hC] at hcs
      obtain ⟨_, hlen, hat⟩ := World.cells?_some hcs
      refine ⟨t, hok, fun j u hj => ?_⟩
      have hjk : j < R.k := by
        have := (List.getElem?_eq_some_iff.1 hj).1
        rwa [R.len t hok] at this
      rw [← Addr.add_add, hat j hjk, hj])
    exact ⟨some x, len, cap, L, rfl, ⟨h1, by omega, h2, fun i t hi => ⟨x, rfl, h3 i t hi⟩⟩, hl, fun e => by cases e⟩
end
theorem putAll_size : ∀ (vs : List Value) (cs : Array Value) (o : Nat), (putAll cs o vs).size = cs.size
  | [], _, _ => rfl
  | v :: vs, cs, o => by
    show (putAll (cs.setIfInBounds o v) (o + 1) vs).size = cs.size
    rw [putAll_size vs, Array.size_setIfInBounds]
/-- a slice whose elements may be written: in a block of its own, made since block B -/
def Rowed (T : TypeId) (k B : Nat) (w : World) (a : Option Addr) (n : Nat) : Prop := n = 0 ∨ ∃ g cur, a = some ⟨g, 0, none⟩ ∧ B ≤ g ∧ Has w g T cur ∧ n * k ≤ cur.size
section
variable {T : TypeId} {k B n q : Nat} {w w' : World} {a : Option Addr}
theorem OwnR.rowed {α : Type} {R : Rec α} {L : List α} (h : OwnR R T B w (.slice a n q) L) : Rowed T R.k B w a n := by
  obtain ⟨_, hl, ⟨e, h0⟩ | ⟨g, cap, cur, e, hg, hh, hn, hm, hc, ht⟩⟩ := h
  · injection e with e1 e2 e3
    exact .inl e2
  · injection e with e1 e2 e3
    subst e1
    refine .inr ⟨g, cur, rfl, hg, hh, ?_⟩
    rw [hc, e2]
    exact Nat.mul_le_mul_right _ hn
theorem Rowed.below (h : Rowed T k B w a n) (hb : Below w.heap.size w w') : Rowed T k B w' a n := by
  rcases h with h | ⟨g, cur, e, hB, hh, hs⟩
  · exact .inl h
  · exact .inr ⟨g, cur, e, hB, hh.under hb hh.lt, hs⟩
theorem Rowed.moved {F : Nat → Prop} (h : Rowed T k B w a n) (hm : Moved F w w') (hF : ∀ g, B ≤ g → g < w.heap.size → ¬ F g) : Rowed T k B w' a n := by
  rcases h with h | ⟨g, cur, e, hB, hh, hs⟩
  · exact .inl h
  · exact .inr ⟨g, cur, e, hB, hh.moved hm (hF g hB hh.lt), hs⟩
theorem Rowed.open (h : Rowed T k B w a n) {i : Nat} (hi : i < n) : ∃ g cur, a = some ⟨g, 0, none⟩ ∧ B ≤ g ∧ Has w g T cur ∧ n * k ≤ cur.size := by
  rcases h with h | h
  · omega
  · exact h
theorem Has.ne_type {t t' : TypeId} {g g' : Nat} {cs cs' : Array Value} (h : Has w g t cs) (h' : Has w g' t' cs') (hT : t ≠ t') : g ≠ g' := by
  rintro rfl
  unfold Has at h h'
  rw [h] at h'
  injection h' with e
  injection e with _ e2
  exact hT e2
theorem Rowed.aside {t : TypeId} {g : Nat} {cur : Array Value} (h : Rowed T k B w a n) (hh : Has w g t cur) (hT : T ≠ t) (o : Nat) (vs : List Value) : Rowed T k B (w.setCells g o vs) a n := by
  rcases h with h | ⟨g', cur', e, hB, hh', hs⟩
  · exact .inl h
  · exact .inr ⟨g', cur', e, hB, hh'.asideAll (hh'.ne_type hh hT) vs o, hs⟩
theorem Rowed.put {g : Nat} {cur : Array Value} (hB : B ≤ g) (hh : Has w g T cur) (hs : n * k ≤ cur.size) (o : Nat) (vs : List Value) : Rowed T k B (w.setCells g o vs) (some ⟨g, 0, none⟩) n :=
  .inr ⟨g, _, rfl, hB, hh.putAll vs o, by rw [putAll_size]; exact hs⟩
end
end Go.Proofs.Ytpbijcchdjppmaa
