/- Slices of digests that are the call's own: what they hold, appended to; loads in a drawn region -/
import Derived.Test.YtpbijcchdjppmaaHa
import Derived.Test.YtpbijcchdjppmaaHe
import Derived.Laws.AppendOwn
import Derived.Laws.AppendOwnNone
namespace Go.Proofs.Ytpbijcchdjppmaa
open Go Go.RowKit
set_option maxRecDepth 100000
/-- the cells of a list of digests -/
def hrow (L : List (List (BitVec 8))) : List Value := L.flatMap blist
theorem hrow_app (L M : List (List (BitVec 8))) : hrow (L ++ M) = hrow L ++ hrow M := List.flatMap_append
theorem hrow_len : ∀ {L : List (List (BitVec 8))}, (∀ l, l ∈ L → l.length = 32) → (hrow L).length = L.length * 32
  | [], _ => rfl
  | a :: r, h => by
    show (blist a ++ hrow r).length = _
    rw [List.length_append, blist_length, h a (by simp), hrow_len (L := r) (fun l hl => h l (by simp [hl])), List.length_cons]
    omega
theorem hrow_at : ∀ {L : List (List (BitVec 8))} (_ : ∀ l, l ∈ L → l.length = 32) (i j : Nat), i < L.length → j < 32 → (hrow L)[i * 32 + j]? = some (.int .u8 (nb8 (cb (L.getD i []) j)))
  | [], _, _, _, hi, _ => absurd hi (Nat.not_lt_zero _)
  | a :: r, h, i, j, hi, hj => by
    have ha := h a (by simp)
    show (blist a ++ hrow r)[i * 32 + j]? = _
    rcases i with _ | i
    · rw [List.getElem?_append_left (by rw [blist_length, ha]; omega), Nat.zero_mul, Nat.zero_add, blist_at a j (by omega)]
      rfl
    · rw [List.getElem?_append_right (by rw [blist_length, ha]; omega), blist_length, ha, show (i + 1) * 32 + j - 32 = i * 32 + j by omega]
      simp only [List.length_cons] at hi
      rw [hrow_at (L := r) (fun l hl => h l (by simp [hl])) i j (by omega) hj]
      rfl
theorem hrow_one (L : List (List (BitVec 8))) : ∀ v ∈ hrow L, v.oneCell' = true := by
  intro v hv
  obtain ⟨l, _, hl⟩ := List.mem_flatMap.1 hv
  exact blist_one l v hl
/-- v is the call's own slice of digests, made since block B; L: its elements -/
def OwnH (T : TypeId) (B : Nat) (w : World) (v : Value) (L : List (List (BitVec 8))) : Prop := (∀ l, l ∈ L → l.length = 32) ∧ w.ownsRow B T 32 v L.length (hrow L)
section
variable {T : TypeId} {B : Nat} {w w' : World} {v : Value} {L : List (List (BitVec 8))}
theorem OwnH.nil (T : TypeId) (B : Nat) (w : World) : OwnH T B w (.slice none 0 0) [] := ⟨(fun _ h => by cases h), World.ownsRow_nil _ _ _ _⟩
theorem OwnH.empty {w1 : World} {g : Nat} (hB : B ≤ g) (hh : Has w1 g T #[]) : OwnH T B w1 (.slice (some ⟨g, 0, none⟩) 0 0) [] :=
  ⟨(fun _ h => by cases h), rfl, .inr ⟨g, 0, #[], rfl, hB, hh, Nat.le_refl _, by unfold maxLen; omega, rfl, rfl⟩⟩
theorem OwnH.all {M : List (List (BitVec 8))} {k : Nat} (hL : ∀ l, l ∈ L → l.length = 32) (hM : ∀ l, l ∈ M → l.length = 32) (hk : M.length = k) (h : w'.ownsRow B T 32 v (L.length + k) (hrow L ++ hrow M)) : OwnH T B w' v (L ++ M) := by
  subst hk
  refine ⟨fun l hl => (List.mem_append.1 hl).elim (hL l) (hM l), ?_⟩
  rw [hrow_app]
  simpa using h
theorem OwnH.lt (h : OwnH T B w v L) : ∀ k, v.ownBlock = some k → B ≤ k := fun k hk => (World.ownsRow.lt h.2 k hk).1
theorem OwnH.below (h : OwnH T B w v L) (hb : Below w.heap.size w w') : OwnH T B w' v L := by
  refine ⟨h.1, h.2.1, ?_⟩
  rcases h.2.2 with hn | ⟨G, cap, cur, rfl, h1, h2, rest⟩
  · exact .inl hn
  · exact .inr ⟨G, cap, cur, rfl, h1, (hb.block _ (Array.getElem?_eq_some_iff.1 h2).1).trans h2, rest⟩
theorem OwnH.low {B' : Nat} (h : OwnH T B w v L) (hB : B' ≤ B) : OwnH T B' w v L := by
  refine ⟨h.1, h.2.1, ?_⟩
  rcases h.2.2 with hn | ⟨G, cap, cur, rfl, h1, h2⟩
  · exact .inl hn
  · exact .inr ⟨G, cap, cur, rfl, by omega, h2⟩
theorem OwnH.draws (h : OwnH T B w v L) (n : Nat) : OwnH T B (w.drewN n) v L := h
theorem rows_none (w : World) : Rows8 32 w none 0 [] := ⟨rfl, by unfold maxLen; omega, (fun _ h => by cases h), fun i hi => by omega⟩
/-- to read it -/
theorem OwnH.shape {K : Nat} (h : OwnH T B w v L) (hK : L.length = K) : ∃ a c, v = .slice a K c ∧ K ≤ c ∧ (a = none → c = 0) ∧ Rows8 32 w a K L := by
  subst hK
  obtain ⟨hall, hl, ⟨rfl, h0⟩ | ⟨g, cap, cur, rfl, hg, hh, hn, hm, hc, ht⟩⟩ := h
  · obtain rfl := List.length_eq_zero_iff.1 h0
    exact ⟨none, 0, rfl, Nat.le_refl _, fun _ => rfl, rows_none w⟩
  · refine ⟨_, cap, rfl, hn, (fun e => by cases e), rfl, by omega, hall, fun i hi => ⟨_, rfl, fun j hj => ?_⟩⟩
    rw [Addr.add_mid, Nat.zero_add, (show Has w g T cur from hh).cell (i * 32 + j), ← hrow_at hall i j hi hj, ← ht, List.getElem?_take, if_pos (by omega), Array.getElem?_toList]
end
theorem below_own_rowh {w0 w w' : World} {row : Option Nat} (hb : Below w0.heap.size w0 w) (hg : w.grownBy w' row) (hr : ∀ k, row = some k → w0.heap.size ≤ k) : Below w0.heap.size w0 w' := hb.grown hg hb.size hr
theorem z32_size : (Value.agg z32).cells.size = 32 := by rfl
theorem info_hash : (Try.prog.info? 49).map (fun i => (i.zero, i.size, i.bytes)) = some (some (.agg z32), 32, 32) := by kernel_rfl
/-- append(own, h), its literal behind: as a step of a region that draws -/
theorem step_append_hash {w : World} {ops : Array Oper} {o : Oper} {a : Act} {K : Act → World → Prop} {Q : Exit → Act → World → Prop} {E : Prop} (hwt : Region.wanted o (yielded ops a.tmps) = true) (s x : Operand) (t : TypeId)
    (ho : o.op = .call { callee := .builtin .append, args := #[s, x], argTypes := #[t, t] })
    (T : TypeId) (ht : Try.prog.underlying t = some (.slice T)) (hinfo : (Try.prog.info? T).map (fun i => (i.zero, i.size, i.bytes)) = some (some (.agg z32), 32, 32))
    (B : Nat) (v : Value) (L : List (List (BitVec 8))) (hs : a.eval s = v) (hown : OwnH T B w v L) (l : List (BitVec 8)) (hl : l.length = 32) (W : World) (hW : W = w.alloc (.cells (blist l).toArray T)) (hx : a.eval x = .slice (some ⟨w.heap.size, 0, none⟩) 1 1)
    (h63 : L.length + 1 ≤ 1099511627776) (hbase : B ≤ w.heap.size)
    (h : ∀ v' w', OwnH T B w' v' (L ++ [l]) → (w.alloc (.cells (blist l).toArray T)).grownBy w' v.ownBlock → K (a.put o.dst v') w') : if Region.wanted o (yielded ops a.tmps) = true then Oper.wp Try.prog o a W K Q else E := by
  subst hW
  rw [if_pos hwt]
  obtain ⟨i0, hi, hz0, hz1, hz2⟩ := info_parts hinfo
  refine wp_append_own (w.alloc (.cells (blist l).toArray T)) s x t ho B T i0 (.agg z32) 32 32 ht hi hz0 hz1 hz2 z32_size (by decide) v _ _ hs (World.ownsRow.alloc hown.2 _) ⟨w.heap.size, 0, none⟩ 1 1 (hrow [l]) hx (by rw [hrow_len (by simpa using hl)]; rfl) (fun j u hj => ?_) (hrow_one _) (by unfold maxLen; omega) (by omega) (by rw [World.size_alloc]; omega) ?_
  · have e : hrow [l] = blist l := by simp [hrow]
    rw [e] at hj
    rw [Addr.add_mid, Nat.zero_add, (Has.fresh w T _).cell, ← Array.getElem?_toList]
    exact hj
  · intro v' w' h1 h2 _
    exact h v' w' (OwnH.all hown.1 (by simpa using hl) rfl h1) h2
/-- append(own, rows...) -/
theorem step_append_rows {w : World} {ops : Array Oper} {o : Oper} {a : Act} {K : Act → World → Prop} {Q : Exit → Act → World → Prop} {E : Prop} (hwt : Region.wanted o (yielded ops a.tmps) = true) (s x : Operand) (t : TypeId)
    (ho : o.op = .call { callee := .builtin .append, args := #[s, x], argTypes := #[t, t] })
    (T : TypeId) (ht : Try.prog.underlying t = some (.slice T)) (hinfo : (Try.prog.info? T).map (fun i => (i.zero, i.size, i.bytes)) = some (some (.agg z32), 32, 32))
    (B : Nat) (v : Value) (L : List (List (BitVec 8))) (hs : a.eval s = v) (hown : OwnH T B w v L) (ad : Option Addr) (m c : Nat) (M : List (List (BitVec 8))) (hx : a.eval x = .slice ad m c) (hw : Rows8 32 w ad m M) (hc : ad = none → c = 0)
    (h63 : L.length + m ≤ 1099511627776) (hbase : B ≤ w.heap.size)
    (h : ∀ v' w', OwnH T B w' v' (L ++ M) → w.grownBy w' v.ownBlock → K (a.put o.dst v') w') : if Region.wanted o (yielded ops a.tmps) = true then Oper.wp Try.prog o a w K Q else E := by
  rw [if_pos hwt]
  obtain ⟨i0, hi, hz0, hz1, hz2⟩ := info_parts hinfo
  obtain ⟨hM, hm, hall, hcell⟩ := hw
  rcases ad with _ | ad
  · have h0 : m = 0 := by
      rcases Nat.eq_zero_or_pos m with h0 | h0
      · exact h0
      · obtain ⟨_, e, _⟩ := hcell 0 h0
        cases e
    subst h0
    obtain rfl := List.length_eq_zero_iff.1 hM
    obtain rfl := hc rfl
    have hrun := run_append_owned_none (P := Try.prog) (w := w) B t o.type T i0 32 ht hi v _ _ hown.2
    unfold Oper.wp
    simp [execOp, ho, resolve, invoke, builtin, hs, hx, hrun, Result.andThen]
    exact h v w (by simpa using hown) (World.grownBy.refl w _)
  · refine wp_append_own w s x t ho B T i0 (.agg z32) 32 32 ht hi hz0 hz1 hz2 z32_size (by decide) v _ _ hs hown.2 ad m c (hrow M) hx (by rw [hrow_len hall, hM]) (fun j u hj => ?_) (hrow_one _) (by unfold maxLen; omega) (by omega) hbase ?_
    · have hj2 : j < M.length * 32 := by
        have := (List.getElem?_eq_some_iff.1 hj).1
        rwa [hrow_len hall] at this
      obtain ⟨ad', e, hx2⟩ := hcell (j / 32) (by omega)
      injection e with e
      subst e
      have e2 : j / 32 * 32 + j % 32 = j := by omega
      have h3 := hx2 (j % 32) (by omega)
      rw [e2] at h3
      rw [h3, ← hj, ← hrow_at hall (j / 32) (j % 32) (by omega) (by omega), e2]
    · intro v' w' h1 h2 _
      exact h v' w' (OwnH.all hown.1 hall hM h1) h2
/-- the same in a region in its order -/
theorem wpList_append_rows {w : World} {ops : Array Oper} {rest : List Oper} {o : Oper} {a : Act} {Q : Exit → Act → World → Prop} (hgd : o.guard = none) (s x : Operand) (t : TypeId)
    (ho : o.op = .call { callee := .builtin .append, args := #[s, x], argTypes := #[t, t] })
    (T : TypeId) (ht : Try.prog.underlying t = some (.slice T)) (hinfo : (Try.prog.info? T).map (fun i => (i.zero, i.size, i.bytes)) = some (some (.agg z32), 32, 32))
    (B : Nat) (v : Value) (L : List (List (BitVec 8))) (hs : a.eval s = v) (hown : OwnH T B w v L) (ad : Option Addr) (m c : Nat) (M : List (List (BitVec 8))) (hx : a.eval x = .slice ad m c) (hw : Rows8 32 w ad m M) (hc : ad = none → c = 0)
    (h63 : L.length + m ≤ 1099511627776) (hbase : B ≤ w.heap.size)
    (h : ∀ v' w', OwnH T B w' v' (L ++ M) → w.grownBy w' v.ownBlock → wpList Try.prog ops Q rest (a.put o.dst v') w') : wpList Try.prog ops Q (o :: rest) a w := by
  obtain ⟨i0, hi, hz0, hz1, hz2⟩ := info_parts hinfo
  obtain ⟨hM, hm, hall, hcell⟩ := hw
  rcases ad with _ | ad
  · have h0 : m = 0 := by
      rcases Nat.eq_zero_or_pos m with h0 | h0
      · exact h0
      · obtain ⟨_, e, _⟩ := hcell 0 h0
        cases e
    subst h0
    obtain rfl := List.length_eq_zero_iff.1 hM
    obtain rfl := hc rfl
    exact wpList_append_own_none hgd s x t ho B T i0 32 ht hi v _ _ hs hown.2 hx (h v w (by simpa using hown) (World.grownBy.refl w _))
  · refine wpList_append_own w hgd s x t ho B T i0 (.agg z32) 32 32 ht hi hz0 hz1 hz2 z32_size (by decide) v _ _ hs hown.2 ad m c (hrow M) hx (by rw [hrow_len hall, hM]) (fun j u hj => ?_) (hrow_one _) (by unfold maxLen; omega) (by omega) hbase ?_
    · have hj2 : j < M.length * 32 := by
        have := (List.getElem?_eq_some_iff.1 hj).1
        rwa [hrow_len hall] at this
      obtain ⟨ad', e, hx2⟩ := hcell (j / 32) (by omega)
      injection e with e
      subst e
      have e2 : j / 32 * 32 + j % 32 = j := by omega
      have h3 := hx2 (j % 32) (by omega)
      rw [e2] at h3
      rw [h3, ← hj, ← hrow_at hall (j / 32) (j % 32) (by omega) (by omega), e2]
    · intro v' w' h1 h2 _
      exact h v' w' (OwnH.all hown.1 hall hM h1) h2
/-! a slice literal of one digest -/
theorem zeros_hash : (Array.range (1 * 32)).map (z32[· % z32.size]!) = z32 := by kernel_rfl
theorem fill_hash (l : List (BitVec 8)) (hl : l.length = 32) : Instr.fill (fun i => some (i * 32, 32)) ((Array.range (1 * 32)).map (z32[· % z32.size]!)) [(0, .agg (blist l).toArray)] = some (blist l).toArray := by
  rw [zeros_hash]
  match l, hl with
  | [x0, x1, x2, x3, x4, x5, x6, x7, x8, x9, x10, x11, x12, x13, x14, x15, x16, x17, x18, x19, x20, x21, x22, x23, x24, x25, x26, x27, x28, x29, x30, x31], _ =>
    have hc : ∀ cs : Array Value, (Value.agg cs).cells = cs := fun _ => rfl
    simp [Instr.fill, hc, blist]
theorem run_build_hash {P : Program} {t T : TypeId} (ht : P.underlying t = some (.slice T)) (hi : (P.info? T).map (fun i => (i.zero, i.size, i.bytes)) = some (some (.agg z32), 32, 32)) (l : List (BitVec 8)) (hl : l.length = 32) (w : World) :
    (Instr.buildSlice t 1 #[(0, .agg (blist l).toArray)]).run P w = .ok (.slice (some ⟨w.heap.size, 0, none⟩) 1 1) (w.alloc (.cells (blist l).toArray T)) := by
  obtain ⟨i0, hi0, hz0, hz1, hz2⟩ := info_parts hi
  have hf := fill_hash l hl
  have hz : (Value.agg z32).cells = z32 := rfl
  simp at hf
  simp [Instr.buildSlice, Sem.run_bind, run_underlying ht, sizeOf, typeInfo, zeroValue, hi0, hz0, hz1, hz, newRow, hf]
theorem step_build_hash {P : Program} {w : World} {ops : Array Oper} {o : Oper} {a : Act} {K : Act → World → Prop} {Q : Exit → Act → World → Prop} {E : Prop} (hwt : Region.wanted o (yielded ops a.tmps) = true) (x : Operand) (t : TypeId)
    (ho : o.op = .buildSlice t 1 #[(0, x)]) (T : TypeId) (ht : P.underlying t = some (.slice T)) (hi : (P.info? T).map (fun i => (i.zero, i.size, i.bytes)) = some (some (.agg z32), 32, 32))
    (l : List (BitVec 8)) (hl : l.length = 32) (hx : a.eval x = .agg (blist l).toArray)
    (h : K (a.put o.dst (.slice (some ⟨w.heap.size, 0, none⟩) 1 1)) (w.alloc (.cells (blist l).toArray T))) : if Region.wanted o (yielded ops a.tmps) = true then Oper.wp P o a w K Q else E := by
  rw [if_pos hwt]
  have hr := run_build_hash (P := P) ht hi l hl w
  unfold Oper.wp execOp
  simp only [ho, List.map_toArray, List.map_cons, List.map_nil, hx, Sem.run_bind, Sem.run_pure, Result.andThen_ok, hr]
  exact h
/-- a load whose run is known, in a region that draws -/
theorem yieldsIf_load_run {P : Program} {ops : Array Oper} {S : World → Prop} {op : Oper} {a : Act} (hw : Region.wanted op (yielded ops a.tmps) = true) (ty : TypeId) (x : Operand) (ho : op.op = .load ty x)
    (p v : Value) (hx : a.eval x = p) (hS : ∀ w, S w → (Instr.loadAt ty p).run P w = .ok v w) : YieldsIf P ops S op v a :=
  .inl ⟨hw, fun w hw' => by
    unfold execOp
    simp only [ho, hx, Sem.run_bind, Sem.run_pure, Result.andThen_ok, hS w hw']⟩
end Go.Proofs.Ytpbijcchdjppmaa
