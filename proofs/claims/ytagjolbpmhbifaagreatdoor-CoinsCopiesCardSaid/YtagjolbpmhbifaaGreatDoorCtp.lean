/- package coins: a range over a map's keys; slices.AppendSeq, slices.Collect of points (mkctk.py) · package coins: slices.SortFunc, slices.SortedFunc of points; Points · package coins: Back, Copy; the rest of what the premise asks (mkctm.py) -/
import Derived.Test.YtagjolbpmhbifaaGreatDoorCtd
import Derived.Test.YtagjolbpmhbifaaGreatDoorCtn
import Derived.Shelf.SlSortCmp.NoneTotal
import Derived.Test.YtagjolbpmhbifaaGreatDoorCth
/-! package coins: a range over a map's keys; slices.AppendSeq, slices.Collect of points (mkctk.py) -/
namespace Go.Proofs.YtagjolbpmhbifaaGreatDoor
open Go Go.RowKit Go.ChangeShapes Go.WideShapes
attribute [local go_sem] Oper.semAt_some
set_option maxRecDepth 100000 in
set_option maxHeartbeats 4000000 in
theorem mkeys_iter (m : Nat) (hm : 1 ≤ m) (Bm b : Nat) (M : Cs.Mp) (w : World) (hB : Has w Bm 76 #[.map (some b)]) (h : MapAt w b M) :
    Iterates Fence.wide m Tryz.prog 71 #[.pointer (some ⟨Bm, 0, none⟩)] encPt KeepsWalks [] (RdPt M.length) (fun s => s.Perm (M.map (·.1))) w := by
  intro l J Jx W hW hJ hJx hY h0
  have c0 : W.cell? ⟨Bm, 0, none⟩ = some (.map (some b)) := (hB.under hW hB.lt).cell_at rfl
  have hMW : MapAt W b M := h.below hW
  have hok : ∀ x, x ∈ M → Cs.ptOk x.1 ∧ Tx.CoOk x.2 := by
    obtain ⟨es, clock, _, _, _, h4, _⟩ := h
    exact h4
  refine callsIn_of_wp Tryz.func71 rfl trivial ?_ rfl
  simp only [Tryz.ntmps71, List.size_toArray, List.length_cons, List.length_nil, Nat.reduceAdd, Nat.reduceSub, Array.replicate_succ, Array.replicate_zero, List.push_toArray, List.append_toArray, List.nil_append, List.cons_append]
  gi_wp2_with (first
    | (gi_at_range; refine wpListIn_range_pt rfl (.tmp 4) rfl rfl hMW ?_; intro w1 hrg1 hb1)
    | gi_in)
  go_frame
  gi_loopw [3] (fun _ wr => ∃ (A left : Cs.Mp), RangeAt wr b W.heap.size M left ∧ (A ++ left).Perm M ∧ J (A.map (·.1)) wr) (fun _ wr => wr.rangeLeft b W.heap.size)
  case atStart => exact ⟨[], M, hrg1, List.Perm.refl _, hJ [] W w1 none h0 ⟨hb1.os, hb1.tape, hb1.output, hb1.size, fun k hk _ => hb1.block k hk⟩ (fun r e => by cases e)⟩
  case round =>
    obtain ⟨A, left, hrg, hperm, hJs⟩ := hrel
    clear hrg1 hb1 h0 c0
    gi_wp2_with (first
      | (gi_at_next; refine wpListIn_next_pt rfl (.tmp 5) rfl rfl hrg ?_ ?_)
      | gi_in)
    · intro hl
      gi_wp2
      go_end0
      refine ⟨⟨_, rfl⟩, .inl ⟨_, ?_, hJs⟩⟩
      rw [hl, List.append_nil] at hperm
      exact hperm.map _
    · intro l1 l2 ⟨x⟩ w2 hl hrg2 hm2 hen
      dsimp only at hl hen ⊢
      rw [hl] at hperm
      have hxM : x ∈ M := hperm.subset (by simp)
      have hxo := (hok x hxM).1
      have hxl := hxo.1
      have hb3 : Below w2.heap.size w2 ((w2.alloc (.cells zPt 32)).setCells w2.heap.size 0 (ptCells x.1.1 x.1.2).toArray.toList) := below_setAll (Nat.le_refl _) _ 0 ((Below.refl _ _).alloc (Nat.le_refl _) _)
      have hA3 : Has ((w2.alloc (.cells zPt 32)).setCells w2.heap.size 0 (ptCells x.1.1 x.1.2).toArray.toList) w2.heap.size 32 (ptCells x.1.1 x.1.2).toArray := (Has.fresh w2 _ _).whole_cs (by rw [List.size_toArray, ptCells_len hxl]; rfl)
      have lA := hA3.load_agg (P := Tryz.prog) (t := 32) Tryz.underlying32 rfl (size_pt hxl)
      have hJ3 := hJ _ wr _ (some W.heap.size) hJs ⟨hb3.os.trans hm2.os, hb3.tape.trans hm2.tape, hb3.output.trans hm2.output, Nat.le_trans hm2.size hb3.size, fun k hk hne => (hb3.block k (Nat.lt_of_lt_of_le hk hm2.size)).trans (hm2.block k hk (fun e => hne (by rw [e])))⟩ (fun r e => by cases e; exact ⟨Nat.le_refl _, hrg.iter⟩)
      have hlt : (A.map (·.1)).length < M.length := by
        have e := hperm.length_eq
        simp only [List.length_append, List.length_cons, List.length_map] at e ⊢
        omega
      obtain ⟨fn, tmps, assign, body, hy, hR⟩ := hY _ x.1 _ _ hJ3 ⟨rfl, hxo, hlt⟩
      dsimp only [encPt] at hy
      have HR := Lib.hid hR
      have HL := Lib.hid hl
      have HP := Lib.hid hperm
      clear hl hperm hR hlt hxo hxM
      gi_wp2_with (first
        | (refine wpListIn_store_mid rfl 32 (.tmp 3) (.tmp 9) rfl w2.heap.size 0 (ptCells x.1.1 x.1.2).toArray rfl rfl ((Has.fresh w2 32 zPt).there 0 (ptCells x.1.1 x.1.2).toArray.size (by rw [List.size_toArray, ptCells_len hxl]; decide)) (size_pt hxl) (ptRec.all_one x.1) ?_)
        | (refine wpListIn_load_run rfl 32 (.tmp 3) rfl _ _ rfl lA ?_)
        | gi_in)
      refine HR.out.mono ?_
      rintro e W3 (⟨rfl, hJ3, hk3⟩ | ⟨rfl, hJx3⟩)
      · gi_wp2
        have hrg3 := (hrg2.below hb3).walks hk3
        have hP2 := perm_next HP.out
        have hl2 : (l1 ++ l2).length < left.length := by rw [HL.out]; simp
        go_roundw
        case rel => exact ⟨A ++ [x], l1 ++ l2, hrg3, hP2, by rw [List.map_append]; exact hJ3⟩
        case measure => rw [hrg3.left_eq, hrg.left_eq]; exact hl2
      · gi_wp2
        refine bodyPost_ret (results_none rfl _ _ _) rfl ?_
        exact ⟨⟨_, rfl⟩, .inr ⟨_, hJx3⟩⟩
set_option maxRecDepth 100000 in
set_option maxHeartbeats 4000000 in
theorem mkeys_none (m : Nat) (_ : 1 ≤ m) (Bm : Nat) (w : World) (hB : Has w Bm 76 #[.map none]) :
    Iterates Fence.wide m Tryz.prog 71 #[.pointer (some ⟨Bm, 0, none⟩)] encPt KeepsWalks [] (RdPt 0) (fun s => s.Perm []) w := by
  intro l J Jx W hW hJ hJx hY h0
  have c0 : W.cell? ⟨Bm, 0, none⟩ = some (.map none) := (hB.under hW hB.lt).cell_at rfl
  refine callsIn_of_wp Tryz.func71 rfl trivial ?_ rfl
  simp only [Tryz.ntmps71, List.size_toArray, List.length_cons, List.length_nil, Nat.reduceAdd, Nat.reduceSub, Array.replicate_succ, Array.replicate_zero, List.push_toArray, List.append_toArray, List.nil_append, List.cons_append]
  have hrg := run_range_nilMap (P := Tryz.prog) W 76 _ _ Tryz.underlying76
  have hnx : ∀ ty, (Instr.next (.pointer (some ⟨W.heap.size, 0, none⟩)) false ty).run Tryz.prog (W.alloc (.mapIter none 0 #[] 0)) = _ := fun ty => run_next_nilMap _ ty 0 0 #[]
  gi_wp2
  refine wpIn_loop_rounds 1 ?_
  rw [roundsIn_succ]
  gi_wp2
  go_end0
  exact ⟨⟨_, rfl⟩, .inl ⟨[], List.Perm.refl _, hJ [] W _ none h0 (World.grownBy_alloc W _ none) (fun r e => by cases e)⟩⟩
theorem wpListIn_build_row {F : Fence} {n : Nat} {P : Program} {w : World} {ops : Array Oper} {rest : List Oper} {o : Oper} {a : Act} {Q : Exit → Act → World → Prop} (hgd : o.guard = none) (x : Operand) (t : TypeId) (ho : o.op = .buildSlice t 1 #[(0, x)])
    (T : TypeId) {z : Array Value} {k by_ : Nat} (ht : P.underlying t = some (.slice T)) (hi : (P.info? T).map (fun i => (i.zero, i.size, i.bytes)) = some (some (.agg z), k, by_)) (hk : 0 < k) (hk2 : k ≤ 16777216) (cs : Array Value) (hc : cs.size = k) (hx : a.eval x = .agg cs)
    (h : wpListIn F n P ops Q rest (a.put o.dst (.slice (some ⟨w.heap.size, 0, none⟩) 1 1)) (w.alloc (.cells cs T))) : wpListIn F n P ops Q (o :: rest) a w := by
  refine wpListIn_plain hgd fun K' hK' => ?_
  have hr := run_build_row (P := P) ht hi hk hk2 cs hc w
  unfold Oper.wpIn
  refine ⟨by simp [Oper.about, ho], ?_⟩
  rw [Oper.semAt_plain F _ _ (by rw [ho]; intro c hc; cases hc)]
  simp only [execOp, ho, List.map_toArray, List.map_cons, List.map_nil, hx, Sem.run_bind, Sem.run_pure, Result.andThen_ok, hr]
  exact hK' _ _ h
theorem wpListIn_append_recs {α : Type} {R : Rec α} {F : Fence} {n : Nat} {P : Program} {w : World} {ops : Array Oper} {rest : List Oper} {o : Oper} {a : Act} {Q : Exit → Act → World → Prop} (hgd : o.guard = none) (s x : Operand) (t : TypeId)
    (ho : o.op = .call { callee := .builtin .append, args := #[s, x], argTypes := #[t, t] })
    (T : TypeId) (ht : P.underlying t = some (.slice T)) {z : Value} {by_ : Nat} (hinfo : (P.info? T).map (fun i => (i.zero, i.size, i.bytes)) = some (some z, R.k, by_)) (hzk : z.cells.size = R.k) (hby : by_ ≤ 128)
    (B : Nat) (v : Value) (L : List α) (hs : a.eval s = v) (hown : OwnR R T B w v L) (ad : Addr) (m c : Nat) (M : List α) (hx : a.eval x = .slice (some ad) m c) (hw : Recs R w (some ad) m M)
    (h63 : L.length + m ≤ 1099511627776) (hbase : B ≤ w.heap.size)
    (h : ∀ v' w', OwnR R T B w' v' (L ++ M) → w.grownBy w' v.ownBlock → wpListIn F n P ops Q rest (a.put o.dst v') w') : wpListIn F n P ops Q (o :: rest) a w := by
  obtain ⟨i0, hi, hz0, hz1, hz2⟩ := info_parts hinfo
  have hf := hw.flat
  obtain ⟨hM, hm, hall, hcell⟩ := hw
  have hbb : (L.length + m) * by_ ≤ 140737488355328 := Nat.le_trans (Nat.mul_le_mul h63 hby) (by omega)
  refine wpListIn_append_own w hgd s x t ho B T i0 z R.k by_ ht hi hz0 hz1 hz2 hzk R.pos v _ _ hs hown.2 ad m c (R.row M) hx (by rw [R.row_len hall, hM]) hf (R.row_one _) (by unfold maxLen; omega) hbb hbase ?_
  intro v' w' h1 h2 _
  exact h v' w' (OwnR.all hown.1 hall hM h1) h2
theorem ownr_set {α : Type} {R : Rec α} {T T' : TypeId} {B g : Nat} {w : World} {cs : Array Value} {v : Value} {L : List α} (ho : OwnR R T B w v L) (h : Has w g T' cs) (hT : T' ≠ T) (i : Nat) (u : Value) : OwnR R T B (w.setCell ⟨g, i, none⟩ u) v L :=
  ho.moved (F := fun k => k = g) (Moved.put (F := fun k => k = g) (Moved.refl _ _) (.inl rfl) i u) (fun k hk e => by
    subst e
    obtain ⟨cs', h'⟩ := ownr_block ho hk
    exact Has.ne_type h h' hT rfl)
set_option maxRecDepth 100000 in
set_option maxHeartbeats 8000000 in
theorem appendseq_any {w w0 : World} (gf : Nat) (lb : Array Value) (eg : ∀ args w, (callFunc gf args).run Tryz.prog w = .ok (.enter gf args) w) (Kp : World → World → Prop) (hKt : ∀ {A B C : World}, Kp A B → Kp B C → Kp A C)
    (hKb : ∀ (W : World) (l : Nat) (o o' : Obj), w.heap.size ≤ l → W.heap[l]? = some o → o.isCells = false → o.isWalk = false → Kp W (W.putObj l o'))
    (hKo : ∀ W W' : World, KeepsOthers W W' → Below w.heap.size W W' → Kp W W') (KL : List Cs.Pt) (hN : KL.length ≤ 1000000000)
    (hseq : Iterates Fence.wide 4 Tryz.prog gf lb encPt Kp [] (RdPt KL.length) (fun s => s.Perm KL) w0) (hb0 : Below w0.heap.size w0 w) :
    Calls Tryz.prog 92 #[.slice none 0 0, .func (.func gf) #[] lb] w fun e w' => ∃ v s, e = .returned v ∧ s.Perm KL ∧ OwnR ptRec 32 w.heap.size w' v s ∧ Below w.heap.size w w' := by
  have HN := Lib.hid hN
  have HKO := Lib.hid hKo
  have HKB := Lib.hid hKb
  clear hN hKo hKb
  apply calls_wide7
  refine callsIn_of_wp_marks Tryz.func92 rfl trivial ?_ rfl
  simp only [Tryz.ntmps92, List.size_toArray, List.length_cons, List.length_nil, Nat.reduceAdd, Nat.reduceSub, Array.replicate_succ, Array.replicate_zero, List.push_toArray, List.append_toArray, List.nil_append, List.cons_append]
  refine wpIn_wide.2 ?_
  go_wp2
  obtain ⟨w1, hw1⟩ : ∃ x, x = w.alloc (.cells #[.slice none 0 0] 54) := ⟨_, rfl⟩
  rw [← hw1]
  have hB1 : Below w.heap.size w w1 := by rw [hw1]; exact (Below.refl _ _).alloc (Nat.le_refl _) _
  have hX1 : Has w1 w.heap.size 54 #[.slice none 0 0] := by rw [hw1]; exact Has.fresh _ _ _
  have hs1 : w1.heap.size = w.heap.size + 1 := by rw [hw1]; simp
  have HS := Lib.hid hs1
  clear hw1 hs1
  refine (wpIn_wide (n := 5)).1 ?_
  refine wpIn_range_made (F := Fence.wide) rfl (by omega) (gf := gf) (lb := lb) rfl trivial eg hseq (hb0.trans (hB1.mono hb0.size)) (fun _ => rfl) hKt
    (fun W l o o' hl ho hc hw => HKB.out W l o o' (by have := HS.out; omega) ho hc hw) (fun W W' hs hb => HKO.out W W' (KeepsOthers.of_below hb) (hb.mono (by have := HS.out; omega))) (fun x s' s W W' row h hg hr => h)
    (fun s W => Below w.heap.size w W ∧ ∃ v, Has W w.heap.size 54 #[v] ∧ OwnR ptRec 32 w.heap.size W v s)
    (fun _ _ _ => False)
    (fun s W W' row h hg hr => ⟨h.1.grown hg h.1.size (fun k e => by have := (hr k e).1; have := HS.out; omega), by
      obtain ⟨v, h1, h2⟩ := h.2
      exact ⟨v, h1.kept hg (fun r e => (hr r e).2), h2.1, own_kept h2.2 hg (fun r e => (hr r e).2)⟩⟩)
    (fun _ _ _ _ _ h _ _ => h) ⟨hB1, _, hX1, OwnR.nil _ _ _ _⟩
    (fun x a' W => x.1.length = 32 ∧ ∃ g, a' = { tmps := #[.slice none 0 0, .func (.func gf) #[] lb, .pointer (some ⟨w.heap.size, 0, none⟩), undef, .slice none 0 0, .pointer (some ⟨g, 0, none⟩), .func (.func gf) #[] lb, .agg (ptCells x.1 x.2).toArray, undef, undef, undef, undef, undef], defers := [] } ∧ Has W g 32 (ptCells x.1 x.2).toArray)
    (fun x a' s W W' row h hg hr => by
      obtain ⟨hl, g, h1, h2⟩ := h
      exact ⟨hl, g, h1, h2.kept hg (fun r e => (hr r e).2)⟩)
    ?assign ?body ?done ?stop
  case assign =>
    intro l x W K hsz hx hK
    obtain ⟨_, _, _, hxo, _⟩ := hx
    have hxl := hxo.1
    dsimp only [encPt]
    gi_wp2_with (first
      | (refine wpListIn_store_mid rfl 32 (.tmp 5) (.tmp 7) rfl W.heap.size 0 (ptCells x.1 x.2).toArray rfl rfl ((Has.fresh W 32 zPt).there 0 (ptCells x.1 x.2).toArray.size (by rw [List.size_toArray, ptCells_len hxl]; decide)) (size_pt hxl) (ptRec.all_one x) ?_)
      | gi_in)
    exact hK _ _ (below_setAll (Nat.le_refl _) _ 0 ((Below.refl _ _).alloc (Nat.le_refl _) _)) ⟨hxl, _, rfl, (Has.fresh W _ zPt).whole_cs (cs2 := (ptCells x.1 x.2).toArray) (by rw [List.size_toArray, ptCells_len hxl]; rfl)⟩
  case stop => exact fun _ _ _ _ _ h => h.elim
  case done =>
    rintro D s W hD hs ⟨hbW, v, hNW, hoW⟩ hK1
    have cN : W.cell? ⟨w.heap.size, 0, none⟩ = some v := hNW.cell_at rfl
    have HO := Lib.hid (And.intro hoW (And.intro hbW hD))
    have HP := Lib.hid hs
    clear hs hoW hNW hbW hD
    go_wp2
    refine leaves_tmp rfl rfl hK1 ⟨v, s, rfl, HP.out, ⟨HO.out.1.1, own_kept HO.out.1.2 (grownBy_putObj' W D _) (fun r e => by cases e; exact ⟨_, hK1, rfl⟩)⟩, below_put_at HO.out.2.1 HO.out.2.1.size (by have := HS.out; have := HO.out.2.2; omega) _⟩
  case body =>
    rintro lp s x s' a' W ⟨hbW, v, hNW, hoW⟩ ⟨rfl, hxo, hsl⟩ hsz ⟨hxl, g, rfl, hGW⟩
    have cN : W.cell? ⟨w.heap.size, 0, none⟩ = some v := hNW.cell_at rfl
    have lP := hGW.load_agg (P := Tryz.prog) (t := 32) Tryz.underlying32 rfl (size_pt hxl)
    have hbA : Below W.heap.size W (W.alloc (.cells (ptCells x.1 x.2).toArray 32)) := (Below.refl _ _).alloc (Nat.le_refl _) _
    have hfr : Recs ptRec (W.alloc (.cells (ptCells x.1 x.2).toArray 32)) (some ⟨W.heap.size, 0, none⟩) 1 [x] := pt_fresh hxo
    have hoA := hoW.below hbA
    have hNA : Has (W.alloc (.cells (ptCells x.1 x.2).toArray 32)) w.heap.size 54 #[v] := hNW.past _
    have HLN := Lib.hid (show s.length < 1000000000 by have := HN.out; omega)
    have HW := Lib.hid hbW
    clear hxo hsl hGW
    gi_wp2_with (first
      | (refine wpListIn_append_recs (R := ptRec) rfl (.tmp 8) (.tmp 10) 54 rfl 32 Tryz.underlying54 info_pt (by kernel_rfl) (by decide) w.heap.size v s rfl hoA ⟨W.heap.size, 0, none⟩ 1 1 [x] rfl hfr (by have := HLN.out; omega) (by have := HW.out.size; simp; omega) ?_; intro v' w6 ho' hg'; have h6 := has_own hNA hoA (by decide) hg'; have c6 : w6.cell? ⟨w.heap.size, 0, none⟩ = some v := h6.cell_at rfl; obtain ⟨k, hk⟩ : ∃ k, k = (s ++ [x]).length := ⟨_, rfl⟩; obtain ⟨va, vc, rfl, hvc, h0v, _, hnu⟩ := ho'.shape hk.symm; clear hk; have f6 : w6.frozen? ⟨w.heap.size, 0, none⟩ = false := h6.loose 0)
      | (refine wpListIn_build_row rfl (.tmp 9) 54 rfl 32 Tryz.underlying54 info_pt (by decide) (by decide) (ptCells x.1 x.2).toArray (by rw [List.size_toArray, ptCells_len hxl]; rfl) rfl ?_)
      | (refine wpListIn_load_run rfl 32 (.tmp 5) rfl _ _ rfl lP ?_)
      | gi_in)
    have hKO1 := ((KeepsOthers.of_below hbA).trans (own_others hoW.2 hbA hg')).trans (KeepsOthers.setCell w6 ⟨w.heap.size, 0, none⟩ (.slice va k vc))
    have hBB := below_set1 (g := w.heap.size) (u := .slice va k vc) (hbA.mono HW.out.size) hg' hoW.lt (by have := HW.out.size; simp; omega)
    refine ⟨?_, ?_, ?_, ?_⟩
    · exact hKO1.from _
    · exact HKO.out _ _ hKO1 hBB
    · exact HW.out.trans hBB
    · exact ⟨_, h6.put 0 _, ownr_set ho' h6 (by decide) 0 _⟩
end Go.Proofs.YtagjolbpmhbifaaGreatDoor

/-! package coins: slices.SortFunc, slices.SortedFunc of points; Points -/
namespace Go.Proofs.YtagjolbpmhbifaaGreatDoor
open Go Go.RowKit Go.ChangeShapes Go.WideShapes
open Go.Sort (HoldsK flatK size_flatK get_flatK size_putRowK putRowK PermIn SortedIn)
theorem Cs.enc_len (x : Cs.P32) : (Cs.enc32 x).length = 33 := ptCells_len x.2
theorem Cs.enc_one (x : Cs.P32) : ∀ v ∈ Cs.enc32 x, v.oneCell' = true := fun v hv => ptRec.one x.1 v hv
theorem sort_below {B g n : Nat} {w : World} {d : Array Cs.P32} {os : Array Obj} (hg : B ≤ g) (hlt : g < w.heap.size) : Below B w (sortWorldK Cs.enc32 33 w g 0 n d os) := by
  refine ⟨rfl, rfl, rfl, ?_, fun k hk => ?_⟩
  · unfold sortWorldK
    rw [Go.Sort.size_grow, size_putRowK]
    show w.heap.size ≤ w.heap.size + _
    omega
  · show (((Go.Sort.ahead w n).heap.modify g _) ++ os)[k]? = w.heap[k]?
    rw [Array.getElem?_append_left (by rw [Array.size_modify]; show k < w.heap.size; omega), Array.getElem?_modify, if_neg (by omega)]
    rfl
set_option maxHeartbeats 2000000 in
theorem sortfunc_any {w : World} {B : Nat} {v : Value} {L : List Cs.Pt} (ho : OwnR ptRec 32 B w v L) (hn : L.length ≤ 1000000000) (hd : L.Nodup) :
    Calls Tryz.prog 70 #[v, .func (.func 45) #[] #[]] w fun e w' => e = .returned (.tuple #[]) ∧ ∃ L' : List Cs.Pt, L'.Perm L ∧ L'.Pairwise Cs.Ahead ∧ (∃ (a : Option Addr) (n q : Nat), v = .slice a n q ∧ Recs ptRec w' a n L' ∧ n ≤ q ∧ (a = none → q = 0)) ∧ Below B w w' := by
  have hok := ho.1
  rcases ho.2.2 with ⟨rfl, h0⟩ | ⟨g, cap, cur, rfl, hgB, hgb, hnc, hcm, hcs, hct⟩
  · obtain rfl := List.length_eq_zero_iff.1 h0
    refine (AnyF.slices_SortFunc_none sortPt none 0 (.func (.func 45) #[] #[]) w).mono fun e w' ⟨he, hw⟩ => ⟨he, [], List.Perm.refl _, List.Pairwise.nil, ⟨none, 0, 0, rfl, recs_none _ _, Nat.le_refl _, fun _ => rfl⟩, ?_⟩
    rw [hw]
    exact Below.refl _ _
  · have hgl : g < w.heap.size := (Array.getElem?_eq_some_iff.1 hgb).1
    obtain ⟨dl, hdl⟩ : ∃ dl : List Cs.P32, dl = L.attachWith (fun p => p.1.length = 32) (fun p hp => (hok p hp).1) := ⟨_, rfl⟩
    have hdm : dl.map (·.1) = L := by rw [hdl]; exact List.attachWith_map_subtype_val ..
    have hds : dl.toArray.size = L.length := by rw [List.size_toArray, ← hdm, List.length_map]
    have hdg : ∀ i, i < L.length → ∃ x, dl[i]? = some x ∧ L[i]? = some x.1 := fun i hi => by
      have h9 : i < dl.length := by rw [← List.size_toArray, hds]; exact hi
      refine ⟨dl[i], List.getElem?_eq_getElem h9, ?_⟩
      rw [← hdm, List.getElem?_map, List.getElem?_eq_getElem h9]
      rfl
    have hH : HoldsK Cs.enc32 33 w g 0 dl.toArray := fun j hj => by
      rw [size_flatK, hds] at hj
      have hi : j / 33 < L.length := by omega
      obtain ⟨x, hx, hLx⟩ := hdg _ hi
      have hc : w.cell? ⟨g, 0 + j, none⟩ = cur[j]? := by
        rw [Nat.zero_add]
        unfold World.cell?
        rw [hgb]
        rfl
      refine ⟨?_, ?_⟩
      · have e1 : cur[j]? = (ptRec.row L)[j]? := by
          rw [← hct, List.getElem?_take, if_pos (by show j < L.length * 33; exact hj), Array.getElem?_toList]
        have e2 : (ptRec.row L)[j]? = (ptCells x.1.1 x.1.2)[j % 33]? := by
          have h7 := ptRec.row_at hok (j / 33) (j % 33) x.1 hLx (Nat.mod_lt _ (by decide))
          rw [show j / 33 * ptRec.k + j % 33 = j from by show j / 33 * 33 + j % 33 = j; omega] at h7
          exact h7
        have h8 : j % 33 < (ptCells x.1.1 x.1.2).length := by rw [ptCells_len x.2]; omega
        rw [hc, e1, e2, List.getElem?_eq_getElem h8, get_flatK _ _ _ _ (by rw [hds]; exact hj)]
        have e3 : dl.toArray[j / 33]! = x := by
          rw [getElem!_def, List.getElem?_toArray, hx]
        rw [e3]
        show some _ = some ((Cs.enc32 x)[j % 33]!)
        rw [getElem!_pos (Cs.enc32 x) (j % 33) (by rw [Cs.enc_len]; omega)]
        rfl
      · have hh : Has w g 32 cur := hgb
        rw [Nat.zero_add]
        exact hh.loose j
    have hS := AnyQ.slices_SortFunc sortPt 33 (fun w => Tryz.isAgg32 w) (fun w => Tryz.sizeOf32 w) Cs.enc32 Cs.enc_len Cs.enc_one Cs.cf32 Cs.swo32 45 #[] g 0 cap dl.toArray w (enters_of Tryz.func45 (by kernel_rfl) rfl) (cmpLaysPt g 0 _ w) hH hgl (by rw [hds]; omega)
    rw [hds] at hS
    refine hS.mono fun e w' ⟨he, d', n, os, hp, hs, hw⟩ => ?_
    have hsz : d'.size = L.length := hp.1.trans hds
    have hperm : d'.toList.Perm dl := by
      have h6 := hp.2.2
      rw [← hsz, Array.extract_size] at h6
      rw [hsz, ← hds, Array.extract_size] at h6
      simpa using h6
    have hPL : (d'.toList.map (·.1)).Perm L := by
      rw [← hdm]
      exact hperm.map _
    have hND : (d'.toList.map (·.1)).Nodup := hPL.nodup_iff.2 hd
    have hHw : HoldsK Cs.enc32 33 w' g 0 d' := by
      rw [hw]
      exact holdsK_sortWorldK Cs.enc32 33 w g 0 n dl.toArray d' os hgl hH hp.1
    refine ⟨he, d'.toList.map (·.1), hPL, ?_, ⟨some ⟨g, 0, none⟩, L.length, cap, rfl, ?_, hnc, fun e => by cases e⟩, ?_⟩
    · rw [List.pairwise_iff_getElem]
      intro i j hi hj hij
      rw [List.length_map, Array.length_toList] at hi hj
      have h5 := (Cs.lt32f _ _).1 (hs i j (Nat.zero_le _) hij (by omega))
      rw [getElem!_pos d' j hj, getElem!_pos d' i hi] at h5
      simp only [List.getElem_map, Array.getElem_toList]
      rcases Cs.ahead_total (d'[i]).2 (d'[j]).2 with h4 | h4 | h4
      · exact h4
      · exfalso
        have h3 := List.pairwise_iff_getElem.1 hND i j (by rw [List.length_map, Array.length_toList]; exact hi) (by rw [List.length_map, Array.length_toList]; exact hj) hij
        simp only [List.getElem_map, Array.getElem_toList] at h3
        exact h3 h4
      · exact absurd h4 h5
    · refine ⟨by rw [List.length_map, Array.length_toList]; exact hsz, by unfold maxLen; omega, fun p hp => hok p (hPL.subset hp), fun i p hi => ⟨_, rfl, fun j v hv => ?_⟩⟩
      rw [List.getElem?_map, Array.getElem?_toList] at hi
      obtain ⟨x, hx, rfl⟩ := Option.map_eq_some_iff.1 hi
      have hil : i < d'.size := (Array.getElem?_eq_some_iff.1 hx).1
      have h2 := HoldsK.cells hHw Cs.enc_len hil j v (by
        rw [getElem!_pos d' i hil, (Array.getElem?_eq_some_iff.1 hx).2]
        exact hv)
      rw [Nat.zero_add] at h2
      have e9 : (⟨g, 0, none⟩ : Addr).add (i * ptRec.k + j) = (⟨g, i * 33, none⟩ : Addr).add j := by
        rw [Addr.add_lit, Addr.add_lit, Nat.zero_add]
        rfl
      rw [e9]
      exact h2
    · rw [hw]
      exact sort_below hgB hgl
set_option maxHeartbeats 2000000 in
theorem collect_any {w w0 : World} (gf : Nat) (lb : Array Value) (eg : ∀ args w, (callFunc gf args).run Tryz.prog w = .ok (.enter gf args) w) (Kp : World → World → Prop) (hKt : ∀ {A B C : World}, Kp A B → Kp B C → Kp A C)
    (hKb : ∀ (W : World) (l : Nat) (o o' : Obj), w.heap.size ≤ l → W.heap[l]? = some o → o.isCells = false → o.isWalk = false → Kp W (W.putObj l o'))
    (hKo : ∀ W W' : World, KeepsOthers W W' → Below w.heap.size W W' → Kp W W') (KL : List Cs.Pt) (hN : KL.length ≤ 1000000000)
    (hseq : Iterates Fence.wide 4 Tryz.prog gf lb encPt Kp [] (RdPt KL.length) (fun s => s.Perm KL) w0) (hb0 : Below w0.heap.size w0 w) :
    Calls Tryz.prog 69 #[.func (.func gf) #[] lb] w fun e w' => ∃ v s, e = .returned v ∧ s.Perm KL ∧ OwnR ptRec 32 w.heap.size w' v s ∧ Below w.heap.size w w' := by
  have HA := Lib.hid (appendseq_any gf lb eg Kp hKt hKb hKo KL hN hseq hb0)
  clear hseq hKo hKb
  go_enter Tryz.func69, Tryz.ntmps69
  go_wp2_with (go_at_call 92; refine HA.out.mono ?_; rintro e w2 ⟨v, s, rfl, hp, ho, hb⟩)
  go_ret
  exact ⟨v, s, rfl, hp, ho, hb⟩
/-- what Points answers -/
def PtsPost (KL : List Cs.Pt) (w : World) (e : Ending) (w' : World) : Prop :=
  ∃ (a : Option Addr) (n q : Nat) (L : List Cs.Pt), e = .returned (.slice a n q) ∧ Recs ptRec w' a n L ∧ (n ≤ q ∧ (a = none → q = 0)) ∧ L.Pairwise Cs.Ahead ∧ L.Perm KL ∧ Below w.heap.size w w'
set_option maxHeartbeats 2000000 in
theorem sortedfunc_any {w : World} {mv : Option Nat} {M : Cs.Mp} (h : MapV w (.map mv) M) (hl : M.length ≤ 1000000000) (hk : Cs.Keys M) :
    Calls Tryz.prog 43 #[.func (.func 71) #[] #[.pointer (some ⟨w.heap.size, 0, none⟩)], .func (.func 45) #[] #[]] (w.alloc (.cells #[.map mv] 76)) (PtsPost (M.map (·.1)) w) := by
  obtain ⟨w1, hw1⟩ : ∃ x, x = w.alloc (.cells #[.map mv] 76) := ⟨_, rfl⟩
  have hB1 : Below w.heap.size w w1 := by rw [hw1]; exact (Below.refl _ _).alloc (Nat.le_refl _) _
  have hX1 : Has w1 w.heap.size 76 #[.map mv] := by rw [hw1]; exact Has.fresh _ _ _
  rw [← hw1]
  have hseq : Iterates Fence.wide 4 Tryz.prog 71 #[.pointer (some ⟨w.heap.size, 0, none⟩)] encPt KeepsWalks [] (RdPt (M.map (·.1)).length) (fun s => s.Perm (M.map (·.1))) w1 := by
    rw [List.length_map]
    rcases h with ⟨b, e, hm⟩ | ⟨e, rfl⟩
    · injection e with e
      subst e
      exact mkeys_iter 4 (by omega) w.heap.size b M w1 hX1 (hm.below hB1)
    · injection e with e
      subst e
      exact mkeys_none 4 (by omega) w.heap.size w1 hX1
  have HC := Lib.hid (collect_any 71 #[.pointer (some ⟨w.heap.size, 0, none⟩)] (enters_of Tryz.func71 (by kernel_rfl) rfl) KeepsWalks (fun h k => h.trans k)
    (fun W l o o' _ ho _ hw => KeepsWalks.putObj o' ho hw) (fun W W' hk _ => hk.walks) (M.map (·.1)) (by rw [List.length_map]; exact hl) hseq (Below.refl _ w1))
  have HN := Lib.hid (show (M.map (·.1)).Nodup ∧ (M.map (·.1)).length ≤ 1000000000 from ⟨hk, by rw [List.length_map]; exact hl⟩)
  have HB1 := Lib.hid hB1
  generalize M.map (·.1) = KL at HC HN ⊢
  clear h hl hk hw1 hX1 hseq hB1
  go_enter Tryz.func43, Tryz.ntmps43
  go_wp2_with (first
    | (go_at_call 70; refine (sortfunc_any HO.out.2.1 (by rw [HO.out.1.length_eq]; exact HN.out.2) (HO.out.1.nodup_iff.2 HN.out.1)).mono ?_; rintro e w3 ⟨rfl, L', hp3, hpw, ⟨a, n, q, rfl, hr, hq⟩, hb3⟩)
    | (go_at_call 69; refine HC.out.mono ?_; rintro e w2 ⟨v, s, rfl, hp, ho, hb2⟩; have HO := Lib.hid (And.intro hp (And.intro ho hb2)); clear hp ho hb2))
  go_ret
  exact ⟨a, n, q, L', rfl, hr, hq, hpw, hp3.trans HO.out.1, HB1.out.trans ((HO.out.2.2.trans hb3).mono HB1.out.size)⟩
set_option maxHeartbeats 4000000 in
theorem mkeys_any (mb : Option Nat) (w : World) : Calls Tryz.prog 44 #[.map mb] w fun e w' =>
    e = .returned (.func (.func 71) #[] #[.pointer (some ⟨w.heap.size, 0, none⟩)]) ∧ w.alloc (.cells #[.map mb] 76) = w' := by
  go_enter Tryz.func44, Tryz.ntmps44
  go_wp2
  go_ret
  exact ⟨rfl, rfl⟩
set_option maxHeartbeats 4000000 in
theorem ppoints_any {w : World} {v : Value} {F : Nat → Prop} {M : Cs.Mp} (h : SetN w v F M) (hl : M.length ≤ 1000000000) (hk : Cs.Keys M) :
    Calls Tryz.prog 15 #[v] w (PtsPost (M.map (·.1)) w) := by
  obtain ⟨m, hm, HA⟩ := all_any h
  have HS := Lib.hid (sortedfunc_any hm hl hk)
  clear h hm hl hk
  generalize M.map (·.1) = KL at HS ⊢
  go_enter Tryz.func15, Tryz.ntmps15
  go_wp2_with (first
    | (go_at_call 43; refine HS.out.mono ?_; rintro e w4 ⟨a, n, q, L, rfl, hr, hq, hpw, hp, hb4⟩)
    | (go_at_call 44; refine (mkeys_any m w).mono ?_; rintro e w3 ⟨rfl, rfl⟩)
    | (go_at_call 30; refine (HA _ (Below.refl _ _)).mono ?_; rintro e w2 ⟨rfl, rfl⟩))
  go_ret
  exact ⟨a, n, q, L, rfl, hr, hq, hpw, hp, hb4⟩
end Go.Proofs.YtagjolbpmhbifaaGreatDoor

/-! package coins: Back, Copy; the rest of what the premise asks (mkctm.py) -/
namespace Go.Proofs.YtagjolbpmhbifaaGreatDoor
open Go Go.RowKit Go.ChangeShapes Go.WideShapes
theorem und_tx (a b c : Option Addr) (n q m r k l : Nat) (f : Bool) (j : Nat) (v : Value) (h : ([.slice a n q, .slice b m r, .bool f] : List Value)[j]? = some v) : (#[.slice a n q, .slice b m r, .bool f, .slice c k l] : Array Value)[0 + j]? = some v := by
  rw [Nat.zero_add]
  match j, h with
  | 0, h => exact h
  | 1, h => exact h
  | 2, h => exact h
theorem Cs.backM_good {M : Cs.Mp} {id : List (BitVec 8)} {t : Tx.T} {sp : List Tx.Co} (hg : ∀ x, x ∈ M → Am.Good x.2.v) (hs : ∀ c, c ∈ sp → Am.Good c.v) : ∀ x, x ∈ Cs.backM M id t sp → Am.Good x.2.v := fun x hx => by
  rcases Cs.putAll_mem _ hx with h1 | h1
  · exact hg x (Cs.delAll_sub _ h1)
  · exact hs x.2 (List.of_mem_zip (a := x.1) (b := x.2) h1).2
theorem Cs.backM_len (M : Cs.Mp) (id : List (BitVec 8)) (t : Tx.T) (sp : List Tx.Co) : (Cs.backM M id t sp).length ≤ M.length + t.sp.length := by
  have h1 := Cs.putAll_len ((t.sp.map Cs.pt).zip sp) (Cs.delAll M ((Cs.ownL id t.co).map (·.1)))
  have h2 := Cs.delAll_len ((Cs.ownL id t.co).map (·.1)) M
  have h3 : ((t.sp.map Cs.pt).zip sp).length ≤ t.sp.length := by rw [List.length_zip, List.length_map]; omega
  unfold Cs.backM
  omega
set_option maxHeartbeats 4000000 in
theorem pcopyset_any {w : World} {g b : Nat} {M : Cs.Mp} (h : SetB w g b M) :
    Calls Tryz.prog 11 #[.pointer (some ⟨g, 0, none⟩)] w fun e w' => e = .returned (.pointer (some ⟨w.heap.size + 1, 0, none⟩)) ∧ SetB w' (w.heap.size + 1) w.heap.size M ∧ Below w.heap.size w w' := by
  have c0 : w.cell? ⟨g, 0, none⟩ = some (.map (some b)) := h.has.cell_at rfl
  obtain ⟨es, clock, hb, hrest⟩ := h.map
  have hC := AnyW.maps_Clone mapsClone b es clock w hb
  have hM : MapAt (w.alloc (.map es clock)) w.heap.size M := ⟨es, clock, (MapKept.heap_alloc w _).1, hrest⟩
  have HC := Lib.hid hC
  have HM := Lib.hid hM
  have hbd := fun (w : World) (n : Option Nat) => run_build (P := Tryz.prog) w 78 #[(0, .map n)] #[.map n] (by kernel_rfl)
  clear h hb hrest hC hM
  go_enter Tryz.func11, Tryz.ntmps11
  go_wp2_with (go_at_call 31; refine HC.out.mono ?_; rintro e w2 ⟨rfl, rfl⟩)
  go_ret
  exact ⟨by simp, ⟨Has.fresh_at _ _ _ (by simp), HM.out.below ((Below.refl _ _).alloc (Nat.le_refl _) _)⟩, ((Below.refl _ _).alloc (Nat.le_refl _) _).alloc (by simp) _⟩
set_option maxHeartbeats 4000000 in
theorem pcopyset_none (w : World) : Calls Tryz.prog 11 #[.pointer none] w fun e w' => e = .returned (.pointer none) ∧ w = w' := by
  go_enter Tryz.func11, Tryz.ntmps11
  go_wp2
  go_ret
  exact ⟨rfl, rfl⟩
set_option maxRecDepth 100000 in
set_option maxHeartbeats 8000000 in
theorem pback_any {w : World} {g bm : Nat} {M : Cs.Mp} (h : SetB w g bm M) (a : Option Addr) (n q : Nat) (b : Option Addr) (m r : Nat) (t : Tx.T) (c : Option Addr) (k l : Nat) (sp : List Tx.Co) (ht : TxAt w a n q b m r t) (hs : Tx.Small t) (hsp : Recs coRec w c k sp) (hK : KDg w) :
    Calls Tryz.prog 14 #[.pointer (some ⟨g, 0, none⟩), .agg #[.slice a n q, .slice b m r, .bool t.firm, .slice c k l]] w fun e w' => e = .returned (errn (Cs.backE M (Tx.idOf false t) t sp)) ∧ SetB w' g bm (if Cs.backE M (Tx.idOf false t) t sp = 0 then Cs.backM M (Tx.idOf false t) t sp else M) ∧ Moved (fun j => j = bm) w w' := by
  have hn6 : n ≤ 1000000000 := by have := hs.1; have := ht.sp.1; omega
  have hnx : n ≤ 9223372036854775807 := ht.sp.2.1
  have hkx : k ≤ 9223372036854775807 := hsp.2.1
  obtain ⟨W1, hW1⟩ : ∃ ww, ww = w.alloc (.cells #[.slice a n q, .slice b m r, .bool t.firm, .slice c k l] 50 ) := ⟨_, rfl⟩
  have hB1 : Below w.heap.size w W1 := by rw [hW1]; exact (Below.refl _ _).alloc (Nat.le_refl _) _
  have hX : Has W1 w.heap.size 50 #[.slice a n q, .slice b m r, .bool t.firm, .slice c k l] := by rw [hW1]; exact Has.fresh _ _ _
  obtain ⟨D, hD⟩ : ∃ D, D = Tx.idOf false t := ⟨_, rfl⟩
  obtain ⟨P, hP⟩ : ∃ P : List Cs.Pt, P = (Cs.ownL D t.co).map (·.1) := ⟨_, rfl⟩
  obtain ⟨z, hz⟩ : ∃ z, z = Cs.backE M D t sp := ⟨_, rfl⟩
  obtain ⟨o1, ho1⟩ : ∃ o, o = !(P.any fun s => !(Cs.look M s).isSome) := ⟨_, rfl⟩
  obtain ⟨o2, ho2⟩ : ∃ o, o = (t.sp.map Cs.pt).any fun s => (Cs.look M s).isSome := ⟨_, rfl⟩
  have HZ := Lib.hid (show z = if k = n then if o1 = true then if o2 = true then 6 else 0 else 4 else 1 by
    rw [hz, Cs.backE, ho1, ho2, hP, hsp.1, ht.sp.1]
    have e : (!(((Cs.ownL D t.co).map (·.1)).any fun s => !(Cs.look M s).isSome)) = (Cs.ownL D t.co).all fun x => (Cs.look M x.1).isSome := by
      rw [List.any_map, List.not_any_eq_all_not]
      simp
    rw [e])
  have HBM := Lib.hid (show Cs.putAll (Cs.delAll M P) ((t.sp.map Cs.pt).zip sp) = Cs.backM M D t sp by rw [hP]; rfl)
  have HPM := Lib.hid (show P.length = m by rw [hP, List.length_map, Cs.ownL, List.length_mapIdx, ht.co.1])
  have HPL := Lib.hid (show (t.sp.map Cs.pt).length = n by rw [List.length_map, ht.sp.1])
  have HT := Lib.hid (ht.below hB1)
  have HS := Lib.hid (h.below hB1)
  have HSP := Lib.hid (hsp.below hB1)
  have HX := Lib.hid hX
  have HB1 := Lib.hid hB1
  have HGB := Lib.hid (show bm < w.heap.size from h.map.lt)
  have HKK := Lib.hid (hK.below hB1)
  have HSM := Lib.hid hs
  have hSN : ∀ w', Below W1.heap.size W1 w' → SetN w' (.pointer (some ⟨g, 0, none⟩)) (fun j => j = g ∨ j = bm) M := fun w' hb => .inl ⟨g, bm, rfl, HS.out.below hb, rfl⟩
  have HAL := Lib.hid (show ∀ w' oa oq, Below W1.heap.size W1 w' → Recs ptRec w' oa m P → Calls Tryz.prog 32 #[.pointer (some ⟨g, 0, none⟩), .slice oa m oq] w' fun e w2 => e = .returned (.bool o1) ∧ Below w'.heap.size w' w2 from fun w' oa oq hb hr => ho1 ▸ phasall_any (hSN w' hb) oa m oq P hr)
  have HAN := Lib.hid (show ∀ w' pa pq, Below W1.heap.size W1 w' → Recs ptRec w' pa n (t.sp.map Cs.pt) → Calls Tryz.prog 40 #[.pointer (some ⟨g, 0, none⟩), .slice pa n pq] w' fun e w2 => e = .returned (.bool o2) ∧ Below w'.heap.size w' w2 from fun w' pa pq hb hr => ho2 ▸ phasany_any (hSN w' hb) pa n pq _ hr)
  have HW := Lib.hid hW1
  rw [← hD, ← hz]
  have HD := Lib.hid hD
  have HN := Lib.hid hn6
  have HP := Lib.hid hP
  clear hW1 hX h ht hs hsp hK hD hP hz ho1 ho2 hB1 hSN hn6
  go_enter Tryz.func14, Tryz.ntmps14
  go_upto_region 3 with fail
  rw [← HW.out]
  obtain ⟨ws, hws⟩ : ∃ x, x = W1.drew := ⟨_, rfl⟩
  have hBs : Below W1.heap.size W1 ws := by rw [hws]; exact (Below.refl _ _).drew
  have hXs := HX.out.under hBs HX.out.lt
  have lX := fun (wq : World) (hSw : Held ws wq) => has_mid (t := 39 ) (hXs.under hSw.below hXs.lt) 0 [.slice a n q, .slice b m r, .bool t.firm] (und_tx a b c n q m r k l t.firm) Tryz.underlying39 rfl (by kernel_rfl)
  have HSY := Lib.hid (show ∀ w', Below ws.heap.size ws w' → Calls Tryz.prog 33 #[txv a n q b m r t.firm] w' fun e w2 => ∃ v, e = .returned v ∧ OwnR ptRec 32 w'.heap.size w2 v (t.sp.map Cs.pt) ∧ Below w'.heap.size w' w2 from fun w' hb => spby_any a n q b m r t t.firm w' ((HT.out.below hBs).below hb) HN.out)
  have HOW := Lib.hid (show ∀ w', Below ws.heap.size ws w' → Calls Tryz.prog 39 #[txv a n q b m r t.firm] w' fun e w2 => ∃ v, e = .returned v ∧ OwnR ptRec 32 w'.heap.size w2 v P ∧ Below w'.heap.size w' w2 from fun w' hb => by rw [HP.out, HD.out]; exact own_any a n q b m r t w' ((HT.out.below hBs).below hb) HSM.out ((HKK.out.below hBs).below hb))
  refine wp_region_held_drew (S := Held ws) (by kernel_rfl) (by rw [hws]; exact Held.refl _) (fun hHeld => ?_)
  rw [← hws] at hHeld ⊢
  clear hws
  refine take_at (v := ?_) 0 10 rfl rfl (by kernel_rfl) (by kernel_rfl) (by kernel_rfl) (fun _ _ _ h => h) hHeld (Or.inl ⟨by rfl, ?_⟩) rfl ?_
  rotate_left
  · intro wq hSw
    go_simp
    try with_reducible rfl
  simp only [List.set_cons_zero, List.set_cons_succ]
  refine take_at 1 11 rfl rfl (by kernel_rfl) (by kernel_rfl) (by kernel_rfl) (fun _ _ _ h => h) hHeld (yieldsIf_load_agg (by rfl) 39 (.tmp 10) rfl _ _ (by rfl) (fun wq hSw => lX wq hSw)) rfl ?_
  simp only [List.set_cons_zero, List.set_cons_succ]
  refine take_at (v := ?_) 3 13 rfl rfl (by kernel_rfl) (by kernel_rfl) (by kernel_rfl) (fun _ _ _ h => h) hHeld (Or.inl ⟨by rfl, ?_⟩) rfl ?_
  rotate_left
  · intro wq hSw
    go_simp
    try with_reducible rfl
  simp only [List.set_cons_zero, List.set_cons_succ]
  refine take_at 4 14 rfl rfl (by kernel_rfl) (by kernel_rfl) (by kernel_rfl) (fun _ _ _ h => h) hHeld (yieldsIf_load_agg (by rfl) 39 (.tmp 13) rfl _ _ (by rfl) (fun wq hSw => lX wq hSw)) rfl ?_
  simp only [List.set_cons_zero, List.set_cons_succ]
  refine wpAnyH_ready (rs := [2]) (by kernel_rfl) (by simp) ?_
  refine AllReadyH.cons rfl (fun K hK => ?_) AllReadyH.nil
  go_simp
  go_at_call 33
  refine (HSY.out ws (Below.refl _ _)).mono ?_
  rintro e w2 ⟨v2, rfl, ho2, hb2⟩
  obtain ⟨pa, pc, rfl, hpc, h0p, _, hrp⟩ := ho2.shape HPL.out
  refine hK.out _ _ (Held.of hb2) (fun _ => ?_)
  clear hK K
  try simp only [Act.put, List.setIfInBounds_toArray, List.set_cons_zero, List.set_cons_succ]
  replace hHeld := Held.of hb2
  refine wpAnyH_ready (rs := [5]) (by kernel_rfl) (by simp) ?_
  refine AllReadyH.cons rfl (fun K hK => ?_) AllReadyH.nil
  go_simp
  go_at_call 39
  refine (HOW.out w2 hb2).mono ?_
  rintro e w3 ⟨v3, rfl, ho3, hb3⟩
  obtain ⟨oa, oq, rfl, hoq, h0o, _, hro⟩ := ho3.shape HPM.out
  have hb23 : Below ws.heap.size ws w3 := hb2.trans (hb3.mono hb2.size)
  refine hK.out _ _ (Held.of hb23) (fun _ => ?_)
  clear hK K
  try simp only [Act.put, List.setIfInBounds_toArray, List.set_cons_zero, List.set_cons_succ]
  replace hHeld := Held.of hb23
  refine take_at (v := ?_) 6 5 rfl rfl (by kernel_rfl) (by kernel_rfl) (by kernel_rfl) (fun _ _ _ h => h) hHeld (Or.inl ⟨by rfl, ?_⟩) rfl ?_
  rotate_left
  · intro wq hSw
    go_simp
    try with_reducible rfl
  simp only [List.set_cons_zero, List.set_cons_succ]
  refine take_at (v := ?_) 7 6 rfl rfl (by kernel_rfl) (by kernel_rfl) (by kernel_rfl) (fun _ _ _ h => h) hHeld (Or.inl ⟨by rfl, ?_⟩) rfl ?_
  rotate_left
  · intro wq hSw
    go_simp
    try with_reducible rfl
  simp only [List.set_cons_zero, List.set_cons_succ]
  refine wpAnyH_done (by kernel_rfl) ?_ _
  have hT3 : Below W1.heap.size W1 w3 := hBs.trans (hb23.mono hBs.size)
  have hX3 := HX.out.under hT3 HX.out.lt
  have c3 : w3.cell? ⟨w.heap.size, 3, none⟩ = some (.slice c k l) := hX3.cell_at rfl
  have hrp3 := hrp.below hb3
  have HQ := Lib.hid (And.intro hrp3 hro)
  clear lX hrp hro hrp3 ho2 ho3 hb2 hb3
  by_cases hkn : k = n
  · have HKN := Lib.hid hkn
    have hkni : ((k : Int) != (n : Int)) = false := by simp [hkn]
    have hkne : (k : Int) = (n : Int) := by omega
    rw [if_pos hkn] at HZ
    clear hkn
    cases o1
    · have hE : z = 4 := HZ.out
      go_wp2_with (go_at_call 32; refine (HAL.out w3 oa oq hT3 HQ.out.2).mono ?_; rintro e w4 ⟨rfl, hb4⟩)
      go_ret
      have hT4 := hT3.trans (hb4.mono hT3.size)
      exact ⟨rfl, HS.out.below hT4, Moved.of_below (HB1.out.trans (hT4.mono HB1.out.size))⟩
    · cases o2
      · have hE : z = 0 := HZ.out
        go_upto_region 10 with (first
          | (go_at_call 40; refine (HAN.out w4 pa pc (hT3.trans (hb4.mono hT3.size)) (HQ.out.1.below hb4)).mono ?_; rintro e w5 ⟨rfl, hb5⟩)
          | (go_at_call 32; refine (HAL.out w3 oa oq hT3 HQ.out.2).mono ?_; rintro e w4 ⟨rfl, hb4⟩))
        have hb35 : Below w3.heap.size w3 w5 := hb4.trans (hb5.mono hb4.size)
        have hTy := hT3.trans (hb35.mono hT3.size)
        have hXy := HX.out.under hTy HX.out.lt
        have HSy := Lib.hid (HS.out.below hTy)
        have HR5 := Lib.hid (And.intro (HQ.out.1.below hb35) (And.intro (HQ.out.2.below hb35) (HSP.out.below hTy)))
        clear c3
        have c3 : w5.cell? ⟨w.heap.size, 3, none⟩ = some (.slice c k l) := hXy.cell_at rfl
        go_wp2_with (go_at_call 42; refine (pexch_any HSy.out oa m oq P HR5.out.2.1 pa n pc _ HR5.out.1 c k l sp HR5.out.2.2 HKN.out.symm).mono ?_; rintro e wx ⟨rfl, hSx, hmx⟩)
        go_ret
        exact ⟨rfl, HBM.out ▸ hSx, (Moved.of_below (HB1.out.trans (hTy.mono HB1.out.size))).trans hmx (fun k hk => .inl hk)⟩
      · have hE : z = 6 := HZ.out
        go_wp2_with (first
          | (go_at_call 40; refine (HAN.out w4 pa pc (hT3.trans (hb4.mono hT3.size)) (HQ.out.1.below hb4)).mono ?_; rintro e w5 ⟨rfl, hb5⟩)
          | (go_at_call 32; refine (HAL.out w3 oa oq hT3 HQ.out.2).mono ?_; rintro e w4 ⟨rfl, hb4⟩))
        go_ret
        have hT5 := hT3.trans ((hb4.trans (hb5.mono hb4.size)).mono hT3.size)
        exact ⟨rfl, HS.out.below hT5, Moved.of_below (HB1.out.trans (hT5.mono HB1.out.size))⟩
  · have hkni : ((k : Int) != (n : Int)) = true := by simp; omega
    have hE : z = 1 := HZ.out.trans (if_neg hkn)
    go_wp2
    go_ret
    exact ⟨rfl, HS.out.below hT3, Moved.of_below (HB1.out.trans (hT3.mono HB1.out.size))⟩
theorem coinsOk2 : CoinsOk2 SetG where
  toCoinsOk := coinsOk
  get := fun h p hp => pget_any (.inl h.1) p hp.1
  points := fun h hl => ppoints_any (.inl h.1) hl h.1.fits.1
  back := fun {w v F M} h a n q b m r t c k l sp ht hs hsp _ hg hK => by
    obtain ⟨⟨g, bm, rfl, hS, rfl⟩, hgd⟩ := h
    have hk := (SetAt.fits ⟨g, bm, rfl, hS, rfl⟩ : Cs.Keys M ∧ _).1
    refine (pback_any hS a n q b m r t c k l sp ht hs hsp hK).mono fun e w' ⟨he, hS', hm⟩ => ⟨fun j => j = g ∨ j = bm, _, he, ⟨⟨g, bm, rfl, hS', rfl⟩, ?_⟩, ?_, ?_, fun j hj => .inl hj, hm.mono fun k hk => .inr hk, ?_⟩
    · by_cases h0 : Cs.backE M (Tx.idOf false t) t sp = 0
      · rw [if_pos h0]; exact Cs.backM_good hgd hg
      · rw [if_neg h0]; exact hgd
    · intro h0
      rw [if_pos h0]
      exact Cs.backM_is hk _ _ _
    · intro h0 q
      rw [if_neg h0]
    · by_cases h0 : Cs.backE M (Tx.idOf false t) t sp = 0
      · rw [if_pos h0]; exact Cs.backM_len _ _ _ _
      · rw [if_neg h0]; omega
  copy := fun {w v F M} h => by
    obtain ⟨⟨g, bm, rfl, hS, rfl⟩, hgd⟩ := h
    exact (pcopyset_any hS).mono fun e w' ⟨he, hS', hb⟩ => ⟨_, fun j => j = w.heap.size + 1 ∨ j = w.heap.size, M, he, ⟨⟨_, _, rfl, hS', rfl⟩, hgd⟩, fun _ => rfl, fun j hj => by omega, hb, rfl⟩
end Go.Proofs.YtagjolbpmhbifaaGreatDoor
