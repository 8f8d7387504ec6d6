/- package coins: a range over a map's keys; slices.AppendSeq, slices.Collect of points (mkctk.py) · package coins: the library's sort of points by a function, its copy of a map, laid (mklay.py) · the product of two words in two words: math/bits.Mul64; cmp.Compare, cmp.Or · package coins: the order of points; compare (mkctn.py) -/
import Derived.Test.YtdfplenniamnoaaGreatDoorJ22
import Derived.Test.YtdfplenniamnoaaGreatDoorJ17
import Derived.Shelf.SlSortCmp.WholeK
import Derived.Shelf.SlMaps.Clone
import Derived.Test.YtdfplenniamnoaaGreatDoorJ06
import Derived.Test.YtdfplenniamnoaaGreatDoorJ07
import Derived.Test.YtdfplenniamnoaaGreatDoorRows
import Derived.Test.YtdfplenniamnoaaGreatDoorJ01
import Derived.Lib.Hide
import Derived.IntWalk
import Derived.OpenShut
import Derived.ProofKit
import Derived.Test.YtdfplenniamnoaaGreatDoorJ18
import Derived.Test.YtdfplenniamnoaaGreatDoorJ11
/-! package coins: a range over a map's keys; slices.AppendSeq, slices.Collect of points (mkctk.py) -/
namespace Go.Proofs.YtdfplenniamnoaaGreatDoor
open Go Go.RowKit Go.ChangeShapes Go.WideShapes
attribute [local go_sem] Oper.semAt_some
set_option maxRecDepth 100000 in
set_option maxHeartbeats 4000000 in
theorem mkeys_iter (m : Nat) (hm : 1 ≤ m) (Bm b : Nat) (M : Cs.Mp) (w : World) (hB : Has w Bm 111 #[.map (some b)]) (h : MapAt w b M) :
    Iterates Fence.wide m Tryz.prog 130 #[.pointer (some ⟨Bm, 0, none⟩)] encPt KeepsWalks [] (RdPt M.length) (fun s => s.Perm (M.map (·.1))) w := by
  intro l J Jx W hW hJ hJx hY h0
  have c0 : W.cell? ⟨Bm, 0, none⟩ = some (.map (some b)) := (hB.under hW hB.lt).cell_at rfl
  have hMW : MapAt W b M := h.below hW
  have hok : ∀ x, x ∈ M → Cs.ptOk x.1 ∧ Tx.CoOk x.2 := by
    obtain ⟨es, clock, _, _, _, h4, _⟩ := h
    exact h4
  refine callsIn_of_wp Tryz.func130 rfl trivial ?_ rfl
  simp only [Tryz.ntmps130, List.size_toArray, List.length_cons, List.length_nil, Nat.reduceAdd, Nat.reduceSub, Array.replicate_succ, Array.replicate_zero, List.push_toArray, List.append_toArray, List.nil_append, List.cons_append]
  gi_wp2_with (first
    | (gi_at_range; refine wpListIn_range_pt rfl (.tmp 4) rfl rfl hMW ?_; intro w1 hrg1 hb1)
    | gi_in)
  go_frame
  gi_loopw [3] (fun _ wr => ∃ (A left : Cs.Mp), RangeAt wr b W.heap.size M left ∧ (A ++ left).Perm M ∧ J (A.map (·.1)) wr) (fun _ wr => wr.rangeLeft b W.heap.size)
  case atStart => exact ⟨[], M, hrg1, List.Perm.refl _, hJ [] W w1 none h0 ⟨hb1.os, hb1.tape, hb1.output, hb1.size, fun k hk _ => hb1.block k hk⟩ (fun r e => by cases e)⟩
  case round =>
    obtain ⟨A, left, hrg, hperm, hJs⟩ := hrel
    clear hrg1 hb1 h0 c0
    gi_wp2_with (first
      | (gi_at_next; refine wpListIn_next_pt rfl (.tmp 5) rfl rfl hrg ?_ ?_)
      | gi_in)
    · intro hl
      gi_wp2
      go_end0
      refine ⟨⟨_, rfl⟩, .inl ⟨_, ?_, hJs⟩⟩
      rw [hl, List.append_nil] at hperm
      exact hperm.map _
    · intro l1 l2 ⟨x⟩ w2 hl hrg2 hm2 hen
      dsimp only at hl hen ⊢
      rw [hl] at hperm
      have hxM : x ∈ M := hperm.subset (by simp)
      have hxo := (hok x hxM).1
      have hxl := hxo.1
      have hb3 : Below w2.heap.size w2 ((w2.alloc (.cells zPt 36)).setCells w2.heap.size 0 (ptCells x.1.1 x.1.2).toArray.toList) := below_setAll (Nat.le_refl _) _ 0 ((Below.refl _ _).alloc (Nat.le_refl _) _)
      have hA3 : Has ((w2.alloc (.cells zPt 36)).setCells w2.heap.size 0 (ptCells x.1.1 x.1.2).toArray.toList) w2.heap.size 36 (ptCells x.1.1 x.1.2).toArray := (Has.fresh w2 _ _).whole_cs (by rw [List.size_toArray, ptCells_len hxl]; rfl)
      have lA := hA3.load_agg (P := Tryz.prog) (t := 36) Tryz.underlying36 rfl (size_pt hxl)
      have hJ3 := hJ _ wr _ (some W.heap.size) hJs ⟨hb3.os.trans hm2.os, hb3.tape.trans hm2.tape, hb3.output.trans hm2.output, Nat.le_trans hm2.size hb3.size, fun k hk hne => (hb3.block k (Nat.lt_of_lt_of_le hk hm2.size)).trans (hm2.block k hk (fun e => hne (by rw [e])))⟩ (fun r e => by cases e; exact ⟨Nat.le_refl _, hrg.iter⟩)
      have hlt : (A.map (·.1)).length < M.length := by
        have e := hperm.length_eq
        simp only [List.length_append, List.length_cons, List.length_map] at e ⊢
        omega
      obtain ⟨fn, tmps, assign, body, hy, hR⟩ := hY _ x.1 _ _ hJ3 ⟨rfl, hxo, hlt⟩
      dsimp only [encPt] at hy
      have HR := Lib.hid hR
      have HL := Lib.hid hl
      have HP := Lib.hid hperm
      clear hl hperm hR hlt hxo hxM
      gi_wp2_with (first
        | (refine wpListIn_store_mid rfl 36 (.tmp 3) (.tmp 9) rfl w2.heap.size 0 (ptCells x.1.1 x.1.2).toArray rfl rfl ((Has.fresh w2 36 zPt).there 0 (ptCells x.1.1 x.1.2).toArray.size (by rw [List.size_toArray, ptCells_len hxl]; decide)) (size_pt hxl) (ptRec.all_one x.1) ?_)
        | (refine wpListIn_load_run rfl 36 (.tmp 3) rfl _ _ rfl lA ?_)
        | gi_in)
      refine HR.out.mono ?_
      rintro e W3 (⟨rfl, hJ3, hk3⟩ | ⟨rfl, hJx3⟩)
      · gi_wp2
        have hrg3 := (hrg2.below hb3).walks hk3
        have hP2 := perm_next HP.out
        have hl2 : (l1 ++ l2).length < left.length := by rw [HL.out]; simp
        go_roundw
        case rel => exact ⟨A ++ [x], l1 ++ l2, hrg3, hP2, by rw [List.map_append]; exact hJ3⟩
        case measure => rw [hrg3.left_eq, hrg.left_eq]; exact hl2
      · gi_wp2
        refine bodyPost_ret (results_none rfl _ _ _) rfl ?_
        exact ⟨⟨_, rfl⟩, .inr ⟨_, hJx3⟩⟩
set_option maxRecDepth 100000 in
set_option maxHeartbeats 4000000 in
theorem mkeys_none (m : Nat) (_ : 1 ≤ m) (Bm : Nat) (w : World) (hB : Has w Bm 111 #[.map none]) :
    Iterates Fence.wide m Tryz.prog 130 #[.pointer (some ⟨Bm, 0, none⟩)] encPt KeepsWalks [] (RdPt 0) (fun s => s.Perm []) w := by
  intro l J Jx W hW hJ hJx hY h0
  have c0 : W.cell? ⟨Bm, 0, none⟩ = some (.map none) := (hB.under hW hB.lt).cell_at rfl
  refine callsIn_of_wp Tryz.func130 rfl trivial ?_ rfl
  simp only [Tryz.ntmps130, List.size_toArray, List.length_cons, List.length_nil, Nat.reduceAdd, Nat.reduceSub, Array.replicate_succ, Array.replicate_zero, List.push_toArray, List.append_toArray, List.nil_append, List.cons_append]
  have hrg := run_range_nilMap (P := Tryz.prog) W 111 _ _ Tryz.underlying111
  have hnx : ∀ ty, (Instr.next (.pointer (some ⟨W.heap.size, 0, none⟩)) false ty).run Tryz.prog (W.alloc (.mapIter none 0 #[] 0)) = _ := fun ty => run_next_nilMap _ ty 0 0 #[]
  gi_wp2
  refine wpIn_loop_rounds 1 ?_
  rw [roundsIn_succ]
  gi_wp2
  go_end0
  exact ⟨⟨_, rfl⟩, .inl ⟨[], List.Perm.refl _, hJ [] W _ none h0 (World.grownBy_alloc W _ none) (fun r e => by cases e)⟩⟩
theorem wpListIn_build_row {F : Fence} {n : Nat} {P : Program} {w : World} {ops : Array Oper} {rest : List Oper} {o : Oper} {a : Act} {Q : Exit → Act → World → Prop} (hgd : o.guard = none) (x : Operand) (t : TypeId) (ho : o.op = .buildSlice t 1 #[(0, x)])
    (T : TypeId) {z : Array Value} {k by_ : Nat} (ht : P.underlying t = some (.slice T)) (hi : (P.info? T).map (fun i => (i.zero, i.size, i.bytes)) = some (some (.agg z), k, by_)) (hk : 0 < k) (hk2 : k ≤ 16777216) (cs : Array Value) (hc : cs.size = k) (hx : a.eval x = .agg cs)
    (h : wpListIn F n P ops Q rest (a.put o.dst (.slice (some ⟨w.heap.size, 0, none⟩) 1 1)) (w.alloc (.cells cs T))) : wpListIn F n P ops Q (o :: rest) a w := by
  refine wpListIn_plain hgd fun K' hK' => ?_
  have hr := run_build_row (P := P) ht hi hk hk2 cs hc w
  unfold Oper.wpIn
  refine ⟨by simp [Oper.about, ho], ?_⟩
  rw [Oper.semAt_plain F _ _ (by rw [ho]; intro c hc; cases hc)]
  simp only [execOp, ho, List.map_toArray, List.map_cons, List.map_nil, hx, Sem.run_bind, Sem.run_pure, Result.andThen_ok, hr]
  exact hK' _ _ h
theorem wpListIn_append_recs {α : Type} {R : Rec α} {F : Fence} {n : Nat} {P : Program} {w : World} {ops : Array Oper} {rest : List Oper} {o : Oper} {a : Act} {Q : Exit → Act → World → Prop} (hgd : o.guard = none) (s x : Operand) (t : TypeId)
    (ho : o.op = .call { callee := .builtin .append, args := #[s, x], argTypes := #[t, t] })
    (T : TypeId) (ht : P.underlying t = some (.slice T)) {z : Value} {by_ : Nat} (hinfo : (P.info? T).map (fun i => (i.zero, i.size, i.bytes)) = some (some z, R.k, by_)) (hzk : z.cells.size = R.k) (hby : by_ ≤ 128)
    (B : Nat) (v : Value) (L : List α) (hs : a.eval s = v) (hown : OwnR R T B w v L) (ad : Addr) (m c : Nat) (M : List α) (hx : a.eval x = .slice (some ad) m c) (hw : Recs R w (some ad) m M)
    (h63 : L.length + m ≤ 1099511627776) (hbase : B ≤ w.heap.size)
    (h : ∀ v' w', OwnR R T B w' v' (L ++ M) → w.grownBy w' v.ownBlock → wpListIn F n P ops Q rest (a.put o.dst v') w') : wpListIn F n P ops Q (o :: rest) a w := by
  obtain ⟨i0, hi, hz0, hz1, hz2⟩ := info_parts hinfo
  have hf := hw.flat
  obtain ⟨hM, hm, hall, hcell⟩ := hw
  have hbb : (L.length + m) * by_ ≤ 140737488355328 := Nat.le_trans (Nat.mul_le_mul h63 hby) (by omega)
  refine wpListIn_append_own w hgd s x t ho B T i0 z R.k by_ ht hi hz0 hz1 hz2 hzk R.pos v _ _ hs hown.2 ad m c (R.row M) hx (by rw [R.row_len hall, hM]) hf (R.row_one _) (by unfold maxLen; omega) hbb hbase ?_
  intro v' w' h1 h2 _
  exact h v' w' (OwnR.all hown.1 hall hM h1) h2
theorem ownr_set {α : Type} {R : Rec α} {T T' : TypeId} {B g : Nat} {w : World} {cs : Array Value} {v : Value} {L : List α} (ho : OwnR R T B w v L) (h : Has w g T' cs) (hT : T' ≠ T) (i : Nat) (u : Value) : OwnR R T B (w.setCell ⟨g, i, none⟩ u) v L :=
  ho.moved (F := fun k => k = g) (Moved.put (F := fun k => k = g) (Moved.refl _ _) (.inl rfl) i u) (fun k hk e => by
    subst e
    obtain ⟨cs', h'⟩ := ownr_block ho hk
    exact Has.ne_type h h' hT rfl)
set_option maxRecDepth 100000 in
set_option maxHeartbeats 8000000 in
theorem appendseq_any {w w0 : World} (gf : Nat) (lb : Array Value) (eg : ∀ args w, (callFunc gf args).run Tryz.prog w = .ok (.enter gf args) w) (Kp : World → World → Prop) (hKt : ∀ {A B C : World}, Kp A B → Kp B C → Kp A C)
    (hKb : ∀ (W : World) (l : Nat) (o o' : Obj), w.heap.size ≤ l → W.heap[l]? = some o → o.isCells = false → o.isWalk = false → Kp W (W.putObj l o'))
    (hKo : ∀ W W' : World, KeepsOthers W W' → Below w.heap.size W W' → Kp W W') (KL : List Cs.Pt) (hN : KL.length ≤ 1000000000)
    (hseq : Iterates Fence.wide 4 Tryz.prog gf lb encPt Kp [] (RdPt KL.length) (fun s => s.Perm KL) w0) (hb0 : Below w0.heap.size w0 w) :
    Calls Tryz.prog 153 #[.slice none 0 0, .func (.func gf) #[] lb] w fun e w' => ∃ v s, e = .returned v ∧ s.Perm KL ∧ OwnR ptRec 36 w.heap.size w' v s ∧ Below w.heap.size w w' := by
  have HN := Lib.hid hN
  have HKO := Lib.hid hKo
  have HKB := Lib.hid hKb
  clear hN hKo hKb
  apply calls_wide7
  refine callsIn_of_wp_marks Tryz.func153 rfl trivial ?_ rfl
  simp only [Tryz.ntmps153, List.size_toArray, List.length_cons, List.length_nil, Nat.reduceAdd, Nat.reduceSub, Array.replicate_succ, Array.replicate_zero, List.push_toArray, List.append_toArray, List.nil_append, List.cons_append]
  refine wpIn_wide.2 ?_
  go_wp2
  obtain ⟨w1, hw1⟩ : ∃ x, x = w.alloc (.cells #[.slice none 0 0] 65) := ⟨_, rfl⟩
  rw [← hw1]
  have hB1 : Below w.heap.size w w1 := by rw [hw1]; exact (Below.refl _ _).alloc (Nat.le_refl _) _
  have hX1 : Has w1 w.heap.size 65 #[.slice none 0 0] := by rw [hw1]; exact Has.fresh _ _ _
  have hs1 : w1.heap.size = w.heap.size + 1 := by rw [hw1]; simp
  have HS := Lib.hid hs1
  clear hw1 hs1
  refine (wpIn_wide (n := 5)).1 ?_
  refine wpIn_range_made (F := Fence.wide) rfl (by omega) (gf := gf) (lb := lb) rfl trivial eg hseq (hb0.trans (hB1.mono hb0.size)) (fun _ => rfl) hKt
    (fun W l o o' hl ho hc hw => HKB.out W l o o' (by have := HS.out; omega) ho hc hw) (fun W W' hs hb => HKO.out W W' (KeepsOthers.of_below hb) (hb.mono (by have := HS.out; omega))) (fun x s' s W W' row h hg hr => h)
    (fun s W => Below w.heap.size w W ∧ ∃ v, Has W w.heap.size 65 #[v] ∧ OwnR ptRec 36 w.heap.size W v s)
    (fun _ _ _ => False)
    (fun s W W' row h hg hr => ⟨h.1.grown hg h.1.size (fun k e => by have := (hr k e).1; have := HS.out; omega), by
      obtain ⟨v, h1, h2⟩ := h.2
      exact ⟨v, h1.kept hg (fun r e => (hr r e).2), h2.1, own_kept h2.2 hg (fun r e => (hr r e).2)⟩⟩)
    (fun _ _ _ _ _ h _ _ => h) ⟨hB1, _, hX1, OwnR.nil _ _ _ _⟩
    (fun x a' W => x.1.length = 32 ∧ ∃ g, a' = { tmps := #[.slice none 0 0, .func (.func gf) #[] lb, .pointer (some ⟨w.heap.size, 0, none⟩), undef, .slice none 0 0, .pointer (some ⟨g, 0, none⟩), .func (.func gf) #[] lb, .agg (ptCells x.1 x.2).toArray, undef, undef, undef, undef, undef], defers := [] } ∧ Has W g 36 (ptCells x.1 x.2).toArray)
    (fun x a' s W W' row h hg hr => by
      obtain ⟨hl, g, h1, h2⟩ := h
      exact ⟨hl, g, h1, h2.kept hg (fun r e => (hr r e).2)⟩)
    ?assign ?body ?done ?stop
  case assign =>
    intro l x W K hsz hx hK
    obtain ⟨_, _, _, hxo, _⟩ := hx
    have hxl := hxo.1
    dsimp only [encPt]
    gi_wp2_with (first
      | (refine wpListIn_store_mid rfl 36 (.tmp 5) (.tmp 7) rfl W.heap.size 0 (ptCells x.1 x.2).toArray rfl rfl ((Has.fresh W 36 zPt).there 0 (ptCells x.1 x.2).toArray.size (by rw [List.size_toArray, ptCells_len hxl]; decide)) (size_pt hxl) (ptRec.all_one x) ?_)
      | gi_in)
    exact hK _ _ (below_setAll (Nat.le_refl _) _ 0 ((Below.refl _ _).alloc (Nat.le_refl _) _)) ⟨hxl, _, rfl, (Has.fresh W _ zPt).whole_cs (cs2 := (ptCells x.1 x.2).toArray) (by rw [List.size_toArray, ptCells_len hxl]; rfl)⟩
  case stop => exact fun _ _ _ _ _ h => h.elim
  case done =>
    rintro D s W hD hs ⟨hbW, v, hNW, hoW⟩ hK1
    have cN : W.cell? ⟨w.heap.size, 0, none⟩ = some v := hNW.cell_at rfl
    have HO := Lib.hid (And.intro hoW (And.intro hbW hD))
    have HP := Lib.hid hs
    clear hs hoW hNW hbW hD
    go_wp2
    refine leaves_tmp rfl rfl hK1 ⟨v, s, rfl, HP.out, ⟨HO.out.1.1, own_kept HO.out.1.2 (grownBy_putObj' W D _) (fun r e => by cases e; exact ⟨_, hK1, rfl⟩)⟩, below_put_at HO.out.2.1 HO.out.2.1.size (by have := HS.out; have := HO.out.2.2; omega) _⟩
  case body =>
    rintro lp s x s' a' W ⟨hbW, v, hNW, hoW⟩ ⟨rfl, hxo, hsl⟩ hsz ⟨hxl, g, rfl, hGW⟩
    have cN : W.cell? ⟨w.heap.size, 0, none⟩ = some v := hNW.cell_at rfl
    have lP := hGW.load_agg (P := Tryz.prog) (t := 36) Tryz.underlying36 rfl (size_pt hxl)
    have hbA : Below W.heap.size W (W.alloc (.cells (ptCells x.1 x.2).toArray 36)) := (Below.refl _ _).alloc (Nat.le_refl _) _
    have hfr : Recs ptRec (W.alloc (.cells (ptCells x.1 x.2).toArray 36)) (some ⟨W.heap.size, 0, none⟩) 1 [x] := pt_fresh hxo
    have hoA := hoW.below hbA
    have hNA : Has (W.alloc (.cells (ptCells x.1 x.2).toArray 36)) w.heap.size 65 #[v] := hNW.past _
    have HLN := Lib.hid (show s.length < 1000000000 by have := HN.out; omega)
    have HW := Lib.hid hbW
    clear hxo hsl hGW
    gi_wp2_with (first
      | (refine wpListIn_append_recs (R := ptRec) rfl (.tmp 8) (.tmp 10) 65 rfl 36 Tryz.underlying65 info_pt (by kernel_rfl) (by decide) w.heap.size v s rfl hoA ⟨W.heap.size, 0, none⟩ 1 1 [x] rfl hfr (by have := HLN.out; omega) (by have := HW.out.size; simp; omega) ?_; intro v' w6 ho' hg'; have h6 := has_own hNA hoA (by decide) hg'; have c6 : w6.cell? ⟨w.heap.size, 0, none⟩ = some v := h6.cell_at rfl; obtain ⟨k, hk⟩ : ∃ k, k = (s ++ [x]).length := ⟨_, rfl⟩; obtain ⟨va, vc, rfl, hvc, h0v, _, hnu⟩ := ho'.shape hk.symm; clear hk; have f6 : w6.frozen? ⟨w.heap.size, 0, none⟩ = false := h6.loose 0)
      | (refine wpListIn_build_row rfl (.tmp 9) 65 rfl 36 Tryz.underlying65 info_pt (by decide) (by decide) (ptCells x.1 x.2).toArray (by rw [List.size_toArray, ptCells_len hxl]; rfl) rfl ?_)
      | (refine wpListIn_load_run rfl 36 (.tmp 5) rfl _ _ rfl lP ?_)
      | gi_in)
    have hKO1 := ((KeepsOthers.of_below hbA).trans (own_others hoW.2 hbA hg')).trans (KeepsOthers.setCell w6 ⟨w.heap.size, 0, none⟩ (.slice va k vc))
    have hBB := below_set1 (g := w.heap.size) (u := .slice va k vc) (hbA.mono HW.out.size) hg' hoW.lt (by have := HW.out.size; simp; omega)
    refine ⟨?_, ?_, ?_, ?_⟩
    · exact hKO1.from _
    · exact HKO.out _ _ hKO1 hBB
    · exact HW.out.trans hBB
    · exact ⟨_, h6.put 0 _, ownr_set ho' h6 (by decide) 0 _⟩
end Go.Proofs.YtdfplenniamnoaaGreatDoor

/-! package coins: the library's sort of points by a function, its copy of a map, laid (mklay.py) -/
namespace Go.Proofs.YtdfplenniamnoaaGreatDoor
open Go Go.RowKit
def sortPt_ren : Go.Shelf.Ren := ⟨fun | 6 => 129 | 15 => 155 | 14 => 154 | 28 => 181 | 29 => 182 | 20 => 173 | 21 => 174 | 22 => 175 | 23 => 176 | 24 => 177 | 25 => 178 | 26 => 179 | 27 => 180 | 46 => 193 | 47 => 194 | 48 => 195 | 49 => 196 | 50 => 197 | 57 => 198 | n => n, fun | 22 => 65 | 24 => 36 | 25 => 146 | 3 => 3 | 39 => 211 | 0 => 0 | 53 => 212 | 55 => 37 | 4 => 4 | 46 => 248 | 45 => 247 | 50 => 98 | 5 => 5 | 9 => 9 | 66 => 260 | 70 => 264 | 76 => 266 | 77 => 124 | n => n, fun | n => n⟩
theorem sortPt : Go.Proofs.SlLaysF0.n6 Tryz.prog sortPt_ren where
  mixed := by kernel_rfl
  f6 := ⟨ "slices.SortFunc[[]gossamer/api.Point,gossamer/api.Point]", by decide, Tryz.func129.trans (congrArg some (by kernel_rfl))⟩
  f14 := ⟨ "slices.pdqsortCmpFunc[gossamer/api.Point]", by decide, Tryz.func154.trans (congrArg some (by kernel_rfl))⟩
  f15 := Tryz.func155.trans (congrArg some (by kernel_rfl))
  f20 := ⟨ "slices.insertionSortCmpFunc[gossamer/api.Point]", by decide, Tryz.func173.trans (congrArg some (by kernel_rfl))⟩
  f21 := ⟨ "slices.heapSortCmpFunc[gossamer/api.Point]", by decide, Tryz.func174.trans (congrArg some (by kernel_rfl))⟩
  f22 := ⟨ "slices.breakPatternsCmpFunc[gossamer/api.Point]", by decide, Tryz.func175.trans (congrArg some (by kernel_rfl))⟩
  f23 := ⟨ "slices.choosePivotCmpFunc[gossamer/api.Point]", by decide, Tryz.func176.trans (congrArg some (by kernel_rfl))⟩
  f24 := ⟨ "slices.reverseRangeCmpFunc[gossamer/api.Point]", by decide, Tryz.func177.trans (congrArg some (by kernel_rfl))⟩
  f25 := ⟨ "slices.partialInsertionSortCmpFunc[gossamer/api.Point]", by decide, Tryz.func178.trans (congrArg some (by kernel_rfl))⟩
  f26 := ⟨ "slices.partitionEqualCmpFunc[gossamer/api.Point]", by decide, Tryz.func179.trans (congrArg some (by kernel_rfl))⟩
  f27 := ⟨ "slices.partitionCmpFunc[gossamer/api.Point]", by decide, Tryz.func180.trans (congrArg some (by kernel_rfl))⟩
  f28 := Tryz.func181.trans (congrArg some (by kernel_rfl))
  f29 := Tryz.func182.trans (congrArg some (by kernel_rfl))
  f46 := ⟨ "slices.siftDownCmpFunc[gossamer/api.Point]", by decide, Tryz.func193.trans (congrArg some (by kernel_rfl))⟩
  f47 := Tryz.func194.trans (congrArg some (by kernel_rfl))
  f48 := Tryz.func195.trans (congrArg some (by kernel_rfl))
  f49 := ⟨ "slices.medianAdjacentCmpFunc[gossamer/api.Point]", by decide, Tryz.func196.trans (congrArg some (by kernel_rfl))⟩
  f50 := ⟨ "slices.medianCmpFunc[gossamer/api.Point]", by decide, Tryz.func197.trans (congrArg some (by kernel_rfl))⟩
  f57 := ⟨ "slices.order2CmpFunc[gossamer/api.Point]", by decide, Tryz.func198.trans (congrArg some (by kernel_rfl))⟩
  t0 := Tryz.underlying0
  a0 := Tryz.isAgg0
  z0 := Tryz.sizeOf0
  v0 := Tryz.zeroValue0
  t3 := Tryz.underlying3
  a3 := Tryz.isAgg3
  z3 := Tryz.sizeOf3
  v3 := Tryz.zeroValue3
  t4 := Tryz.underlying4
  a4 := Tryz.isAgg4
  z4 := Tryz.sizeOf4
  v4 := Tryz.zeroValue4
  t5 := Tryz.underlying5
  a5 := Tryz.isAgg5
  z5 := Tryz.sizeOf5
  v5 := Tryz.zeroValue5
  t9 := Tryz.underlying9
  a9 := Tryz.isAgg9
  z9 := Tryz.sizeOf9
  v9 := Tryz.zeroValue9
  t22 := Tryz.underlying65
  a22 := Tryz.isAgg65
  z22 := Tryz.sizeOf65
  v22 := Tryz.zeroValue65
  t25 := Tryz.underlying146
  a25 := Tryz.isAgg146
  z25 := Tryz.sizeOf146
  v25 := Tryz.zeroValue146
  t39 := Tryz.underlying211
  a39 := Tryz.isAgg211
  z39 := Tryz.sizeOf211
  v39 := Tryz.zeroValue211
  t45 := Tryz.underlying247
  a45 := Tryz.isAgg247
  z45 := Tryz.sizeOf247
  v45 := Tryz.zeroValue247
  t46 := Tryz.underlying248
  a46 := Tryz.isAgg248
  z46 := Tryz.sizeOf248
  v46 := Tryz.zeroValue248
  t50 := Tryz.underlying98
  a50 := Tryz.isAgg98
  z50 := Tryz.sizeOf98
  v50 := Tryz.zeroValue98
  t53 := Tryz.underlying212
  a53 := Tryz.isAgg212
  z53 := Tryz.sizeOf212
  v53 := Tryz.zeroValue212
  t55 := Tryz.underlying37
  a55 := Tryz.isAgg37
  z55 := Tryz.sizeOf37
  v55 := Tryz.zeroValue37
  t66 := Tryz.underlying260
  a66 := Tryz.isAgg260
  z66 := Tryz.sizeOf260
  v66 := Tryz.zeroValue260
  t70 := Tryz.underlying264
  a70 := Tryz.isAgg264
  z70 := Tryz.sizeOf264
  v70 := Tryz.zeroValue264
  t76 := Tryz.underlying266
  a76 := Tryz.isAgg266
  z76 := Tryz.sizeOf266
  v76 := Tryz.zeroValue266
  t77 := Tryz.underlying124
  a77 := Tryz.isAgg124
  z77 := Tryz.sizeOf124
  v77 := Tryz.zeroValue124
def mapsClone_ren : Go.Shelf.Ren := ⟨fun | 5 => 58 | 7 => 111 | n => n, fun | 23 => 111 | 25 => 36 | 3 => 39 | 4 => 4 | 20 => 20 | n => n, fun | n => n⟩
theorem mapsClone : Go.Proofs.SlLaysW.n5 Tryz.prog mapsClone_ren where
  mixed := by kernel_rfl
  f5 := ⟨ "maps.Clone[map[gossamer/api.Point]gossamer/api.Coin,gossamer/api.Point,gossamer/api.Coin]", by decide, Tryz.func58.trans (congrArg some (by kernel_rfl))⟩
  f7 := Tryz.func111.trans (congrArg some (by kernel_rfl))
  t4 := Tryz.underlying4
  a4 := Tryz.isAgg4
  z4 := Tryz.sizeOf4
  v4 := Tryz.zeroValue4
  t20 := Tryz.underlying20
  a20 := Tryz.isAgg20
  z20 := Tryz.sizeOf20
  v20 := Tryz.zeroValue20
  t23 := Tryz.underlying111
  a23 := Tryz.isAgg111
  z23 := Tryz.sizeOf111
  v23 := Tryz.zeroValue111
end Go.Proofs.YtdfplenniamnoaaGreatDoor

/-! the product of two words in two words: math/bits.Mul64; cmp.Compare, cmp.Or -/
namespace Go.Proofs.YtdfplenniamnoaaGreatDoor
open Go Go.RowKit Go.ChangeShapes Go.WideShapes
namespace Am
end Am
section
variable (t : TypeId)
end
set_option maxRecDepth 100000 in
set_option maxHeartbeats 2000000 in
/-- cmp.Or of two numbers that lie in a block of their own -/
theorem or_two (a b : Int) (g : Nat) (c : Nat) (w : World) (hH : Has w g 3 #[.int .i64 a, .int .i64 b]) :
    Calls Tryz.prog 131 #[.slice (some ⟨g, 0, none⟩) 2 c] w fun e w' => e = .returned (.int .i64 (if a = 0 then b else a)) ∧ w = w' := by
  have c0 : w.cell? ⟨g, 0, none⟩ = some (.int .i64 a) := hH.cell_at rfl
  have c1 : w.cell? ⟨g, 1, none⟩ = some (.int .i64 b) := hH.cell_at rfl
  go_enter Tryz.func131, Tryz.ntmps131
  go_wp2
  go_loop [8] (fun iv => ∃ i : Nat, i ≤ 2 ∧ iv = .int .i64 i ∧ Hid (0 < i → a = 0) ∧ Hid (1 < i → b = 0)) (fun iv => 2 - (intOf iv).toNat)
  case atStart => exact ⟨0, by omega, rfl, Lib.hid (fun e => absurd e (by omega)), Lib.hid (fun e => absurd e (by omega))⟩
  case round =>
    obtain ⟨i, hi, rfl, HA, HB⟩ := hrel
    by_cases h0 : i = 0
    · subst h0
      by_cases ha : a = 0
      · have hb : (a != 0) = false := by simp [ha]
        have HC := Lib.hid ha
        clear ha
        go_wp2
        go_round
        case rel => exact ⟨1, by omega, by go_num, Lib.hid (fun _ => HC.out), Lib.hid (fun e => absurd e (by omega))⟩
        case measure => (simp [intOf]; try omega)
      · have hb : (a != 0) = true := by simp [ha]
        have HC := Lib.hid ha
        clear ha
        go_wp2
        go_ret
        exact ⟨rfl, rfl⟩
    · by_cases h1 : i = 1
      · subst h1
        have HC := Lib.hid (HA.out (by omega))
        by_cases ha : b = 0
        · have hb : (b != 0) = false := by simp [ha]
          have HD := Lib.hid ha
          clear ha
          go_wp2
          go_round
          case rel => exact ⟨2, by omega, by go_num, Lib.hid (fun _ => HC.out), Lib.hid (fun _ => HD.out)⟩
          case measure => (simp [intOf]; try omega)
        · have hb : (b != 0) = true := by simp [ha]
          have HD := Lib.hid ha
          clear ha
          go_wp2
          go_ret
          exact ⟨rfl, rfl⟩
      · have hii : ¬ (i : Int) < 2 := by omega
        have HC := Lib.hid (And.intro (HA.out (by omega)) (HB.out (by omega)))
        obtain rfl : a = 0 := HC.out.1
        go_wp2
        go_ret
        exact ⟨by rw [HC.out.2]; rfl, rfl⟩
namespace Am
end Am
end Go.Proofs.YtdfplenniamnoaaGreatDoor

/-! package coins: the order of points; compare (mkctn.py) -/
namespace Go.Proofs.YtdfplenniamnoaaGreatDoor
open Go Go.RowKit Go.ChangeShapes Go.WideShapes
open Go.Sort (grow grow_empty alloc_eq_grow SWO)
namespace Cs
theorem cmp_same : ∀ a : List (BitVec 8), Dg.cmp a a = 0
  | [] => rfl
  | x :: a => by unfold Dg.cmp; rw [if_pos rfl]; exact cmp_same a
theorem cmp_eq : ∀ {a b : List (BitVec 8)}, a.length = b.length → Dg.cmp a b = 0 → a = b
  | [], [], _, _ => rfl
  | x :: a, y :: b, hl, h => by
    unfold Dg.cmp at h
    by_cases e : x = y
    · rw [if_pos e] at h
      rw [e, cmp_eq (by simpa using hl) h]
    · rw [if_neg e] at h
      split at h <;> cases h
theorem cmp_neg : ∀ {a b : List (BitVec 8)}, Dg.cmp a b < 0 ↔ Dg.cmp a b = -1
  | [], _ => by simp [Dg.cmp]
  | _ :: _, [] => by simp [Dg.cmp]
  | x :: a, y :: b => by
    unfold Dg.cmp
    by_cases e : x = y
    · rw [if_pos e]; exact cmp_neg
    · rw [if_neg e]
      split <;> simp
theorem cmp_lt_trans : ∀ {a b c : List (BitVec 8)}, Dg.cmp a b = -1 → Dg.cmp b c = -1 → Dg.cmp a c = -1
  | [], _, _, h, _ => by simp [Dg.cmp] at h
  | _ :: _, [], _, h, _ => by simp [Dg.cmp] at h
  | _ :: _, _ :: _, [], _, h => by simp [Dg.cmp] at h
  | x :: a, y :: b, z :: c, h1, h2 => by
    unfold Dg.cmp at h1 h2 ⊢
    by_cases e1 : x = y
    · subst e1
      rw [if_pos rfl] at h1
      by_cases e2 : x = z
      · rw [if_pos e2] at h2 ⊢
        exact cmp_lt_trans h1 h2
      · rw [if_neg e2] at h2 ⊢
        exact h2
    · rw [if_neg e1] at h1
      have l1 : x < y := by
        by_cases h : x < y
        · exact h
        · rw [if_neg h] at h1; cases h1
      by_cases e2 : y = z
      · subst e2
        rw [if_neg e1, if_pos l1]
      · rw [if_neg e2] at h2
        have l2 : y < z := by
          by_cases h : y < z
          · exact h
          · rw [if_neg h] at h2; cases h2
        have l3 : x < z := by rw [BitVec.lt_def] at l1 l2 ⊢; omega
        have e3 : ¬ x = z := fun e => by subst e; rw [BitVec.lt_def] at l3; omega
        rw [if_neg e3, if_pos l3]
def cmpI (x y : Int) : Int := if x < y then -1 else if y < x then 1 else 0
def cmpPt (p q : Pt) : Int := if Dg.cmp p.1 q.1 = 0 then cmpI p.2 q.2 else Dg.cmp p.1 q.1
theorem cmpPt_lt {p q : Pt} (hp : p.1.length = 32) (hq : q.1.length = 32) : cmpPt p q < 0 ↔ Ahead p q := by
  unfold cmpPt Ahead
  by_cases h : Dg.cmp p.1 q.1 = 0
  · rw [if_pos h]
    have e := cmp_eq (by rw [hp, hq]) h
    unfold cmpI
    constructor
    · intro h1
      refine .inr ⟨e, ?_⟩
      split at h1
      · assumption
      · split at h1 <;> omega
    · rintro (h1 | ⟨_, h1⟩)
      · rw [h] at h1; cases h1
      · rw [if_pos h1]; decide
  · rw [if_neg h, cmp_neg]
    constructor
    · exact .inl
    · rintro (h1 | ⟨h1, _⟩)
      · exact h1
      · exact absurd (by rw [h1]; exact cmp_same _) h
theorem ahead_trans {p q r : Pt} (h1 : Ahead p q) (h2 : Ahead q r) : Ahead p r := by
  rcases h1 with h1 | ⟨e1, h1⟩ <;> rcases h2 with h2 | ⟨e2, h2⟩
  · exact .inl (cmp_lt_trans h1 h2)
  · exact .inl (e2 ▸ h1)
  · exact .inl (e1 ▸ h2)
  · exact .inr ⟨e1.trans e2, by omega⟩
theorem ahead_irrefl (p : Pt) : ¬ Ahead p p := by
  rintro (h | ⟨_, h⟩)
  · rw [cmp_same] at h; cases h
  · omega
theorem ahead_total {p q : Pt} (hp : p.1.length = 32) (hq : q.1.length = 32) : Ahead p q ∨ p = q ∨ Ahead q p := by
  unfold Ahead
  by_cases h : Dg.cmp p.1 q.1 = 0
  · have e := cmp_eq (by rw [hp, hq]) h
    rcases Int.lt_trichotomy p.2 q.2 with h1 | h1 | h1
    · exact .inl (.inr ⟨e, h1⟩)
    · exact .inr (.inl (by cases p; cases q; simp_all))
    · exact .inr (.inr (.inr ⟨e.symm, h1⟩))
  · by_cases h1 : Dg.cmp p.1 q.1 < 0
    · exact .inl (.inl (cmp_neg.1 h1))
    · refine .inr (.inr (.inl (cmp_neg.1 ?_)))
      rw [Dg.cmp_swap]
      omega
/-- a point whose digest has its 32 bytes -/
def P32 := { p : Pt // p.1.length = 32 }
def z32P : P32 := ⟨(List.replicate 32 0#8, 0), by rw [List.length_replicate]⟩
instance : Inhabited P32 := ⟨z32P⟩
def cf32 (x y : P32) : Int := cmpPt x.1 y.1
theorem lt32 (x y : P32) : ltOf cf32 x y = true ↔ Ahead x.1 y.1 := by
  unfold ltOf cf32
  rw [decide_eq_true_eq]
  exact cmpPt_lt x.2 y.2
theorem lt32f (x y : P32) : ltOf cf32 x y = false ↔ ¬ Ahead x.1 y.1 := by
  rw [← lt32, Bool.not_eq_true]
theorem swo32 : SWO (ltOf cf32) where
  irrefl x := (lt32f x x).2 (ahead_irrefl _)
  trans x y z h1 h2 := (lt32 x z).2 (ahead_trans ((lt32 x y).1 h1) ((lt32 y z).1 h2))
  ntrans x y z h1 h2 := (lt32f x z).2 fun h => by
    have n1 := (lt32f x y).1 h1
    have n2 := (lt32f y z).1 h2
    rcases ahead_total x.2 y.2 with h3 | h3 | h3
    · exact n1 h3
    · exact n2 (h3 ▸ h)
    · exact n2 (ahead_trans h3 h)
def enc32 (x : P32) : List Value := ptCells x.1.1 x.1.2
end Cs
/-- a world that has grown: some draws, some new blocks -/
def Gr (W W' : World) : Prop := ∃ n os, W' = grow (W.drewN n) os
theorem Gr.trans {A B C : World} (h : Gr A B) (k : Gr B C) : Gr A C := by
  obtain ⟨n, os, rfl⟩ := h
  obtain ⟨m, os', rfl⟩ := k
  exact ⟨n + m, os ++ os', by simp [grow, World.drewN, Array.append_assoc, Nat.add_assoc]⟩
theorem Gr.alloc (W : World) (o : Obj) : Gr W (W.alloc o) := ⟨0, #[o], by rw [alloc_eq_grow]; rfl⟩
theorem Gr.drew (W : World) : Gr W W.drew := ⟨1, #[], by rw [grow_empty]; rfl⟩
theorem Gr.below {W W' : World} (h : Gr W W') : Below W.heap.size W W' := by
  obtain ⟨n, os, rfl⟩ := h
  exact ⟨rfl, rfl, rfl, by simp [grow, World.drewN], fun k hk => by
    show (W.heap ++ os)[k]? = W.heap[k]?
    rw [Array.getElem?_append_left hk]⟩
set_option maxRecDepth 100000 in
set_option maxHeartbeats 4000000 in
theorem dcompare_gr (a b : List (BitVec 8)) (w : World) (ha : a.length = 32) (hb : b.length = 32) :
    Calls Tryz.prog 132 #[.agg (blist a).toArray, .agg (blist b).toArray] w fun e w' => e = .returned (.int .i64 (Dg.cmp a b)) ∧ Gr w w' := by
  have HL := Lib.hid (And.intro ha hb)
  clear ha hb
  go_enter Tryz.func132, Tryz.ntmps132
  go_upto_region 1 with fail
  have hG : Has ((w.alloc (.cells (blist a).toArray 34 )).alloc (.cells (blist b).toArray 34 )) w.heap.size 34 (blist a).toArray := (Has.fresh _ _ _).past _
  have hH : Has ((w.alloc (.cells (blist a).toArray 34 )).alloc (.cells (blist b).toArray 34 )) (w.heap.size + 1) 34 (blist b).toArray := Has.fresh_at _ _ _ (by simp)
  have hB : Gr w ((w.alloc (.cells (blist a).toArray 34 )).alloc (.cells (blist b).toArray 34 )) := (Gr.alloc _ _).trans (Gr.alloc _ _)
  generalize ((w.alloc (.cells (blist a).toArray 34 )).alloc (.cells (blist b).toArray 34 )) = w0 at hG hH hB ⊢
  have hP : Bytes8 w0.drew (some ⟨w.heap.size, 0, none⟩) 32 a := bytes_has32 hG.draw HL.out.1
  have hQ : Bytes8 w0.drew (some ⟨w.heap.size + 1, 0, none⟩) 32 b := bytes_has32 hH.draw HL.out.2
  have HP := Lib.hid (And.intro hP hQ)
  clear hP hQ
  refine still_all_drew8 rfl (by kernel_rfl) ?_
  repeat still_step
  still_call ((bcompare_any _ _ 32 32 32 32 a b _ HP.out.1 HP.out.2 (by rw [HL.out.1, HL.out.2])).mono fun e w' h => ⟨h.1, h.2.symm⟩)
  repeat still_step
  refine wpStill_nil ?_
  go_wp2
  go_ret
  exact ⟨rfl, hB.trans (Gr.drew _)⟩
set_option maxHeartbeats 2000000 in
theorem nani_no (x : Int) (w : World) : Calls Tryz.prog 157 #[.int .i64 x] w fun e w' => e = .returned (.bool false) ∧ w = w' := by
  go_enter Tryz.func157, Tryz.ntmps157
  go_wp2
  go_ret
  exact ⟨by simp, rfl⟩
set_option maxHeartbeats 2000000 in
theorem cmpi_any (x y : Int) (w : World) : Calls Tryz.prog 133 #[.int .i64 x, .int .i64 y] w fun e w' => e = .returned (.int .i64 (Cs.cmpI x y)) ∧ w = w' := by
  obtain ⟨r, hr⟩ : ∃ r, r = Cs.cmpI x y := ⟨_, rfl⟩
  rw [← hr]
  rcases Int.lt_trichotomy x y with h | h | h
  · have HE := Lib.hid (show r = -1 by rw [hr, Cs.cmpI, if_pos h])
    clear hr
    go_enter Tryz.func133, Tryz.ntmps133
    go_wp2_with (first
      | (go_at_call 157; (with_reducible refine (nani_no y _).mono ?_); rintro e wk ⟨rfl, rfl⟩)
      | (go_at_call 157; (with_reducible refine (nani_no x _).mono ?_); rintro e wk ⟨rfl, rfl⟩))
    go_ret
    exact ⟨by rw [HE.out]; rfl, rfl⟩
  · have HE := Lib.hid (show r = 0 by rw [hr, Cs.cmpI, if_neg (by omega), if_neg (by omega)])
    have h1 : ¬ x < y := by omega
    have h2 : ¬ y < x := by omega
    clear hr
    go_enter Tryz.func133, Tryz.ntmps133
    go_wp2_with (first
      | (go_at_call 157; (with_reducible refine (nani_no y _).mono ?_); rintro e wk ⟨rfl, rfl⟩)
      | (go_at_call 157; (with_reducible refine (nani_no x _).mono ?_); rintro e wk ⟨rfl, rfl⟩))
    go_ret
    exact ⟨by rw [HE.out]; rfl, rfl⟩
  · have HE := Lib.hid (show r = 1 by rw [hr, Cs.cmpI, if_neg (by omega), if_pos h])
    have h1 : ¬ x < y := by omega
    clear hr
    go_enter Tryz.func133, Tryz.ntmps133
    go_wp2_with (first
      | (go_at_call 157; (with_reducible refine (nani_no y _).mono ?_); rintro e wk ⟨rfl, rfl⟩)
      | (go_at_call 157; (with_reducible refine (nani_no x _).mono ?_); rintro e wk ⟨rfl, rfl⟩))
    go_ret
    exact ⟨by rw [HE.out]; rfl, rfl⟩
theorem pt_hash {l : List (BitVec 8)} {z : Int} (j : Nat) (v : Value) (h : (blist l)[j]? = some v) : (ptCells l z).toArray[0 + j]? = some v := by
  rw [List.getElem?_toArray, Nat.zero_add]
  unfold ptCells
  rw [List.getElem?_append_left (List.getElem?_eq_some_iff.1 h).1]
  exact h
set_option maxRecDepth 100000 in
set_option maxHeartbeats 8000000 in
theorem pcompare_any (p q : Cs.Pt) (hp : p.1.length = 32) (hq : q.1.length = 32) (w : World) :
    Calls Tryz.prog 82 #[.agg (ptCells p.1 p.2).toArray, .agg (ptCells q.1 q.2).toArray] w fun e w' => e = .returned (.int .i64 (Cs.cmpPt p q)) ∧ Gr w w' := by
  obtain ⟨W1, hW1⟩ : ∃ ww, ww = (w.alloc (.cells (ptCells p.1 p.2).toArray 36 )).alloc (.cells (ptCells q.1 q.2).toArray 36 ) := ⟨_, rfl⟩
  have hG1 : Gr w W1 := by rw [hW1]; exact (Gr.alloc _ _).trans (Gr.alloc _ _)
  obtain ⟨g1, hg1⟩ : ∃ x, x = w.heap.size := ⟨_, rfl⟩
  have hP1 : Has W1 g1 36 (ptCells p.1 p.2).toArray := by rw [hW1, hg1]; exact (Has.fresh _ _ _).past _
  have hQ1 : Has W1 (g1 + 1) 36 (ptCells q.1 q.2).toArray := by rw [hW1, hg1]; exact Has.fresh_at _ _ _ (by simp)
  obtain ⟨d, hd⟩ : ∃ d, d = Dg.cmp p.1 q.1 := ⟨_, rfl⟩
  obtain ⟨ci, hci⟩ : ∃ c, c = Cs.cmpI p.2 q.2 := ⟨_, rfl⟩
  have hr : Cs.cmpPt p q = if d = 0 then ci else d := by rw [hd, hci]; rfl
  rw [hr]
  have HP := Lib.hid (And.intro hp hq)
  have HD := Lib.hid hd
  have HI := Lib.hid hci
  have HW1 := Lib.hid hW1
  have HG1 := Lib.hid hg1
  clear hW1 hd hci hr hp hq hg1
  go_enter Tryz.func82, Tryz.ntmps82
  go_upto_region 1 with fail
  rw [← HW1.out, ← HG1.out]
  obtain ⟨ws, hws⟩ : ∃ ww, ww = W1.drew := ⟨_, rfl⟩
  have hGs : Gr w ws := by rw [hws]; exact hG1.trans (Gr.drew _)
  have hPs : Has ws g1 36 (ptCells p.1 p.2).toArray := by rw [hws]; exact hP1.draw
  have hQs : Has ws (g1 + 1) 36 (ptCells q.1 q.2).toArray := by rw [hws]; exact hQ1.draw
  have lP := fun (wq : World) (hSw : Held ws wq) => has_mid (t := 34 ) (hPs.under hSw.below hPs.lt) 0 (blist p.1) pt_hash Tryz.underlying34 rfl (by rw [blist_length, HP.out.1]; kernel_rfl)
  have lQ := fun (wq : World) (hSw : Held ws wq) => has_mid (t := 34 ) (hQs.under hSw.below hQs.lt) 0 (blist q.1) pt_hash Tryz.underlying34 rfl (by rw [blist_length, HP.out.2]; kernel_rfl)
  have lPn := fun (wq : World) (hSw : Held ws wq) => (show wq.cell? ⟨g1, 32, none⟩ = some (.int .i64 p.2) from (hPs.under hSw.below hPs.lt).cell_at (ptCells_last HP.out.1))
  have lQn := fun (wq : World) (hSw : Held ws wq) => (show wq.cell? ⟨g1 + 1, 32, none⟩ = some (.int .i64 q.2) from (hQs.under hSw.below hQs.lt).cell_at (ptCells_last HP.out.2))
  refine wp_region_held_drew (S := Held ws) (by kernel_rfl) (by rw [hws]; exact Held.refl _) (fun hHeld => ?_)
  rw [← hws] at hHeld ⊢
  clear hws
  refine take_at (v := ?_) 0 5 rfl rfl (by kernel_rfl) (by kernel_rfl) (by kernel_rfl) (fun _ _ _ h => h) hHeld (Or.inl ⟨by rfl, ?_⟩) rfl ?_
  rotate_left
  · intro wq hSw
    go_simp
    try with_reducible rfl
  simp only [List.set_cons_zero, List.set_cons_succ]
  refine take_at 1 6 rfl rfl (by kernel_rfl) (by kernel_rfl) (by kernel_rfl) (fun _ _ _ h => h) hHeld (yieldsIf_load_agg (by rfl) 34 (.tmp 5) rfl _ _ (by rfl) (fun wq hSw => lP wq hSw)) rfl ?_
  simp only [List.set_cons_zero, List.set_cons_succ]
  refine take_at (v := ?_) 2 7 rfl rfl (by kernel_rfl) (by kernel_rfl) (by kernel_rfl) (fun _ _ _ h => h) hHeld (Or.inl ⟨by rfl, ?_⟩) rfl ?_
  rotate_left
  · intro wq hSw
    go_simp
    try with_reducible rfl
  simp only [List.set_cons_zero, List.set_cons_succ]
  refine take_at 3 8 rfl rfl (by kernel_rfl) (by kernel_rfl) (by kernel_rfl) (fun _ _ _ h => h) hHeld (yieldsIf_load_agg (by rfl) 34 (.tmp 7) rfl _ _ (by rfl) (fun wq hSw => lQ wq hSw)) rfl ?_
  simp only [List.set_cons_zero, List.set_cons_succ]
  refine take_at (v := ?_) 5 10 rfl rfl (by kernel_rfl) (by kernel_rfl) (by kernel_rfl) (fun _ _ _ h => h) hHeld (Or.inl ⟨by rfl, ?_⟩) rfl ?_
  rotate_left
  · intro wq hSw
    go_simp
    try with_reducible rfl
  simp only [List.set_cons_zero, List.set_cons_succ]
  refine take_at (v := ?_) 6 11 rfl rfl (by kernel_rfl) (by kernel_rfl) (by kernel_rfl) (fun _ _ _ h => h) hHeld (Or.inl ⟨by rfl, ?_⟩) rfl ?_
  rotate_left
  · intro wq hSw
    have hst := lPn wq hSw
    go_simp
    try with_reducible rfl
  simp only [List.set_cons_zero, List.set_cons_succ]
  refine take_at (v := ?_) 7 12 rfl rfl (by kernel_rfl) (by kernel_rfl) (by kernel_rfl) (fun _ _ _ h => h) hHeld (Or.inl ⟨by rfl, ?_⟩) rfl ?_
  rotate_left
  · intro wq hSw
    go_simp
    try with_reducible rfl
  simp only [List.set_cons_zero, List.set_cons_succ]
  refine take_at (v := ?_) 8 13 rfl rfl (by kernel_rfl) (by kernel_rfl) (by kernel_rfl) (fun _ _ _ h => h) hHeld (Or.inl ⟨by rfl, ?_⟩) rfl ?_
  rotate_left
  · intro wq hSw
    have hst := lQn wq hSw
    go_simp
    try with_reducible rfl
  simp only [List.set_cons_zero, List.set_cons_succ]
  refine wpAnyH_ready (rs := [4]) (by kernel_rfl) (by simp) ?_
  refine AllReadyH.cons rfl (fun K hK => ?_) AllReadyH.nil
  go_simp
  go_at_call 132
  refine (dcompare_gr p.1 q.1 ws HP.out.1 HP.out.2).mono ?_
  rintro e w2 ⟨rfl, hG2⟩
  rw [← HD.out]
  refine hK.out _ _ (Held.of hG2.below) (fun _ => ?_)
  clear hK K
  try simp only [Act.put, List.setIfInBounds_toArray, List.set_cons_zero, List.set_cons_succ]
  replace hHeld := Held.of hG2.below
  refine wpAnyH_ready (rs := [9]) (by kernel_rfl) (by simp) ?_
  refine AllReadyH.cons rfl (fun K hK => ?_) AllReadyH.nil
  go_simp
  go_at_call 133
  refine (cmpi_any p.2 q.2 w2).mono ?_
  rintro e w3 ⟨rfl, rfl⟩
  rw [← HI.out]
  refine hK.out _ _ hHeld (fun _ => ?_)
  clear hK K
  try simp only [Act.put, List.setIfInBounds_toArray, List.set_cons_zero, List.set_cons_succ]
  refine wpAnyH_ready (rs := [10]) (by kernel_rfl) (by simp) ?_
  refine AllReadyH.cons rfl (fun K hK => ?_) AllReadyH.nil
  go_simp
  obtain ⟨w4, hw4⟩ : ∃ ww, ww = w2.alloc (.cells #[.int .i64 d, .int .i64 ci] 3) := ⟨_, rfl⟩
  rw [← hw4]
  have hX4 : Has w4 w2.heap.size 3 #[.int .i64 d, .int .i64 ci] := by rw [hw4]; exact Has.fresh _ _ _
  have hG4 : Gr w2 w4 := by rw [hw4]; exact Gr.alloc _ _
  have hH4 : Held ws w4 := hHeld.trans (Held.of hG4.below)
  clear hw4
  refine hK.out _ _ hH4 (fun _ => ?_)
  clear hK K
  try simp only [Act.put, List.setIfInBounds_toArray, List.set_cons_zero, List.set_cons_succ]
  replace hHeld := hH4
  refine wpAnyH_ready (rs := [11]) (by kernel_rfl) (by simp) ?_
  refine AllReadyH.cons rfl (fun K hK => ?_) AllReadyH.nil
  go_simp
  go_at_call 131
  refine (or_two d ci w2.heap.size 2 w4 hX4).mono ?_
  rintro e w5 ⟨rfl, rfl⟩
  refine hK.out _ _ hHeld (fun _ => ?_)
  clear hK K
  try simp only [Act.put, List.setIfInBounds_toArray, List.set_cons_zero, List.set_cons_succ]
  refine take_at (v := ?_) 12 4 rfl rfl (by kernel_rfl) (by kernel_rfl) (by kernel_rfl) (fun _ _ _ h => h) hHeld (Or.inl ⟨by rfl, ?_⟩) rfl ?_
  rotate_left
  · intro wq hSw
    go_simp
    try with_reducible rfl
  simp only [List.set_cons_zero, List.set_cons_succ]
  refine wpAnyH_done (by kernel_rfl) ?_ _
  go_wp2
  all_goals (go_ret; exact ⟨rfl, hGs.trans (hG2.trans hG4)⟩)
theorem cmpLaysPt (blk off size : Nat) (w : World) : CmpLays Tryz.prog 82 #[] Cs.enc32 33 Cs.cf32 blk off size w :=
  fun _ _ _ _ x y => (pcompare_any x.1 y.1 x.2 y.2 _).mono fun _ _ h => ⟨h.1, h.2⟩
end Go.Proofs.YtdfplenniamnoaaGreatDoor
