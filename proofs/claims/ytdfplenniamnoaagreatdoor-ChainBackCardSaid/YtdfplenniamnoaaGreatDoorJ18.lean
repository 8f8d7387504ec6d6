/- package coins: Put; spentBy, spentCoins, ownPoints (mkctc.py) · blocks: their ids, which are good (pure); digests, blocks as records -/
import Derived.Test.YtdfplenniamnoaaGreatDoorJ17
import Derived.Test.YtdfplenniamnoaaGreatDoorJ14
import Derived.Test.YtdfplenniamnoaaGreatDoorJ15
import Derived.Test.YtdfplenniamnoaaGreatDoorJ04
import Derived.Test.YtdfplenniamnoaaGreatDoorJ07
import Derived.Test.YtdfplenniamnoaaGreatDoorJ16
import Derived.Test.YtdfplenniamnoaaGreatDoorJ06
/-! package coins: Put; spentBy, spentCoins, ownPoints (mkctc.py) -/
namespace Go.Proofs.YtdfplenniamnoaaGreatDoor
open Go Go.RowKit Go.ChangeShapes Go.WideShapes
theorem info_pt : (Tryz.prog.info? 36 ).map (fun i => (i.zero, i.size, i.bytes)) = some (some (.agg zPt), ptRec.k, 40) := by kernel_rfl
theorem has_mid {P : Program} {w : World} {g : Nat} {T t : TypeId} {cs : Array Value} {d : TypeDesc} (h : Has w g T cs) (off : Nat) (sub : List Value) (hsub : ∀ (j : Nat) (v : Value), sub[j]? = some v → cs[off + j]? = some v)
    (hu : P.underlying t = some d) (hd : d.isRow = true) (hi : (P.info? t).map (·.size) = some sub.length) : (Instr.loadAt t (.pointer (some ⟨g, off, none⟩))).run P w = .ok (.agg sub.toArray) w := by
  have h1 := run_loadVar_mid (P := P) w g off t sub d (fun j v hj => by rw [h.cell]; exact hsub j v hj) hu hd hi
  simp only [Instr.loadAt, Instr.sureAddr, Sem.run_bind, Sem.run_pure, Result.andThen_ok, h1]
theorem step_build_row {P : Program} {w : World} {ops : Array Oper} {o : Oper} {a : Act} {K : Act → World → Prop} {Q : Exit → Act → World → Prop} {E : Prop} (hwt : Region.wanted o (yielded ops a.tmps) = true) (x : Operand) (t : TypeId) (ho : o.op = .buildSlice t 1 #[(0, x)])
    (T : TypeId) {z : Array Value} {k by_ : Nat} (ht : P.underlying t = some (.slice T)) (hi : (P.info? T).map (fun i => (i.zero, i.size, i.bytes)) = some (some (.agg z), k, by_)) (hk : 0 < k) (hk2 : k ≤ 16777216) (cs : Array Value) (hc : cs.size = k) (hx : a.eval x = .agg cs)
    (h : K (a.put o.dst (.slice (some ⟨w.heap.size, 0, none⟩) 1 1)) (w.alloc (.cells cs T))) : if Region.wanted o (yielded ops a.tmps) = true then Oper.wp P o a w K Q else E := by
  rw [if_pos hwt]
  have hr := run_build_row (P := P) ht hi hk hk2 cs hc w
  unfold Oper.wp execOp
  simp only [ho, List.map_toArray, List.map_cons, List.map_nil, hx, Sem.run_bind, Sem.run_pure, Result.andThen_ok, hr]
  exact h
theorem step_build_at {P : Program} {w : World} {ops : Array Oper} {o : Oper} {l : List Value} {ds : List _} {K : Act → World → Prop} {Q : Exit → Act → World → Prop} {E : Prop} (d : Nat) (hd : o.dst = some d) (hwt : Region.wanted o (yielded ops (⟨l.toArray, ds⟩ : Act).tmps) = true) (x : Operand) (t : TypeId) (ho : o.op = .buildSlice t 1 #[(0, x)])
    (T : TypeId) {z : Array Value} {k by_ : Nat} (ht : P.underlying t = some (.slice T)) (hi : (P.info? T).map (fun i => (i.zero, i.size, i.bytes)) = some (some (.agg z), k, by_)) (hk : 0 < k) (hk2 : k ≤ 16777216) (cs : Array Value) (hc : cs.size = k) (hx : (⟨l.toArray, ds⟩ : Act).eval x = .agg cs)
    (h : K ⟨(l.set d (.slice (some ⟨w.heap.size, 0, none⟩) 1 1)).toArray, ds⟩ (w.alloc (.cells cs T))) : if Region.wanted o (yielded ops (⟨l.toArray, ds⟩ : Act).tmps) = true then Oper.wp P o ⟨l.toArray, ds⟩ w K Q else E :=
  step_build_row hwt x t ho T ht hi hk hk2 cs hc hx (by rw [hd, put_dst rfl]; exact h)
theorem step_append_at {α : Type} {R : Rec α} {P : Program} {w : World} {ops : Array Oper} {o : Oper} {l : List Value} {ds : List _} {K : Act → World → Prop} {Q : Exit → Act → World → Prop} {E : Prop} (d : Nat) (hd : o.dst = some d) (hwt : Region.wanted o (yielded ops (⟨l.toArray, ds⟩ : Act).tmps) = true) (s x : Operand) (t : TypeId)
    (ho : o.op = .call { callee := .builtin .append, args := #[s, x], argTypes := #[t, t] })
    (T : TypeId) (ht : P.underlying t = some (.slice T)) {z : Value} {by_ : Nat} (hinfo : (P.info? T).map (fun i => (i.zero, i.size, i.bytes)) = some (some z, R.k, by_)) (hzk : z.cells.size = R.k) (hby : by_ ≤ 128)
    (B : Nat) (v : Value) (L : List α) (hs : (⟨l.toArray, ds⟩ : Act).eval s = v) (hown : OwnR R T B w v L) (ad : Option Addr) (m c : Nat) (M : List α) (hx : (⟨l.toArray, ds⟩ : Act).eval x = .slice ad m c) (hw : Recs R w ad m M) (hc : ad = none → c = 0)
    (h63 : L.length + m ≤ 1099511627776) (hbase : B ≤ w.heap.size)
    (h : ∀ v' w', OwnR R T B w' v' (L ++ M) → w.grownBy w' v.ownBlock → Lies w v v' → K ⟨(l.set d v').toArray, ds⟩ w') : if Region.wanted o (yielded ops (⟨l.toArray, ds⟩ : Act).tmps) = true then Oper.wp P o ⟨l.toArray, ds⟩ w K Q else E :=
  step_append_recs hwt s x t ho T ht hinfo hzk hby B v L hs hown ad m c M hx hw hc h63 hbase (fun v' w' h1 h2 h3 => by rw [hd, put_dst rfl]; exact h v' w' h1 h2 h3)
theorem sp_pt {s : Tx.Sp} (hl : s.h.length = 32) (j : Nat) (v : Value) (h : (ptCells s.h s.n)[j]? = some v) : (spCells s).toArray[0 + j]? = some v := by
  have h1 : j < 33 := by
    have e := (List.getElem?_eq_some_iff.1 h).1
    rwa [ptCells_len hl] at e
  rw [List.getElem?_toArray, Nat.zero_add]
  unfold spCells ptCells at *
  rcases Nat.lt_or_ge j 32 with h2 | h2
  · rw [List.getElem?_append_left (by rw [blist_length, hl]; exact h2)] at h ⊢
    exact h
  · obtain rfl : j = 32 := by omega
    rw [List.getElem?_append_right (by rw [blist_length, hl]; omega), blist_length, hl] at h ⊢
    exact h
theorem pts_take {L : List Cs.Pt} {i : Nat} {p : Cs.Pt} (h : L[i]? = some p) : L.take (i + 1) = L.take i ++ [p] := by
  obtain ⟨h2, h3⟩ := List.getElem?_eq_some_iff.1 h
  rw [List.take_succ_eq_append_getElem h2, h3]
theorem pt_fresh {w : World} {p : Cs.Pt} (hp : Cs.ptOk p) : Recs ptRec (w.alloc (.cells (ptCells p.1 p.2).toArray 36 )) (some ⟨w.heap.size, 0, none⟩) 1 [p] :=
  recs_fresh (R := ptRec) (L := [p]) (fun q hq => by rw [List.mem_singleton.1 hq]; exact hp) (Has.fresh _ _ _) (by show 1 ≤ maxLen; unfold maxLen; omega) (fun j u hj => by
    have e : ptRec.row [p] = ptCells p.1 p.2 := by show ptRec.cells p ++ [] = _; rw [List.append_nil]; rfl
    rw [e] at hj
    rw [← Array.getElem?_toList]
    exact hj)
theorem co_fresh {w : World} {c : Tx.Co} (hc : Tx.CoOk c) : Recs coRec (w.alloc (.cells (coCells c).toArray 39 )) (some ⟨w.heap.size, 0, none⟩) 1 [c] :=
  recs_fresh (R := coRec) (L := [c]) (fun q hq => by rw [List.mem_singleton.1 hq]; exact hc) (Has.fresh _ _ _) (by show 1 ≤ maxLen; unfold maxLen; omega) (fun j u hj => by
    have e : coRec.row [c] = coCells c := by show coRec.cells c ++ [] = _; rw [List.append_nil]; rfl
    rw [e] at hj
    rw [← Array.getElem?_toList]
    exact hj)
/-- a block of another type behind an append to a slice of one's own -/
theorem has_own {α : Type} {R : Rec α} {T T' : TypeId} {B g : Nat} {w w' : World} {cs : Array Value} {v : Value} {L : List α} (h : Has w g T cs) (ho : OwnR R T' B w v L) (hT : T ≠ T') (hg : w.grownBy w' v.ownBlock) : Has w' g T cs :=
  (hg.block g h.lt (fun e => by
    obtain ⟨cs', h'⟩ := ownr_block ho e.symm
    exact Has.ne_type h h' hT rfl)).trans h
theorem MapAt.coOk {w : World} {b : Nat} {M : Cs.Mp} (h : MapAt w b M) (p : Cs.Pt) : Tx.CoOk ((Cs.look M p).getD ⟨0, 0#64⟩) := by
  obtain ⟨es, clock, _, _, _, hM, _⟩ := h
  unfold Cs.look
  cases hi : Cs.idx p M with
  | none => exact ⟨by decide, by decide⟩
  | some r => exact (hM _ (List.mem_of_getElem? (Cs.idx_at hi))).2
theorem pt_ok {s : Tx.Sp} (h : Tx.SpOk s) : Cs.ptOk (Cs.pt s) := ⟨h.1, h.2.1⟩
set_option maxRecDepth 100000 in
set_option maxHeartbeats 8000000 in
theorem pput_any {w : World} {g b : Nat} {M : Cs.Mp} (h : SetB w g b M) (p : Cs.Pt) (hp : Cs.ptOk p) (c : Tx.Co) (hc : Tx.CoOk c) :
    Calls Tryz.prog 12 #[.pointer (some ⟨g, 0, none⟩), .agg (ptCells p.1 p.2).toArray, .agg (coCells c).toArray] w fun e w' =>
      e = .returned (errn (Cs.putE M p c)) ∧ SetB w' g b (if Cs.putE M p c = 0 then Cs.put M p c else M) ∧ Moved (fun j => j = b) w w' := by
  obtain ⟨z, hz⟩ : ∃ z, z = Cs.putE M p c := ⟨_, rfl⟩
  rw [← hz]
  obtain ⟨W1, hW1⟩ : ∃ ww, ww = (w.alloc (.cells (ptCells p.1 p.2).toArray 36 )).alloc (.cells (coCells c).toArray 39 ) := ⟨_, rfl⟩
  have hB1 : Below w.heap.size w W1 := by rw [hW1]; exact ((Below.refl _ _).alloc (Nat.le_refl _) _).alloc (by simp) _
  obtain ⟨g1, hg1⟩ : ∃ x, x = w.heap.size := ⟨_, rfl⟩
  obtain ⟨g2, hg2⟩ : ∃ x, x = g1 + 1 := ⟨_, rfl⟩
  have hP1 : Has W1 g1 36 (ptCells p.1 p.2).toArray := by rw [hW1, hg1]; exact (Has.fresh _ _ _).past _
  have hC1 : Has W1 g2 39 (coCells c).toArray := by rw [hW1, hg2, hg1]; exact Has.fresh_at _ _ _ (by simp)
  have lP := hP1.load_agg (P := Tryz.prog) (t := 36 ) Tryz.underlying36 rfl (size_pt hp.1)
  have c1 := hC1.cell_at (i := 0) (v := .int .i64 c.v) rfl
  have HNE := Lib.hid (show ¬ g1 = b ∧ ¬ g2 = b from ⟨by have := h.map.lt; omega, by have := h.map.lt; omega⟩)
  obtain ⟨gd, hgd⟩ : ∃ gd, gd = decide (Am.Good c.v) := ⟨_, rfl⟩
  have HGD := Lib.hid (show gd = true ↔ Am.Good c.v by rw [hgd]; simp)
  obtain ⟨o, ho⟩ : ∃ o, o = (Cs.look M p).isSome := ⟨_, rfl⟩
  have HZ := Lib.hid (show z = if gd = true then if o = true then 6 else 0 else 9 by rw [hz, Cs.putE, ← ho]; simp only [hgd, decide_eq_true_eq])
  have HH := Lib.hid (fun (w' : World) (hb : Below w.heap.size w w') => phas_any (F := fun j => j = g ∨ j = b) (.inl ⟨g, b, rfl, h.below hb, rfl⟩) p hp.1)
  rw [← ho] at HH
  have HS := Lib.hid h
  have HP := Lib.hid hp
  have HC := Lib.hid hc
  have HW1 := Lib.hid hW1
  have HG1 := Lib.hid (And.intro hg1 hg2)
  have HB1 := Lib.hid hB1
  have hLc := hc.1
  clear hz hgd ho hW1 h hp hc hg1 hg2 hLc
  go_enter Tryz.func12, Tryz.ntmps12
  go_upto_region 1 with fail
  rw [← HW1.out, ← HG1.out.1, ← HG1.out.2]
  cases gd
  · have hE : z = 9 := HZ.out
    go_wp2_with (go_at_call 53; refine (pgood_any c.v false HGD.out W1).mono ?_; rintro e w2 ⟨rfl, rfl⟩)
    go_ret
    exact ⟨rfl, HS.out.below HB1.out, Moved.of_below HB1.out⟩
  · cases o
    · have hE : z = 0 := HZ.out
      go_upto_region 7 with (first
        | (go_at_call 54; refine (HH.out W1 hB1).mono ?_; rintro e w9 ⟨rfl, hb9⟩)
        | (go_at_call 53; refine (pgood_any c.v true HGD.out W1).mono ?_; rintro e w2 ⟨rfl, rfl⟩)
        | (refine wpList_load_run rfl 36 (.tmp 4) rfl _ _ rfl lP ?_))
      have hB9 := hB1.trans (hb9.mono hB1.size)
      have hP9 := hP1.under hb9 hP1.lt
      have hC9 := hC1.under hb9 hC1.lt
      clear c1 lP
      obtain ⟨ws, hws⟩ : ∃ ww, ww = w9.drew := ⟨_, rfl⟩
      have hBs : Below w.heap.size w ws := by rw [hws]; exact hB9.drew
      have hPs : Has ws g1 36 (ptCells p.1 p.2).toArray := by rw [hws]; exact hP9.draw
      have hCs : Has ws g2 39 (coCells c).toArray := by rw [hws]; exact hC9.draw
      have hSs := HS.out.below hBs
      have c0 : ws.cell? ⟨g, 0, none⟩ = some (.map (some b)) := hSs.has.cell_at rfl
      have lP := fun (wq : World) (hSw : HeldM (fun j => j = b) ws wq) => (hPs.moved hSw.out HNE.out.1).load_agg (P := Tryz.prog) (t := 36 ) Tryz.underlying36 rfl (size_pt HP.out.1)
      have lC := fun (wq : World) (hSw : HeldM (fun j => j = b) ws wq) => (hCs.moved hSw.out HNE.out.2).load_agg (P := Tryz.prog) (t := 39 ) Tryz.underlying39 rfl (size_co c)
      have lM := fun (wq : World) (hSw : HeldM (fun j => j = b) ws wq) => (show wq.cell? ⟨g, 0, none⟩ = some (.map (some b)) from (hSs.has.moved hSw.out hSs.ne).cell_at rfl)
      refine wp_region_held_drew (S := HeldM (fun j => j = b) ws) (by kernel_rfl) (by rw [hws]; exact HeldM.refl _ _) (fun hHeld => ?_)
      rw [← hws] at hHeld ⊢
      clear hws c0
      refine take_at (v := ?_) 0 19 rfl rfl (by kernel_rfl) (by kernel_rfl) (by kernel_rfl) (fun _ _ _ h => h) hHeld (Or.inl ⟨by rfl, ?_⟩) rfl ?_
      rotate_left
      · intro wq hSw
        go_simp
        try with_reducible rfl
      simp only [List.set_cons_zero, List.set_cons_succ]
      refine take_at (v := ?_) 1 20 rfl rfl (by kernel_rfl) (by kernel_rfl) (by kernel_rfl) (fun _ _ _ h => h) hHeld (Or.inl ⟨by rfl, ?_⟩) rfl ?_
      rotate_left
      · intro wq hSw
        go_simp
        try with_reducible rfl
      simp only [List.set_cons_zero, List.set_cons_succ]
      refine take_at (v := ?_) 2 21 rfl rfl (by kernel_rfl) (by kernel_rfl) (by kernel_rfl) (fun _ _ _ h => h) hHeld (Or.inl ⟨by rfl, ?_⟩) rfl ?_
      rotate_left
      · intro wq hSw
        go_simp
        try with_reducible rfl
      simp only [List.set_cons_zero, List.set_cons_succ]
      refine take_at (v := ?_) 3 22 rfl rfl (by kernel_rfl) (by kernel_rfl) (by kernel_rfl) (fun _ _ _ h => h) hHeld (Or.inl ⟨by rfl, ?_⟩) rfl ?_
      rotate_left
      · intro wq hSw
        have hst := lM wq hSw
        go_simp
        try with_reducible rfl
      simp only [List.set_cons_zero, List.set_cons_succ]
      refine take_at 4 23 rfl rfl (by kernel_rfl) (by kernel_rfl) (by kernel_rfl) (fun _ _ _ h => h) hHeld (yieldsIf_load_agg (by rfl) 36 (.tmp 4) rfl _ _ (by rfl) (fun wq hSw => lP wq hSw)) rfl ?_
      simp only [List.set_cons_zero, List.set_cons_succ]
      refine take_at 5 24 rfl rfl (by kernel_rfl) (by kernel_rfl) (by kernel_rfl) (fun _ _ _ h => h) hHeld (yieldsIf_load_agg (by rfl) 39 (.tmp 5) rfl _ _ (by rfl) (fun wq hSw => lC wq hSw)) rfl ?_
      simp only [List.set_cons_zero, List.set_cons_succ]
      refine wpAnyH_ready (rs := [6]) (by kernel_rfl) (by simp) ?_
      refine AllReadyH.cons rfl (fun K hK => ?_) AllReadyH.nil
      refine step_mapUpdate_pt (by rfl) (.tmp 22) (.tmp 23) (.tmp 24) rfl rfl hSs.map p rfl HP.out c rfl HC.out (fun w' hm' hmv => ?_)
      refine hK.out _ _ (HeldM.of hmv) (fun _ => ?_)
      clear hK K
      replace hHeld := HeldM.of hmv
      try simp only [Act.put]
      refine wpAnyH_done (by kernel_rfl) ?_ _
      go_wp2
      go_ret
      exact ⟨rfl, ⟨hSs.has.moved hmv hSs.ne, hm'⟩, (Moved.of_below hBs).trans hmv (fun k hk => .inl hk)⟩
    · have hE : z = 6 := HZ.out
      go_wp2_with (first
        | (go_at_call 54; refine (HH.out W1 hB1).mono ?_; rintro e w9 ⟨rfl, hb9⟩)
        | (go_at_call 53; refine (pgood_any c.v true HGD.out W1).mono ?_; rintro e w2 ⟨rfl, rfl⟩)
        | (refine wpList_load_run rfl 36 (.tmp 4) rfl _ _ rfl lP ?_))
      have hB9 := hB1.trans (hb9.mono hB1.size)
      go_ret
      exact ⟨rfl, HS.out.below hB9, Moved.of_below hB9⟩
set_option maxRecDepth 100000 in
set_option maxHeartbeats 8000000 in
theorem spby_any (a : Option Addr) (n q : Nat) (b : Option Addr) (m r : Nat) (t : Tx.T) (f : Bool) (w : World) (ht : TxAt w a n q b m r t) (hn : n ≤ 1000000000) :
    Calls Tryz.prog 64 #[txv a n q b m r f] w fun e w' => ∃ v, e = .returned v ∧ OwnR ptRec 36 w.heap.size w' v (t.sp.map Cs.pt) ∧ Below w.heap.size w w' := by
  have hnmx : n ≤ 9223372036854775807 := ht.sp.2.1
  obtain ⟨W1, hW1⟩ : ∃ ww, ww = w.alloc (.cells #[.slice a n q, .slice b m r, .bool f] 26 ) := ⟨_, rfl⟩
  have hB1 : Below w.heap.size w W1 := by rw [hW1]; exact (Below.refl _ _).alloc (Nat.le_refl _) _
  have hX : Has W1 w.heap.size 26 #[.slice a n q, .slice b m r, .bool f] := by rw [hW1]; exact Has.fresh _ _ _
  have c0 := hX.cell_at (i := 0) (v := .slice a n q) rfl
  have HN := Lib.hid hn
  have HS := Lib.hid ht.sp
  have HW := Lib.hid hW1
  clear hW1 hX ht hn
  go_enter Tryz.func64, Tryz.ntmps64
  go_upto_region 1 with fail
  rw [← HW.out]
  go_wp2
  have hO0 : RowKit.Hid (OwnR ptRec 36 w.heap.size W1 (.slice none 0 0) ((t.sp.take 0).map Cs.pt)) := Lib.hid (OwnR.nil ptRec 36 w.heap.size W1)
  go_loopw [3, 9] (fun sv iv wr => ∃ (i : Nat) (ov : Value), i ≤ n ∧ iv = .int .i64 i ∧ ov = sv ∧ RowKit.Hid (OwnR ptRec 36 w.heap.size wr ov ((t.sp.take i).map Cs.pt)) ∧ Below w.heap.size w wr) (fun _ iv _ => n - (intOf iv).toNat)
  case atStart => exact ⟨0, _, Nat.zero_le _, rfl, rfl, hO0, hB1⟩
  case round =>
    clear hO0
    obtain ⟨i, ov, hi, rfl, rfl, HO, hb⟩ := hrel
    by_cases hlt : i < n
    · have hii : (i : Int) < (n : Int) := by omega
      have hi0 : (0 : Int) ≤ (i : Int) := by omega
      obtain ⟨s, hs⟩ := HS.out.get hlt
      obtain ⟨x, hax, _⟩ := HS.out.2.2.2 i s hs
      subst hax
      have hy := spends_at (HS.out.below hb) hs
      have hok := HS.out.okay hs
      have HT := Lib.hid (show (t.sp.take (i + 1)).map Cs.pt = (t.sp.take i).map Cs.pt ++ [Cs.pt s] by
        obtain ⟨h2, h3⟩ := List.getElem?_eq_some_iff.1 hs
        rw [List.take_succ_eq_append_getElem h2, h3, List.map_append, List.map_singleton])
      have HK := Lib.hid hok
      have HLN := Lib.hid (show ((t.sp.take i).map Cs.pt).length = i by rw [List.length_map, List.length_take, HS.out.1]; omega)
      clear hs hok
      go_upto_region 5 with (first
        | (refine wpList_store_mid rfl 110 (.tmp 5) (.tmp 12) rfl wr.heap.size 0 (spCells s).toArray rfl rfl ((spRec).there wr 110 (by kernel_rfl) HK.out) (spRec.size_eq size_spend HK.out) (spRec.all_one s) ?_)
        | (refine wpList_load_run rfl 110 (.tmp 11) rfl _ _ rfl hy ?_))
      obtain ⟨w5, hw5⟩ : ∃ u, u = (wr.alloc (.cells zSp 110 )).setCells wr.heap.size 0 (spCells s) := ⟨_, rfl⟩
      obtain ⟨hG, hb5⟩ := Rec.new (R := spRec) (by kernel_rfl) HK.out hw5
      rw [← hw5]
      have hO5 := HO.out.below hb5
      have hT5 := hb.trans (hb5.mono hb.size)
      obtain ⟨g5, hg5⟩ : ∃ g, g = wr.heap.size := ⟨_, rfl⟩
      rw [← hg5] at hG ⊢
      have lP := has_mid hG 0 (ptCells s.h s.n) (sp_pt HK.out.1) Tryz.underlying36 rfl (by rw [ptCells_len HK.out.1]; kernel_rfl)
      have HO5 := Lib.hid hO5
      clear hw5 hG hO5 hb5 hy hg5
      go_wp2_with (first
        | (at_builtin; refine wpList_append_recs (R := ptRec) rfl (.tmp 13) (.tmp 16) 65 rfl 36 Tryz.underlying65 info_pt (by kernel_rfl) (by decide) w.heap.size ov _ rfl (HO5.out.below ((Below.refl _ _).alloc (Nat.le_refl _) _)) (some ⟨w5.heap.size, 0, none⟩) 1 1 [Cs.pt s] rfl (pt_fresh (p := Cs.pt s) (pt_ok HK.out)) (fun e => by cases e) (by rw [HLN.out]; have := HN.out; omega) (by have := hT5.size; simp; omega) ?_; intro v' w6 ho' hg' hl')
        | (refine wpList_build_row rfl (.tmp 15) 65 rfl 36 Tryz.underlying65 info_pt (by decide) (by decide) (ptCells s.h s.n).toArray (by rw [List.size_toArray, ptCells_len HK.out.1]; rfl) rfl ?_)
        | (refine wpList_load_run rfl 36 (.tmp 14) rfl _ _ rfl lP ?_))
      have hT6 := below_own_recs (hT5.alloc hT5.size _) hg' HO5.out.lt
      have HO2 := Lib.hid (show OwnR ptRec 36 w.heap.size w6 v' ((t.sp.take (i + 1)).map Cs.pt) by rw [HT.out]; exact ho')
      clear ho' hg' hl' lP
      go_roundw
      case rel => exact ⟨i + 1, v', by omega, by go_num, rfl, HO2, hT6⟩
      case measure => (simp [intOf]; try omega)
    · have hii : ¬ (i : Int) < (n : Int) := by omega
      obtain rfl : i = n := by omega
      have HE := Lib.hid (show (t.sp.take i).map Cs.pt = t.sp.map Cs.pt by rw [List.take_of_length_le (by rw [HS.out.1]; omega)])
      go_wp2
      go_ret
      exact ⟨_, rfl, HE.out ▸ HO.out, hb⟩
set_option maxRecDepth 100000 in
set_option maxHeartbeats 8000000 in
theorem own_any (a : Option Addr) (n q : Nat) (b : Option Addr) (m r : Nat) (t : Tx.T) (w : World) (ht : TxAt w a n q b m r t) (hs : Tx.Small t) (hK : KDg w) :
    Calls Tryz.prog 59 #[txv a n q b m r t.firm] w fun e w' => ∃ v, e = .returned v ∧ OwnR ptRec 36 w.heap.size w' v ((Cs.ownL (Tx.idOf false t) t.co).map (·.1)) ∧ Below w.heap.size w w' := by
  have hmmx : m ≤ 9223372036854775807 := ht.co.2.1
  obtain ⟨W1, hW1⟩ : ∃ ww, ww = w.alloc (.cells #[.slice a n q, .slice b m r, .bool t.firm] 26 ) := ⟨_, rfl⟩
  have hB1 : Below w.heap.size w W1 := by rw [hW1]; exact (Below.refl _ _).alloc (Nat.le_refl _) _
  have hX : Has W1 w.heap.size 26 #[.slice a n q, .slice b m r, .bool t.firm] := by rw [hW1]; exact Has.fresh _ _ _
  have lX := hX.load_agg (P := Tryz.prog) (t := 26 ) Tryz.underlying26 rfl (by kernel_rfl)
  obtain ⟨D, hDd⟩ : ∃ D, D = Tx.idOf false t := ⟨_, rfl⟩
  have hDl : D.length = 32 := by rw [hDd]; exact Tx.idOf_len _ _
  obtain ⟨P, hP⟩ : ∃ P : List Cs.Pt, P = (Cs.ownL D t.co).map (·.1) := ⟨_, rfl⟩
  have HI := Lib.hid (show Calls Tryz.prog 108 #[txv a n q b m r t.firm] W1 fun e w' => e = .returned (.agg (blist D).toArray) ∧ Below W1.heap.size W1 w' from hDd ▸ pid_any a n q b m r t t.firm rfl W1 (ht.below hB1) hs (hK.below hB1))
  have HPA := Lib.hid (show ∀ i, i < m → P[i]? = some (D, (i : Int)) from fun i hi => by
    have h9 : i < t.co.length := by rw [ht.co.1]; exact hi
    rw [hP, List.getElem?_map, Cs.ownL_at.2 ⟨t.co[i], List.getElem?_eq_getElem h9, rfl⟩]
    rfl)
  have HPL := Lib.hid (show P.length = m by rw [hP, List.length_map, Cs.ownL, List.length_mapIdx, ht.co.1])
  have HM := Lib.hid (show m ≤ 1000000 by have := hs.2.1; have := ht.co.1; omega)
  rw [← hDd, ← hP]
  have HW := Lib.hid hW1
  have HD := Lib.hid hDl
  have HX := Lib.hid hX
  clear hW1 hX ht hs hK hDd hDl hP
  go_enter Tryz.func59, Tryz.ntmps59
  go_upto_region 1 with fail
  rw [← HW.out]
  go_upto_region 2 with (first
    | (refine wpList_store_mid rfl 34 (.tmp 3) (.tmp 7) rfl w2.heap.size 0 (blist D).toArray rfl rfl ((Has.fresh w2 34 z32).there 0 (blist D).toArray.size (by rw [List.size_toArray, blist_length, HD.out]; decide)) (size_hash' HD.out) (one_hash D) ?_)
    | (go_at_call 108; refine HI.out.mono ?_; rintro e w2 ⟨rfl, hb2⟩)
    | (refine wpList_load_run rfl 26 (.tmp 1) rfl _ _ rfl lX ?_))
  obtain ⟨w3, hw3⟩ : ∃ u, u = (w2.alloc (.cells z32 34 )).setCells w2.heap.size 0 (blist D).toArray.toList := ⟨_, rfl⟩
  have hb3 : Below w2.heap.size w2 w3 := by rw [hw3]; exact below_setAll (Nat.le_refl _) _ 0 ((Below.refl _ _).alloc (Nat.le_refl _) _)
  have hH3 : Has w3 w2.heap.size 34 (blist D).toArray := by rw [hw3]; exact (Has.fresh w2 34 z32).whole_cs (by rw [List.size_toArray, blist_length, HD.out]; rfl)
  have hw3n : w3 = (w2.alloc (.cells z32 34 )).setCells w2.heap.size 0 (blist D) := hw3
  rw [← hw3n]
  have hT3 : Below w.heap.size w w3 := hB1.trans ((hb2.trans (hb3.mono hb2.size)).mono hB1.size)
  have c1 := (HX.out.under (hb2.trans (hb3.mono hb2.size)) HX.out.lt).cell_at (i := 1) (v := .slice b m r) rfl
  obtain ⟨g3, hg3⟩ : ∃ g, g = w2.heap.size := ⟨_, rfl⟩
  rw [← hg3] at hH3 ⊢
  clear hw3 hw3n hb2 hb3 hg3 lX
  go_wp2
  have hO0 : RowKit.Hid (OwnR ptRec 36 w.heap.size w3 (.slice none 0 0) (P.take 0)) := Lib.hid (OwnR.nil ptRec 36 w.heap.size w3)
  go_loopw [4, 11] (fun sv iv wr => ∃ (i : Nat) (ov : Value), i ≤ m ∧ iv = .int .i64 i ∧ ov = sv ∧ RowKit.Hid (OwnR ptRec 36 w.heap.size wr ov (P.take i)) ∧ Below w.heap.size w wr ∧ Has wr g3 34 (blist D).toArray) (fun _ iv _ => m - (intOf iv).toNat)
  case atStart => exact ⟨0, _, Nat.zero_le _, rfl, rfl, hO0, hT3, hH3⟩
  case round =>
    clear hO0
    obtain ⟨i, ov, hi, rfl, rfl, HO, hb, hH⟩ := hrel
    by_cases hlt : i < m
    · have hii : (i : Int) < (m : Int) := by omega
      have hi0 : (0 : Int) ≤ (i : Int) := by omega
      have HT := Lib.hid (pts_take (HPA.out i hlt))
      have HLN := Lib.hid (show (P.take i).length = i by rw [List.length_take, HPL.out]; omega)
      have lH := hH.load_agg (P := Tryz.prog) (t := 34 ) Tryz.underlying34 rfl (size_hash' HD.out)
      obtain ⟨PC, hPC⟩ : ∃ PC, PC = (ptCells D (i : Int)).toArray := ⟨_, rfl⟩
      have HPC := Lib.hid hPC
      have HOK := Lib.hid (show Cs.ptOk (D, (i : Int)) from ⟨HD.out, by show -9223372036854775808 ≤ (i : Int); omega, by show (i : Int) < 9223372036854775808; omega⟩)
      have HRP := Lib.hid (show Recs ptRec (wr.alloc (.cells PC 36 )) (some ⟨wr.heap.size, 0, none⟩) 1 [((D, (i : Int)) : Cs.Pt)] by rw [hPC]; exact pt_fresh (p := (D, (i : Int))) HOK.out)
      clear hPC
      go_wp2_with (first
        | (at_builtin; refine wpList_append_recs (R := ptRec) rfl (.tmp 14) (.tmp 18) 65 rfl 36 Tryz.underlying65 info_pt (by kernel_rfl) (by decide) w.heap.size ov _ rfl (HO.out.below ((Below.refl _ _).alloc (Nat.le_refl _) _)) (some ⟨wr.heap.size, 0, none⟩) 1 1 [(D, (i : Int))] rfl HRP.out (fun e => by cases e) (by rw [HLN.out]; have := HM.out; omega) (by have := hb.size; simp; omega) ?_; intro v' w6 ho' hg' hl')
        | (refine wpList_build_row rfl (.tmp 17) 65 rfl 36 Tryz.underlying65 info_pt (by decide) (by decide) PC (by rw [HPC.out, List.size_toArray, ptCells_len HD.out]; rfl) rfl ?_)
        | (refine wpList_build_pt (PC := PC) rfl (.tmp 15) (.tmp 16) rfl D i rfl rfl HPC.out HD.out ?_)
        | (refine wpList_load_run rfl 34 (.tmp 3) rfl _ _ rfl lH ?_))
      have hT6 := below_own_recs (hb.alloc hb.size _) hg' HO.out.lt
      have hH6 : Has w6 g3 34 (blist D).toArray := has_own (hH.past _) (HO.out.below ((Below.refl _ _).alloc (Nat.le_refl _) _)) (by decide) hg'
      have HO2 := Lib.hid (show OwnR ptRec 36 w.heap.size w6 v' (P.take (i + 1)) by rw [HT.out]; exact ho')
      clear ho' hg' hl' lH
      go_roundw
      case rel => exact ⟨i + 1, v', by omega, by go_num, rfl, HO2, hT6, hH6⟩
      case measure => (simp [intOf]; try omega)
    · have hii : ¬ (i : Int) < (m : Int) := by omega
      obtain rfl : i = m := by omega
      have HE := Lib.hid (show P.take i = P by rw [List.take_of_length_le (by rw [HPL.out]; omega)])
      go_wp2
      go_ret
      exact ⟨_, rfl, HE.out ▸ HO.out, hb⟩
set_option maxRecDepth 100000 in
set_option maxHeartbeats 8000000 in
theorem spc_any {g bm : Nat} {M : Cs.Mp} (a : Option Addr) (n q : Nat) (b : Option Addr) (m r : Nat) (t : Tx.T) (f : Bool) (w : World) (hS : SetB w g bm M) (ht : TxAt w a n q b m r t) (hn : n ≤ 1000000000) :
    Calls Tryz.prog 62 #[.pointer (some ⟨g, 0, none⟩), txv a n q b m r f] w fun e w' => ∃ v, e = .returned v ∧ OwnR coRec 39 w.heap.size w' v (Cs.spentOf M t) ∧ Below w.heap.size w w' := by
  obtain ⟨W1, hW1⟩ : ∃ ww, ww = w.alloc (.cells #[.slice a n q, .slice b m r, .bool f] 26 ) := ⟨_, rfl⟩
  have hB1 : Below w.heap.size w W1 := by rw [hW1]; exact (Below.refl _ _).alloc (Nat.le_refl _) _
  have hX : Has W1 w.heap.size 26 #[.slice a n q, .slice b m r, .bool f] := by rw [hW1]; exact Has.fresh _ _ _
  have lX := hX.load_agg (P := Tryz.prog) (t := 26 ) Tryz.underlying26 rfl (by kernel_rfl)
  obtain ⟨L, hL⟩ : ∃ L, L = Cs.spentOf M t := ⟨_, rfl⟩
  have HLL := Lib.hid (show L.length = n by rw [hL, Cs.spentOf, List.length_map, List.length_map, ht.sp.1])
  have HLA := Lib.hid (show ∀ (i : Nat) (p : Cs.Pt), (t.sp.map Cs.pt)[i]? = some p → L[i]? = some ((Cs.look M p).getD ⟨0, 0#64⟩) from fun i p hp => by rw [hL, Cs.spentOf, List.getElem?_map, hp]; rfl)
  rw [← hL]
  have HN := Lib.hid hn
  have HS := Lib.hid hS
  have HB := Lib.hid (spby_any a n q b m r t f W1 (ht.below hB1) hn)
  have HW := Lib.hid hW1
  have HPL := Lib.hid (show (t.sp.map Cs.pt).length = n by rw [List.length_map, ht.sp.1])
  have HCO := Lib.hid (show ∀ p, Tx.CoOk ((Cs.look M p).getD ⟨0, 0#64⟩) from hS.map.coOk)
  have hnmx : n ≤ 9223372036854775807 := ht.sp.2.1
  clear hW1 hX ht hn hL hS
  go_enter Tryz.func62, Tryz.ntmps62
  go_upto_region 1 with fail
  rw [← HW.out]
  go_wp2_with (first
    | (go_at_call 64; refine HB.out.mono ?_; rintro e w2 ⟨v2, rfl, ho2, hb2⟩; obtain ⟨pa, pc, rfl, hpc, h02, _, _⟩ := ho2.shape HPL.out; have hT2 := hB1.trans (hb2.mono hB1.size); have HRP := Lib.hid (ho2.low hB1.size); clear ho2 h02)
    | (refine wpList_load_run rfl 26 (.tmp 3) rfl _ _ rfl lX ?_))
  have hO0 : RowKit.Hid (OwnR coRec 39 w.heap.size w2 (.slice none 0 0) (L.take 0)) := Lib.hid (OwnR.nil coRec 39 w.heap.size w2)
  go_loopw [5, 11] (fun sv iv wr => ∃ (i : Nat) (ov : Value), i ≤ n ∧ iv = .int .i64 i ∧ ov = sv ∧ RowKit.Hid (OwnR coRec 39 w.heap.size wr ov (L.take i)) ∧ Below w.heap.size w wr ∧ RowKit.Hid (OwnR ptRec 36 w.heap.size wr (.slice pa n pc) (t.sp.map Cs.pt))) (fun _ iv _ => n - (intOf iv).toNat)
  case atStart => exact ⟨0, _, Nat.zero_le _, rfl, rfl, hO0, hT2, HRP⟩
  case round =>
    clear hO0 HRP
    obtain ⟨i, ov, hi, rfl, rfl, HO, hb, HR⟩ := hrel
    by_cases hlt : i < n
    · have hii : (i : Int) < (n : Int) := by omega
      have hi0 : (0 : Int) ≤ (i : Int) := by omega
      obtain ⟨p, hp⟩ := HR.out.recs.1.get hlt
      obtain ⟨x, hax, _⟩ := HR.out.recs.1.2.2.2 i p hp
      subst hax
      have hy := HR.out.recs.1.load_at Tryz.underlying36 rfl size_ptr hp
      have HP := Lib.hid (show Cs.ptOk p from HR.out.recs.1.okay hp)
      obtain ⟨c, hc⟩ : ∃ c, c = (Cs.look M p).getD ⟨0, 0#64⟩ := ⟨_, rfl⟩
      have HGOT := Lib.hid (show Cs.got M p false = .agg (coCells c).toArray by rw [hc]; rfl)
      have HC := Lib.hid (show Tx.CoOk c by rw [hc]; exact HCO.out p)
      have HT := Lib.hid (show L.take (i + 1) = L.take i ++ [c] by
        obtain ⟨h2, h3⟩ := List.getElem?_eq_some_iff.1 (HLA.out i p hp)
        rw [List.take_succ_eq_append_getElem h2, h3, hc])
      have HLN := Lib.hid (show (L.take i).length = i by rw [List.length_take, HLL.out]; omega)
      clear hp hc
      go_upto_region 5 with (first
        | (refine wpList_store_mid rfl 36 (.tmp 7) (.tmp 14) rfl wr.heap.size 0 (ptCells p.1 p.2).toArray rfl rfl (ptRec.there wr 36 (by kernel_rfl) HP.out) (ptRec.size_eq size_ptr HP.out) (ptRec.all_one p) ?_)
        | (refine wpList_load_run rfl 36 (.tmp 13) rfl _ _ rfl hy ?_))
      obtain ⟨w5, hw5⟩ : ∃ u, u = (wr.alloc (.cells zPt 36 )).setCells wr.heap.size 0 (ptCells p.1 p.2) := ⟨_, rfl⟩
      obtain ⟨hG, hb5⟩ := Rec.new (R := ptRec) (by kernel_rfl) HP.out hw5
      rw [← hw5]
      have hT5 := hb.trans (hb5.mono hb.size)
      obtain ⟨g5, hg5⟩ : ∃ g, g = wr.heap.size := ⟨_, rfl⟩
      rw [← hg5] at hG ⊢
      clear hw5 hg5 hy
      obtain ⟨ws, hws⟩ : ∃ ww, ww = w5.drew := ⟨_, rfl⟩
      have hBs : Below w.heap.size w ws := by rw [hws]; exact hT5.drew
      have hBs5 : Below w5.heap.size w5 ws := by rw [hws]; exact (Below.refl _ _).drew
      have hPs : Has ws g5 36 (ptCells p.1 p.2).toArray := by rw [hws]; exact hG.draw
      have hOs : OwnR coRec 39 w.heap.size ws ov (L.take i) := by rw [hws]; exact HO.out.below hb5.drew
      have hSs := HS.out.below hBs
      have hNE : ¬ ov.ownBlock = some g5 := fun e => by
        obtain ⟨cs', h'⟩ := ownr_block hOs e
        exact Has.ne_type hPs h' (by decide) rfl
      have hNS : ∀ j, j < w.heap.size → ¬ ov.ownBlock = some j := fun j hj e => by have := hOs.lt j e; omega
      have lP := fun (wq : World) (hSw : HeldM (fun j => ov.ownBlock = some j) ws wq) => (hPs.moved hSw.out hNE).load_agg (P := Tryz.prog) (t := 36 ) Tryz.underlying36 rfl (size_pt HP.out.1)
      have lM := fun (wq : World) (hSw : HeldM (fun j => ov.ownBlock = some j) ws wq) => (show wq.cell? ⟨g, 0, none⟩ = some (.map (some bm)) from (hSs.has.moved hSw.out (hNS _ HS.out.has.lt)).cell_at rfl)
      have HMW := Lib.hid (fun (wq : World) (hSw : HeldM (fun j => ov.ownBlock = some j) ws wq) => (show MapV wq (.map (some bm)) M from .inl ⟨bm, rfl, hSs.map.moved hSw.out (hNS _ HS.out.map.lt)⟩))
      refine wp_region_held_drew (S := HeldM (fun j => ov.ownBlock = some j) ws) (by kernel_rfl) (by rw [hws]; exact HeldM.refl _ _) (fun hHeld => ?_)
      rw [← hws] at hHeld ⊢
      clear hws
      refine take_at (v := ?_) 0 15 rfl rfl (by kernel_rfl) (by kernel_rfl) (by kernel_rfl) (fun _ _ _ h => h) hHeld (Or.inl ⟨by rfl, ?_⟩) rfl ?_
      rotate_left
      · intro wq hSw
        go_simp
        try with_reducible rfl
      simp only [List.set_cons_zero, List.set_cons_succ]
      refine take_at (v := ?_) 1 16 rfl rfl (by kernel_rfl) (by kernel_rfl) (by kernel_rfl) (fun _ _ _ h => h) hHeld (Or.inl ⟨by rfl, ?_⟩) rfl ?_
      rotate_left
      · intro wq hSw
        go_simp
        try with_reducible rfl
      simp only [List.set_cons_zero, List.set_cons_succ]
      refine take_at (v := ?_) 2 17 rfl rfl (by kernel_rfl) (by kernel_rfl) (by kernel_rfl) (fun _ _ _ h => h) hHeld (Or.inl ⟨by rfl, ?_⟩) rfl ?_
      rotate_left
      · intro wq hSw
        go_simp
        try with_reducible rfl
      simp only [List.set_cons_zero, List.set_cons_succ]
      refine take_at (v := ?_) 3 18 rfl rfl (by kernel_rfl) (by kernel_rfl) (by kernel_rfl) (fun _ _ _ h => h) hHeld (Or.inl ⟨by rfl, ?_⟩) rfl ?_
      rotate_left
      · intro wq hSw
        go_simp
        try with_reducible rfl
      simp only [List.set_cons_zero, List.set_cons_succ]
      refine take_at (v := ?_) 4 19 rfl rfl (by kernel_rfl) (by kernel_rfl) (by kernel_rfl) (fun _ _ _ h => h) hHeld (Or.inl ⟨by rfl, ?_⟩) rfl ?_
      rotate_left
      · intro wq hSw
        have hst := lM wq hSw
        go_simp
        try with_reducible rfl
      simp only [List.set_cons_zero, List.set_cons_succ]
      refine take_at 5 20 rfl rfl (by kernel_rfl) (by kernel_rfl) (by kernel_rfl) (fun _ _ _ h => h) hHeld (yieldsIf_load_agg (by rfl) 36 (.tmp 7) rfl _ _ (by rfl) (fun wq hSw => lP wq hSw)) rfl ?_
      simp only [List.set_cons_zero, List.set_cons_succ]
      refine take_at 6 21 rfl rfl (by kernel_rfl) (by kernel_rfl) (by kernel_rfl) (fun _ _ _ h => h) hHeld (yieldsIf_lookup_mv (M := M) (mv := .map (some bm)) (by rfl) (.tmp 19) (.tmp 20) false rfl rfl p rfl HP.out.1 (fun wq hSw => HMW.out wq hSw) HGOT.out) rfl ?_
      simp only [List.set_cons_zero, List.set_cons_succ]
      refine wpAnyH_ready (rs := [7]) (by kernel_rfl) (by simp) ?_
      refine AllReadyH.cons rfl (fun K hK => ?_) AllReadyH.nil
      refine step_build_at 22 rfl (by rfl) (.tmp 21) 24 rfl 39 Tryz.underlying24 info_coin (by decide) (by decide) (coCells c).toArray rfl rfl ?_
      have hba : Below ws.heap.size ws (ws.alloc (.cells (coCells c).toArray 39 )) := (Below.refl _ _).alloc (Nat.le_refl _) _
      refine hK.out _ _ (HeldM.of (Moved.of_below hba)) (fun _ => ?_)
      clear hK K
      replace hHeld := HeldM.of (Moved.of_below (F := (fun j => ov.ownBlock = some j) ) hba)
      simp only [List.set_cons_zero, List.set_cons_succ]
      refine wpAnyH_ready (rs := [8]) (by kernel_rfl) (by simp) ?_
      refine AllReadyH.cons rfl (fun K hK => ?_) AllReadyH.nil
      refine step_append_at (R := coRec) 23 rfl (by rfl) (.tmp 15) (.tmp 22) 24 rfl 39 Tryz.underlying24 info_coin (by kernel_rfl) (by decide) w.heap.size ov _ rfl (hOs.below hba) (some ⟨ws.heap.size, 0, none⟩) 1 1 [c] rfl (co_fresh HC.out) (fun e => by cases e) (by rw [HLN.out]; have := HN.out; omega) (by have := hBs.size; simp; omega) (fun v' w6 ho' hg' hl' => ?_)
      have hm6 : Moved (fun j => ov.ownBlock = some j) ws w6 := (Moved.of_below hba).trans (Moved.of_grown (F := (fun j => ov.ownBlock = some j) ) hg' (fun k e => e)) (fun k hk => .inl hk)
      refine hK.out _ _ (HeldM.of hm6) (fun _ => ?_)
      clear hK K
      replace hHeld := HeldM.of hm6
      simp only [List.set_cons_zero, List.set_cons_succ]
      refine take_at (v := ?_) 9 5 rfl rfl (by kernel_rfl) (by kernel_rfl) (by kernel_rfl) (fun _ _ _ h => h) hHeld (Or.inl ⟨by rfl, ?_⟩) rfl ?_
      rotate_left
      · intro wq hSw
        go_simp
        try with_reducible rfl
      simp only [List.set_cons_zero, List.set_cons_succ]
      refine wpAnyH_done (by kernel_rfl) ?_ _
      have hT6 : Below w.heap.size w w6 := hBs.trans (hm6.below (fun k e => hOs.lt k e) hBs.size)
      have HO2 := Lib.hid (show OwnR coRec 39 w.heap.size w6 v' (L.take (i + 1)) by rw [HT.out]; exact ho')
      have HR2 := Lib.hid (((HR.out.below hb5).below hBs5).moved hm6 (fun k hk e => by
        obtain ⟨cs1, h1⟩ := ownr_block ((HR.out.below hb5).below hBs5) hk
        obtain ⟨cs2, h2⟩ := ownr_block hOs e
        exact Has.ne_type h1 h2 (by decide) rfl))
      clear ho' hg' hl' lP lM
      go_wp2
      go_roundw
      case rel => exact ⟨i + 1, v', by omega, by go_num, rfl, HO2, hT6, HR2⟩
      case measure => (simp [intOf]; try omega)
    · have hii : ¬ (i : Int) < (n : Int) := by omega
      obtain rfl : i = n := by omega
      have HE := Lib.hid (show L.take i = L by rw [List.take_of_length_le (by rw [HLL.out]; omega)])
      go_wp2
      go_ret
      exact ⟨_, rfl, HE.out ▸ HO.out, hb⟩
end Go.Proofs.YtdfplenniamnoaaGreatDoor

/-! blocks: their ids, which are good (pure); digests, blocks as records -/
namespace Go.Proofs.YtdfplenniamnoaaGreatDoor
open Go Go.RowKit Go.ChangeShapes Go.WideShapes
namespace Ch
/-- a block's wide ids, its id -/
def wides (ts : List Tx.T) : List (List (BitVec 8)) := ts.map (Tx.idOf true)
def bytes (prev : List (BitVec 8)) (h : Int) (ts : List Tx.T) : List (BitVec 8) := prev ++ Pk.num (BitVec.ofInt 64 h) 8 ++ Dg.tree (wides ts)
def idOf (prev : List (BitVec 8)) (h : Int) (ts : List Tx.T) : List (BitVec 8) := Dg.double (bytes prev h ts)
theorem idOf_len (prev : List (BitVec 8)) (h : Int) (ts : List Tx.T) : (idOf prev h ts).length = 32 := Dg.double_len _
theorem wides_len (ts : List Tx.T) : (wides ts).length = ts.length := List.length_map _
/-- the first transaction that isn't good -/
def bad : List Tx.T → Int
  | [] => 0
  | t :: r => if Tx.check t = 0 then bad r else Tx.check t
theorem bad_all : ∀ {ts : List Tx.T}, (∀ t, t ∈ ts → Tx.check t = 0) → bad ts = 0
  | [], _ => rfl
  | t :: r, h => by
    unfold bad
    rw [if_pos (h t List.mem_cons_self)]
    exact bad_all (fun u hu => h u (List.mem_cons_of_mem _ hu))
theorem bad_good : ∀ {ts : List Tx.T}, bad ts = 0 → ∀ t, t ∈ ts → Tx.check t = 0
  | [], _, t, ht => by cases ht
  | u :: r, h, t, ht => by
    unfold bad at h
    by_cases hu : Tx.check u = 0
    · rw [if_pos hu] at h
      rcases List.mem_cons.1 ht with rfl | ht
      · exact hu
      · exact bad_good h t ht
    · rw [if_neg hu] at h
      exact absurd h hu
theorem bad_at : ∀ {ts : List Tx.T} {i : Nat} {t : Tx.T}, (∀ (j : Nat) (u : Tx.T), j < i → ts[j]? = some u → Tx.check u = 0) → ts[i]? = some t → ¬ Tx.check t = 0 → bad ts = Tx.check t
  | [], i, t, _, h, _ => by simp at h
  | u :: r, 0, t, _, h, hn => by
    obtain rfl : u = t := by simpa using h
    unfold bad
    rw [if_neg hn]
  | u :: r, i + 1, t, hj, h, hn => by
    unfold bad
    rw [if_pos (hj 0 u (by omega) rfl)]
    exact bad_at (i := i) (fun j v hlt hv => hj (j + 1) v (by omega) (by simpa using hv)) (by simpa using h) hn
/-- is one of them there twice? -/
def rep (L : List (List (BitVec 8))) : Bool := decide (¬ L.Nodup)
theorem rep_at {L : List (List (BitVec 8))} {i : Nat} {x : List (BitVec 8)} (h : L[i]? = some x) (hm : x ∈ L.take i) : rep L = true := by
  unfold rep
  rw [decide_eq_true_eq]
  intro hn
  obtain ⟨j, hj⟩ := List.mem_iff_getElem?.1 hm
  rw [List.getElem?_take] at hj
  split at hj
  · next hlt =>
    have h1 := (List.getElem?_eq_some_iff.1 hj)
    have h2 := (List.getElem?_eq_some_iff.1 h)
    obtain ⟨l1, e1⟩ := h1
    obtain ⟨l2, e2⟩ := h2
    exact List.pairwise_iff_getElem.1 hn j i l1 l2 hlt (e1.trans e2.symm)
  · cases hj
theorem nodup_step {L : List (List (BitVec 8))} {i : Nat} {x : List (BitVec 8)} (h : L[i]? = some x) (hn : (L.take i).Nodup) (hm : ¬ x ∈ L.take i) : (L.take (i + 1)).Nodup := by
  obtain ⟨h2, h3⟩ := List.getElem?_eq_some_iff.1 h
  rw [List.take_succ_eq_append_getElem h2, h3, List.nodup_append]
  refine ⟨hn, by simp, fun a ha b hb => ?_⟩
  rw [List.mem_singleton.1 hb]
  exact fun e => hm (e ▸ ha)
theorem rep_no {L : List (List (BitVec 8))} (hn : (L.take L.length).Nodup) : rep L = false := by
  rw [List.take_length] at hn
  unfold rep
  simp [hn]
/-- what Check answers -/
def chk (h : Int) (ts : List Tx.T) : Int := if 1 ≤ h ∧ h ≤ 2147483648 then if ts.length ≤ 60 then if bad ts = 0 then if rep (wides ts) = true then 6 else 0 else bad ts else 3 else 2
/-- a block, with the places where it lies -/
structure B where
  prev : List (BitVec 8)
  h : Int
  a : Option Addr
  n : Nat
  q : Nat
  vs : List Tx.V
def tsOf (vs : List Tx.V) : List Tx.T := vs.map (·.t)
theorem tsOf_len (vs : List Tx.V) : (tsOf vs).length = vs.length := List.length_map _
end Ch
def bkCells (b : Ch.B) : List Value := blist b.prev ++ [.int .i64 b.h, .slice b.a b.n b.q]
theorem bkCells_len {b : Ch.B} (h : b.prev.length = 32) : (bkCells b).length = 34 := by simp [bkCells, blist_length, h]
structure Ch.B.At (w : World) (b : Ch.B) : Prop where
  p : b.prev.length = 32
  h : -9223372036854775808 ≤ b.h ∧ b.h < 9223372036854775808
  ts : Txs w b.a b.n b.vs
  nq : b.n ≤ b.q ∧ (b.a = none → b.q = 0)
theorem Ch.B.At.below {w w' : World} {b : Ch.B} (h : b.At w) (hb : Below w.heap.size w w') : b.At w' := ⟨h.p, h.h, h.ts.below hb, h.nq⟩
/-- digests as records -/
def haRec : Rec (List (BitVec 8)) where
  k := 32
  cells := blist
  ok := fun l => l.length = 32
  pos := by omega
  len t h := by rw [blist_length, h]
  one t v hv := blist_one t v hv
theorem info_ha : (Tryz.prog.info? 34).map (fun i => (i.zero, i.size, i.bytes)) = some (some (.agg z32), haRec.k, 32) := by kernel_rfl
theorem size_ha : (Tryz.prog.info? 34).map (·.size) = some haRec.k := by kernel_rfl
theorem Recs.rows8 {w : World} {a : Option Addr} {n : Nat} {L : List (List (BitVec 8))} (h : Recs haRec w a n L) : Rows8 32 w a n L := by
  refine ⟨h.1, h.2.1, h.2.2.1, fun i hi => ?_⟩
  obtain ⟨t, ht⟩ := h.get hi
  obtain ⟨x, rfl, hx⟩ := h.2.2.2 i t ht
  refine ⟨x, rfl, fun j hj => ?_⟩
  have hl : t.length = 32 := h.okay ht
  rw [List.getD_eq_getElem?_getD, ht]
  exact hx j _ (blist_at t j (by omega))
theorem ha_fresh {w : World} {l : List (BitVec 8)} (hl : l.length = 32) : Recs haRec (w.alloc (.cells (blist l).toArray 34)) (some ⟨w.heap.size, 0, none⟩) 1 [l] :=
  recs_fresh (R := haRec) (L := [l]) (fun q hq => by rw [List.mem_singleton.1 hq]; exact hl) (Has.fresh _ _ _) (by show 1 ≤ maxLen; unfold maxLen; omega) (fun j u hj => by
    have e : haRec.row [l] = blist l := by show haRec.cells l ++ [] = _; rw [List.append_nil]; rfl
    rw [e] at hj
    rw [← Array.getElem?_toList]
    exact hj)
end Go.Proofs.YtdfplenniamnoaaGreatDoor
