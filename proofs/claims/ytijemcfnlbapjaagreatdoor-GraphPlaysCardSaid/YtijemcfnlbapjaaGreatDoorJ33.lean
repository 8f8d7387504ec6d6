/- package graph: Get, Spender, Coin; the reference 14: Get (mkgsf.py) -/
import Derived.Test.YtijemcfnlbapjaaGreatDoorJ32
import Derived.Test.YtijemcfnlbapjaaGreatDoorJ30
namespace Go.Proofs.YtijemcfnlbapjaaGreatDoor
open Go Go.RowKit Go.ChangeShapes Go.WideShapes
namespace Gr
abbrev tx0 : Tx.T := ⟨[], [], false⟩
theorem tx0_at (w : World) : TxAt w none 0 0 none 0 0 tx0 :=
  ⟨⟨rfl, (by unfold maxLen; omega), (fun _ h => by cases h), fun i t h => by cases h⟩, ⟨rfl, (by unfold maxLen; omega), (fun _ h => by cases h), fun i t h => by cases h⟩, Nat.le_refl _, Nat.le_refl _, fun _ => rfl, fun _ => rfl⟩
def getT (M : List Nd) (id : List (BitVec 8)) : Tx.T := ((find M id).map (·.x.t)).getD tx0
def GetPost (M : List Nd) (id : List (BitVec 8)) (w0 : World) (e : Ending) (w' : World) : Prop :=
  ∃ (a : Option Addr) (n q : Nat) (b : Option Addr) (m r : Nat), e = .returned (.tuple #[txv a n q b m r (getT M id).firm, .bool (find M id).isSome]) ∧ TxAt w' a n q b m r (getT M id) ∧ Below w0.heap.size w0 w'
end Gr
set_option maxRecDepth 100000 in
set_option maxHeartbeats 8000000 in
theorem gGet_any {w : World} {g bn bs : Nat} {M : List Gr.Nd} {nx : Nat} (h : Gr.At w g bn bs M nx) (id : List (BitVec 8)) (hid : id.length = 32) :
    Calls Tryz.prog 15 #[.pointer (some ⟨g, 0, none⟩), .agg (blist id).toArray] w (Gr.GetPost M id w) := by
  obtain ⟨W1, hW1⟩ : ∃ ww, ww = (w.alloc (.cells (blist id).toArray 46)).alloc (.cells zTx 34) := ⟨_, rfl⟩
  have hB1 : Below w.heap.size w W1 := by rw [hW1]; exact ((Below.refl _ _).alloc (Nat.le_refl _) _).alloc (by simp) _
  have hP1 : Has W1 w.heap.size 46 (blist id).toArray := by rw [hW1]; exact (Has.fresh _ _ _).past _
  have hR1 : Has W1 (w.heap.size + 1) 34 zTx := by rw [hW1]; exact Has.fresh_at _ _ _ (by simp)
  have HW1 := Lib.hid hW1
  have HIDL := Lib.hid hid
  have HH := Lib.hid (h.below hB1)
  have HB1 := Lib.hid hB1
  have HR1 := Lib.hid hR1
  have hbd := fun (w : World) => run_build (P := Tryz.prog) w 34 #[] zTx (by kernel_rfl)
  unfold Gr.GetPost
  clear hW1 h hid
  go_enter Tryz.func15, Tryz.ntmps15
  go_upto_region 1 with fail
  rw [← HW1.out]
  obtain ⟨ws, hws⟩ : ∃ ww, ww = W1.drew := ⟨_, rfl⟩
  have hB1s : Below W1.heap.size W1 ws := by rw [hws]; exact (Below.refl _ _).drew
  have hBs : Below w.heap.size w ws := hB1.trans (hB1s.mono hB1.size)
  have hPs : Has ws w.heap.size 46 (blist id).toArray := by rw [hws]; exact hP1.draw
  have HAs := Lib.hid (HH.out.below hB1s)
  have lP := fun (wq : World) (hSw : Held ws wq) => (hPs.under hSw.below hPs.lt).load_agg (P := Tryz.prog) (t := 46) Tryz.underlying46 rfl (size_hs HIDL.out)
  have HM := Lib.hid (fun (wq : World) (hSw : Held ws wq) => HAs.out.grp.map.below hSw.below)
  have HA := fun (wq : World) (hSw : Held ws wq) => gall_any (HAs.out.has.under hSw.below HAs.out.has.lt)
  cases hf : Gr.find M id with
  | none =>
    have HGOT := Lib.hid (show Mp.got Gr.dH (Gr.ents M) id true = .tuple #[.pointer none, .bool false] by
      show Value.tuple #[Gr.ptrV ((Mp.look (Gr.ents M) id).getD none), .bool (Mp.look (Gr.ents M) id).isSome] = _
      rw [Gr.look_ents, hf]
      rfl)
    have HT := Lib.hid (show Gr.getT M id = Gr.tx0 ∧ (Gr.find M id).isSome = false by unfold Gr.getT; rw [hf]; exact ⟨rfl, rfl⟩)
    clear hf
    refine wp_region_held_drew (S := Held ws) (by kernel_rfl) (by rw [hws]; exact Held.refl _) (fun hHeld => ?_)
    rw [← hws] at hHeld ⊢
    clear hws hB1 hP1 HW1
    refine tka (v := ?_) 0 9 rfl rfl hHeld (Or.inl ⟨by rfl, ?_⟩) rfl ?_
    rotate_left
    · intro wq hSw
      go_simp
      try with_reducible rfl
    simp only [ts0, ts1]
    refine tka 2 11 rfl rfl hHeld (yieldsIf_load_agg (by rfl) 46 (.tmp 3) rfl _ _ (by rfl) (fun wq hSw => lP wq hSw)) rfl ?_
    simp only [ts0, ts1]
    refine wpAnyH_ready (rs := [1]) (by kernel_rfl) (by simp) ?_
    refine AllReadyH.cons rfl (fun K hK => ?_) AllReadyH.nil
    go_simp
    go_at_call 56
    refine (HA _ hHeld).mono ?_
    rintro e w2 ⟨rfl, rfl⟩
    refine hK.out _ _ hHeld (fun _ => ?_)
    clear hK K
    try simp only [Act.put, List.setIfInBounds_toArray, ts0, ts1]
    refine tka 3 12 rfl rfl hHeld (yieldsIf_lookup_g (D := Gr.dH) (M := Gr.ents M) (b := bn) (by rfl) (.tmp 10) (.tmp 11) true (by rfl) (by rfl) id (by rfl) HIDL.out (fun wq hSw => HM.out wq hSw)) rfl ?_
    simp only [ts0, ts1]
    rw [HGOT.out]
    refine tka (v := ?_) 4 8 rfl rfl hHeld (Or.inl ⟨by rfl, ?_⟩) rfl ?_
    rotate_left
    · intro wq hSw
      go_simp
      try with_reducible rfl
    simp only [ts0, ts1]
    refine tka (v := ?_) 5 13 rfl rfl hHeld (Or.inl ⟨by rfl, ?_⟩) rfl ?_
    rotate_left
    · intro wq hSw
      go_simp
      try with_reducible rfl
    simp only [ts0, ts1]
    refine tka (v := ?_) 6 14 rfl rfl hHeld (Or.inl ⟨by rfl, ?_⟩) rfl ?_
    rotate_left
    · intro wq hSw
      go_simp
      try with_reducible rfl
    simp only [ts0, ts1]
    refine tka (v := ?_) 7 6 rfl rfl hHeld (Or.inl ⟨by rfl, ?_⟩) rfl ?_
    rotate_left
    · intro wq hSw
      go_simp
      try with_reducible rfl
    simp only [ts0, ts1]
    refine tka (v := ?_) 8 7 rfl rfl hHeld (Or.inl ⟨by rfl, ?_⟩) rfl ?_
    rotate_left
    · intro wq hSw
      go_simp
      try with_reducible rfl
    simp only [ts0, ts1]
    refine wpAnyH_done (by kernel_rfl) ?_ _
    clear lP HA hHeld
    have hRr := HR1.out.under hB1s HR1.out.lt
    go_wp2_with (refine wpList_store_mid rfl 34 (.tmp 4) (.tmp 17) rfl (w.heap.size + 1) 0 zTx rfl rfl (hRr.there 0 3 (Nat.le_refl _)) (by kernel_rfl) (by kernel_rfl) ?_)
    have hE := hRr.whole_cs (cs2 := zTx) rfl
    exact bodyPost_ret (results_cellslot rfl _ _ (w.heap.size + 1) rfl _ _ (hE.load_var Tryz.underlying34 rfl (by kernel_rfl)) rfl) rfl ⟨none, 0, 0, none, 0, 0, by rw [HT.out.1, HT.out.2]; rfl, by rw [HT.out.1]; exact Gr.tx0_at _, below_setAll (by omega) _ 0 hBs⟩
  | some x =>
    have HGOT := Lib.hid (show Mp.got Gr.dH (Gr.ents M) id true = .tuple #[.pointer (some ⟨x.g, 0, none⟩), .bool true] by
      show Value.tuple #[Gr.ptrV ((Mp.look (Gr.ents M) id).getD none), .bool (Mp.look (Gr.ents M) id).isSome] = _
      rw [Gr.look_ents, hf]
      rfl)
    have HT := Lib.hid (show Gr.getT M id = x.x.t ∧ (Gr.find M id).isSome = true by unfold Gr.getT; rw [hf]; exact ⟨rfl, rfl⟩)
    have HND := Lib.hid (HAs.out.grp.nd x (Gr.find_mem hf).1)
    have ltx := HND.out.ltx
    clear hf
    refine wp_region_held_drew (S := Held ws) (by kernel_rfl) (by rw [hws]; exact Held.refl _) (fun hHeld => ?_)
    rw [← hws] at hHeld ⊢
    clear hws hB1 hP1 HW1
    refine tka (v := ?_) 0 9 rfl rfl hHeld (Or.inl ⟨by rfl, ?_⟩) rfl ?_
    rotate_left
    · intro wq hSw
      go_simp
      try with_reducible rfl
    simp only [ts0, ts1]
    refine tka 2 11 rfl rfl hHeld (yieldsIf_load_agg (by rfl) 46 (.tmp 3) rfl _ _ (by rfl) (fun wq hSw => lP wq hSw)) rfl ?_
    simp only [ts0, ts1]
    refine wpAnyH_ready (rs := [1]) (by kernel_rfl) (by simp) ?_
    refine AllReadyH.cons rfl (fun K hK => ?_) AllReadyH.nil
    go_simp
    go_at_call 56
    refine (HA _ hHeld).mono ?_
    rintro e w2 ⟨rfl, rfl⟩
    refine hK.out _ _ hHeld (fun _ => ?_)
    clear hK K
    try simp only [Act.put, List.setIfInBounds_toArray, ts0, ts1]
    refine tka 3 12 rfl rfl hHeld (yieldsIf_lookup_g (D := Gr.dH) (M := Gr.ents M) (b := bn) (by rfl) (.tmp 10) (.tmp 11) true (by rfl) (by rfl) id (by rfl) HIDL.out (fun wq hSw => HM.out wq hSw)) rfl ?_
    simp only [ts0, ts1]
    rw [HGOT.out]
    refine tka (v := ?_) 4 8 rfl rfl hHeld (Or.inl ⟨by rfl, ?_⟩) rfl ?_
    rotate_left
    · intro wq hSw
      go_simp
      try with_reducible rfl
    simp only [ts0, ts1]
    refine tka (v := ?_) 5 13 rfl rfl hHeld (Or.inl ⟨by rfl, ?_⟩) rfl ?_
    rotate_left
    · intro wq hSw
      go_simp
      try with_reducible rfl
    simp only [ts0, ts1]
    refine tka (v := ?_) 6 14 rfl rfl hHeld (Or.inl ⟨by rfl, ?_⟩) rfl ?_
    rotate_left
    · intro wq hSw
      go_simp
      try with_reducible rfl
    simp only [ts0, ts1]
    refine tka (v := ?_) 7 6 rfl rfl hHeld (Or.inl ⟨by rfl, ?_⟩) rfl ?_
    rotate_left
    · intro wq hSw
      go_simp
      try with_reducible rfl
    simp only [ts0, ts1]
    refine tka (v := ?_) 8 7 rfl rfl hHeld (Or.inl ⟨by rfl, ?_⟩) rfl ?_
    rotate_left
    · intro wq hSw
      go_simp
      try with_reducible rfl
    simp only [ts0, ts1]
    refine wpAnyH_done (by kernel_rfl) ?_ _
    clear lP HA hHeld
    have HSM := Lib.hid HND.out.sm
    have HRr := Lib.hid (HR1.out.under hB1s HR1.out.lt)
    have HCP := Lib.hid (pcopy_any x.x.a x.x.n x.x.q x.x.b x.x.m x.x.r x.x.t x.x.t.firm rfl ws HND.out.at (by have := HSM.out.1; have := HND.out.at.sp.1; omega) (by have := HSM.out.2.1; have := HND.out.at.co.1; omega))
    have HSB := Lib.hid hBs
    clear hBs hPs hR1 hB1s
    go_wp2_with (first
      | (refine wpList_store_mid rfl 34 (.tmp 4) (.tmp 22) rfl (w.heap.size + 1) 0 (vCells ⟨oa, x.x.n, oq, ob, x.x.m, orr, x.x.t⟩).toArray rfl rfl ((HRr.out.under hb6 HRr.out.lt).there 0 3 (Nat.le_refl _)) (by kernel_rfl) (vRec.all_one ⟨oa, x.x.n, oq, ob, x.x.m, orr, x.x.t⟩) ?_)
      | (go_at_call 57; refine HCP.out.mono ?_; rintro e w6 ⟨oa, oq, ob, orr, rfl, ho6, hb6⟩)
      | (refine wpList_load_run rfl 34 (.tmp 20) rfl _ _ rfl ltx ?_))
    have hE := (HRr.out.under hb6 HRr.out.lt).whole_cs (cs2 := (vCells ⟨oa, x.x.n, oq, ob, x.x.m, orr, x.x.t⟩).toArray) rfl
    have hm : Moved (fun j => j = w.heap.size + 1) w6 (w6.setCells (w.heap.size + 1) 0 (vCells ⟨oa, x.x.n, oq, ob, x.x.m, orr, x.x.t⟩)) := Moved.putAll (F := fun j => j = w.heap.size + 1) (.inl rfl) _ 0 (Moved.refl _ _)
    have hlt := HRr.out.lt
    have ho7 := (Gr.txown_moved ho6 hm (fun j hj e => by have := ho6.sp.lt j hj; omega) (fun j hj e => by have := ho6.co.lt j hj; omega)).at
    exact bodyPost_ret (results_cellslot rfl _ _ (w.heap.size + 1) rfl _ _ (hE.load_var Tryz.underlying34 rfl (by kernel_rfl)) rfl) rfl ⟨oa, x.x.n, oq, ob, x.x.m, orr, by rw [HT.out.1, HT.out.2]; rfl, by rw [HT.out.1]; exact ho7, below_setAll (by omega) _ 0 (HSB.out.trans (hb6.mono HSB.out.size))⟩
namespace Gr
def spdI (M : List Nd) (p : Cs.Pt) : List (BitVec 8) := ((spd M p).map (·.id)).getD (List.replicate 32 0#8)
end Gr
set_option maxRecDepth 100000 in
set_option maxHeartbeats 8000000 in
theorem gSpender_any {w : World} {g bn bs : Nat} {M : List Gr.Nd} {nx : Nat} (h : Gr.At w g bn bs M nx) (p : Cs.Pt) (hp : Cs.ptOk p) :
    Calls Tryz.prog 23 #[.pointer (some ⟨g, 0, none⟩), .agg (ptCells p.1 p.2).toArray] w fun e w' => e = .returned (.tuple #[.agg (blist (Gr.spdI M p)).toArray, .bool (Gr.spd M p).isSome]) ∧ Below w.heap.size w w' := by
  obtain ⟨W1, hW1⟩ : ∃ ww, ww = (w.alloc (.cells (ptCells p.1 p.2).toArray 58)).alloc (.cells z32 46) := ⟨_, rfl⟩
  have hB1 : Below w.heap.size w W1 := by rw [hW1]; exact ((Below.refl _ _).alloc (Nat.le_refl _) _).alloc (by simp) _
  have hP1 : Has W1 w.heap.size 58 (ptCells p.1 p.2).toArray := by rw [hW1]; exact (Has.fresh _ _ _).past _
  have hR1 : Has W1 (w.heap.size + 1) 46 z32 := by rw [hW1]; exact Has.fresh_at _ _ _ (by simp)
  have lP := hP1.load_agg (P := Tryz.prog) (t := 58) Tryz.underlying58 rfl (gsize_pt hp.1)
  have hA1 := h.below hB1
  obtain ⟨S, hS, hl⟩ := hA1.sp
  have HC := gspender_any hA1.has hS p hp
  rw [hl p] at HC
  have HH := Lib.hid hA1
  have HW1 := Lib.hid hW1
  have HB1 := Lib.hid hB1
  have HR1 := Lib.hid hR1
  have hbd := fun (w : World) => run_build (P := Tryz.prog) w 46 #[] z32 (by kernel_rfl)
  clear hW1 h hS hl hB1 hP1 hR1
  cases hf : Gr.spd M p with
  | none =>
    rw [hf] at HC
    have HC := Lib.hid (show Calls Tryz.prog 63 #[.pointer (some ⟨g, 0, none⟩), .agg (ptCells p.1 p.2).toArray] W1 fun e w' => e = .returned (.tuple #[.pointer none, .bool false]) ∧ Below W1.heap.size W1 w' from HC)
    have HE := Lib.hid (show Gr.spdI M p = List.replicate 32 0#8 ∧ (Gr.spd M p).isSome = false by unfold Gr.spdI; rw [hf]; exact ⟨rfl, rfl⟩)
    clear hf
    go_enter Tryz.func23, Tryz.ntmps23
    go_upto_region 1 with fail
    rw [← HW1.out]
    go_wp2_with (first
      | (refine wpList_store_mid rfl 46 (.tmp 4) (.tmp 16) rfl (w.heap.size + 1) 0 z32 rfl rfl (hRr.there 0 32 (Nat.le_refl _)) (by kernel_rfl) (by kernel_rfl) ?_)
      | (go_at_call 63; refine HC.out.mono ?_; rintro e w2 ⟨rfl, hb2⟩; have hRr := HR1.out.under hb2 HR1.out.lt)
      | (refine wpList_load_run rfl 58 (.tmp 3) rfl _ _ rfl lP ?_))
    have hE := hRr.whole_cs (cs2 := z32) rfl
    exact bodyPost_ret (results_cellslot rfl _ _ (w.heap.size + 1) rfl _ _ (hE.load_var Tryz.underlying46 rfl (by kernel_rfl)) rfl) rfl ⟨by rw [HE.out.1]; rfl, below_setAll (by omega) _ 0 (HB1.out.trans (hb2.mono HB1.out.size))⟩
  | some x =>
    rw [hf] at HC
    have HC := Lib.hid (show Calls Tryz.prog 63 #[.pointer (some ⟨g, 0, none⟩), .agg (ptCells p.1 p.2).toArray] W1 fun e w' => e = .returned (.tuple #[.pointer (some ⟨x.g, 0, none⟩), .bool true]) ∧ Below W1.heap.size W1 w' from HC)
    have HE := Lib.hid (show Gr.spdI M p = x.id ∧ (Gr.spd M p).isSome = true by unfold Gr.spdI; rw [hf]; exact ⟨rfl, rfl⟩)
    have HND := Lib.hid (HH.out.grp.nd x (Gr.spd_mem hf).1)
    have HXL := Lib.hid HND.out.id
    clear hf
    go_enter Tryz.func23, Tryz.ntmps23
    go_upto_region 1 with fail
    rw [← HW1.out]
    go_wp2_with (first
      | (refine wpList_store_mid rfl 46 (.tmp 4) (.tmp 20) rfl (w.heap.size + 1) 0 (blist x.id).toArray rfl rfl (hRr.there 0 (blist x.id).toArray.size (by rw [List.size_toArray, blist_length, HXL.out]; decide)) (size_hs HXL.out) (Gr.hsRec.all_one x.id) ?_)
      | (go_at_call 63; refine HC.out.mono ?_; rintro e w2 ⟨rfl, hb2⟩; have hRr := HR1.out.under hb2 HR1.out.lt; have lid := (HND.out.below hb2).lid)
      | (refine wpList_load_run rfl 46 (.tmp 19) rfl _ _ rfl lid ?_)
      | (refine wpList_load_run rfl 58 (.tmp 3) rfl _ _ rfl lP ?_))
    have hE := hRr.whole_cs (cs2 := (blist x.id).toArray) (by rw [List.size_toArray, blist_length, HXL.out]; rfl)
    exact bodyPost_ret (results_cellslot rfl _ _ (w.heap.size + 1) rfl _ _ (hE.load_var Tryz.underlying46 rfl (size_hs HXL.out)) rfl) rfl ⟨by rw [HE.out.1]; rfl, below_setAll (by omega) _ 0 (HB1.out.trans (hb2.mono HB1.out.size))⟩
namespace Gr
def coinO (M : List Nd) (p : Cs.Pt) : Option Tx.Co := (maker M p).bind fun x => x.x.t.co[p.2.toNat]?
def coinV (M : List Nd) (p : Cs.Pt) : Tx.Co := (coinO M p).getD ⟨0, 0#64⟩
end Gr
set_option maxRecDepth 100000 in
set_option maxHeartbeats 8000000 in
theorem gCoin_any {w : World} {g bn bs : Nat} {M : List Gr.Nd} {nx : Nat} (h : Gr.At w g bn bs M nx) (p : Cs.Pt) (hp : Cs.ptOk p) :
    Calls Tryz.prog 35 #[.pointer (some ⟨g, 0, none⟩), .agg (ptCells p.1 p.2).toArray] w fun e w' => e = .returned (.tuple #[.agg (coCells (Gr.coinV M p)).toArray, .bool (Gr.coinO M p).isSome]) ∧ Below w.heap.size w w' := by
  obtain ⟨W1, hW1⟩ : ∃ ww, ww = (w.alloc (.cells (ptCells p.1 p.2).toArray 58)).alloc (.cells #[.int .i64 0, .int .u64 0] 74) := ⟨_, rfl⟩
  have hB1 : Below w.heap.size w W1 := by rw [hW1]; exact ((Below.refl _ _).alloc (Nat.le_refl _) _).alloc (by simp) _
  have hP1 : Has W1 w.heap.size 58 (ptCells p.1 p.2).toArray := by rw [hW1]; exact (Has.fresh _ _ _).past _
  have hR1 : Has W1 (w.heap.size + 1) 74 #[.int .i64 0, .int .u64 0] := by rw [hW1]; exact Has.fresh_at _ _ _ (by simp)
  have lP := hP1.load_agg (P := Tryz.prog) (t := 58) Tryz.underlying58 rfl (gsize_pt hp.1)
  have hA1 := h.below hB1
  have HC := gcreator_any hA1.has hA1.grp p hp
  have HH := Lib.hid hA1
  have HW1 := Lib.hid hW1
  have HB1 := Lib.hid hB1
  have HR1 := Lib.hid hR1
  have HP1 := Lib.hid hP1
  have HPO := Lib.hid hp
  have HF := Lib.hid (show ∀ x, x ∈ M → ∀ j, x.F j → j < w.heap.size from fun x hx j hj => (h.grp.nd x hx).lt hj)
  have hbd := fun (w : World) => run_build (P := Tryz.prog) w 74 #[] #[.int .i64 0, .int .u64 0] (by kernel_rfl)
  clear hW1 h hB1 hP1 hR1 hp
  cases hf : Gr.maker M p with
  | none =>
    rw [hf] at HC
    have HC := Lib.hid (show Calls Tryz.prog 72 #[.pointer (some ⟨g, 0, none⟩), .agg (ptCells p.1 p.2).toArray] W1 fun e w' => e = .returned (.tuple #[.pointer none, .bool false]) ∧ Below W1.heap.size W1 w' from HC)
    have HE := Lib.hid (show Gr.coinV M p = ⟨0, 0#64⟩ ∧ (Gr.coinO M p).isSome = false by unfold Gr.coinV Gr.coinO; rw [hf]; exact ⟨rfl, rfl⟩)
    clear hf
    go_enter Tryz.func35, Tryz.ntmps35
    go_upto_region 1 with fail
    rw [← HW1.out]
    go_wp2_with (first
      | (refine wpList_store_mid rfl 74 (.tmp 4) (.tmp 16) rfl (w.heap.size + 1) 0 #[.int .i64 0, .int .u64 0] rfl rfl (hRr.there 0 2 (Nat.le_refl _)) (by kernel_rfl) (by kernel_rfl) ?_)
      | (go_at_call 72; refine HC.out.mono ?_; rintro e w2 ⟨rfl, hb2⟩; have hRr := HR1.out.under hb2 HR1.out.lt)
      | (refine wpList_load_run rfl 58 (.tmp 3) rfl _ _ rfl lP ?_))
    have hE := hRr.whole_cs (cs2 := #[.int .i64 0, .int .u64 0]) rfl
    exact bodyPost_ret (results_cellslot rfl _ _ (w.heap.size + 1) rfl _ _ (hE.load_var Tryz.underlying74 rfl (by kernel_rfl)) rfl) rfl ⟨by rw [HE.out.1, HE.out.2]; rfl, below_setAll (by omega) _ 0 (HB1.out.trans (hb2.mono HB1.out.size))⟩
  | some x =>
    rw [hf] at HC
    have HC := Lib.hid (show Calls Tryz.prog 72 #[.pointer (some ⟨g, 0, none⟩), .agg (ptCells p.1 p.2).toArray] W1 fun e w' => e = .returned (.tuple #[.pointer (some ⟨x.g, 0, none⟩), .bool true]) ∧ Below W1.heap.size W1 w' from HC)
    obtain ⟨hfn, h0, h1⟩ := Gr.maker_some.1 hf
    have HND := Lib.hid (HH.out.grp.nd x (Gr.find_mem hfn).1)
    have HXM := Lib.hid (Gr.find_mem hfn).1
    obtain ⟨i, hi⟩ : ∃ i : Nat, p.2 = (i : Int) := ⟨p.2.toNat, by omega⟩
    have him : i < x.x.m := by omega
    obtain ⟨c, hc⟩ := HND.out.at.co.get him
    obtain ⟨y, hy, _⟩ := HND.out.at.co.2.2.2 i c hc
    have HE := Lib.hid (show Gr.coinV M p = c ∧ (Gr.coinO M p).isSome = true by
      have e : Gr.coinO M p = some c := by unfold Gr.coinO; rw [hf, hi]; exact hc
      unfold Gr.coinV
      rw [e]
      exact ⟨rfl, rfl⟩)
    have HCC := Lib.hid hc
    have HY := Lib.hid hy
    have HI := Lib.hid hi
    have hmx : x.x.m ≤ 9223372036854775807 := HND.out.at.co.2.1
    have hii : (i : Int) < (x.x.m : Int) := by omega
    have hi0 : (0 : Int) ≤ (i : Int) := by omega
    clear hf hfn h0 h1 hc hy hi
    go_enter Tryz.func35, Tryz.ntmps35
    go_upto_region 1 with fail
    rw [← HW1.out]
    go_upto_region 4 with (first
      | (go_at_call 72; refine HC.out.mono ?_; rintro e w2 ⟨rfl, hb2⟩)
      | (refine wpList_load_run rfl 58 (.tmp 3) rfl _ _ rfl lP ?_))
    obtain ⟨ws, hws⟩ : ∃ ww, ww = w2.drew := ⟨_, rfl⟩
    have hBs : Below W1.heap.size W1 ws := by rw [hws]; exact hb2.drew
    have HNs := Lib.hid (HND.out.below hBs)
    have hPs := HP1.out.under hBs HP1.out.lt
    have hRs := HR1.out.under hBs HR1.out.lt
    have hxF : ∀ j, x.F j → ¬ j = w.heap.size + 1 := fun j hj e => by
      have h1 := HND.out.lt hj
      have h2 := HF.out x HXM.out j hj
      omega
    have hMS := fun (wq : World) (hSw : HeldM (fun j => j = w.heap.size + 1) ws wq) => HNs.out.moved hSw.out hxF
    have lC := fun (wq : World) (hSw : HeldM (fun j => j = w.heap.size + 1) ws wq) => (show wq.cell? ⟨x.g, 1, none⟩ = some (.slice (some y) x.x.m x.x.r) by
      have := (hMS wq hSw).co
      rw [HY.out] at this
      exact this)
    have lN := fun (wq : World) (hSw : HeldM (fun j => j = w.heap.size + 1) ws wq) => (show wq.cell? ⟨w.heap.size, 32, none⟩ = some (.int .i64 i) by
      rw [← HI.out]
      exact (hPs.moved hSw.out (by omega)).cell_at (by rw [List.getElem?_toArray]; exact Gr.pt_n HPO.out.1))
    have lX := fun (wq : World) (hSw : HeldM (fun j => j = w.heap.size + 1) ws wq) => (show (Instr.loadAt 74 (.pointer (some (y.add (i * 2))))).run Tryz.prog wq = .ok (.agg (coCells c).toArray) wq from by
      have h1 := (hMS wq hSw).at.co
      rw [HY.out] at h1
      exact coins_at h1 HCC.out)
    have HRS := Lib.hid hRs
    clear hPs hRs
    refine wp_region_held_drew (S := HeldM (fun j => j = w.heap.size + 1) ws) (by kernel_rfl) (by rw [hws]; exact HeldM.refl _ _) (fun hHeld => ?_)
    rw [← hws] at hHeld ⊢
    clear hws hb2
    refine tka (v := ?_) 0 17 rfl rfl hHeld (Or.inl ⟨by rfl, ?_⟩) rfl ?_
    rotate_left
    · intro wq hSw
      go_simp
      try with_reducible rfl
    simp only [ts0, ts1]
    refine tka (v := ?_) 1 18 rfl rfl hHeld (Or.inl ⟨by rfl, ?_⟩) rfl ?_
    rotate_left
    · intro wq hSw
      go_simp
      try with_reducible rfl
    simp only [ts0, ts1]
    refine tka (v := ?_) 2 19 rfl rfl hHeld (Or.inl ⟨by rfl, ?_⟩) rfl ?_
    rotate_left
    · intro wq hSw
      go_simp
      try with_reducible rfl
    simp only [ts0, ts1]
    refine tka (v := ?_) 3 20 rfl rfl hHeld (Or.inl ⟨by rfl, ?_⟩) rfl ?_
    rotate_left
    · intro wq hSw
      go_simp
      try with_reducible rfl
    simp only [ts0, ts1]
    refine tka (v := ?_) 4 21 rfl rfl hHeld (Or.inl ⟨by rfl, ?_⟩) rfl ?_
    rotate_left
    · intro wq hSw
      have hst := lC wq hSw
      go_simp
      try with_reducible rfl
    simp only [ts0, ts1]
    refine tka (v := ?_) 5 22 rfl rfl hHeld (Or.inl ⟨by rfl, ?_⟩) rfl ?_
    rotate_left
    · intro wq hSw
      go_simp
      try with_reducible rfl
    simp only [ts0, ts1]
    refine tka (v := ?_) 6 23 rfl rfl hHeld (Or.inl ⟨by rfl, ?_⟩) rfl ?_
    rotate_left
    · intro wq hSw
      have hst := lN wq hSw
      go_simp
      try with_reducible rfl
    simp only [ts0, ts1]
    refine tka (v := ?_) 7 24 rfl rfl hHeld (Or.inl ⟨by rfl, ?_⟩) rfl ?_
    rotate_left
    · intro wq hSw
      go_simp
      try with_reducible rfl
    simp only [ts0, ts1]
    refine tka 8 25 rfl rfl hHeld (yieldsIf_load_agg (by rfl) 74 (.tmp 24) rfl _ _ (by rfl) (fun wq hSw => lX wq hSw)) rfl ?_
    simp only [ts0, ts1]
    refine wpAnyH_ready (rs := [9]) (by kernel_rfl) (by simp) ?_
    refine AllReadyH.cons rfl (fun K hK => ?_) AllReadyH.nil
    refine step_store_row (by rfl) 74 (.tmp 4) (.tmp 25) rfl (w.heap.size + 1) 0 ((coCells c).toArray) (by first | rfl | simp [Act.eval]) (by first | rfl | simp [Act.eval]) (HRS.out.there 0 2 (Nat.le_refl _)) (by kernel_rfl) (coRec.all_one c) rfl ?_
    obtain ⟨wn, hwn⟩ : ∃ ww, ww = ws.setCells (w.heap.size + 1) 0 ((coCells c).toArray).toList := ⟨_, rfl⟩
    rw [← hwn]
    have hmwn : Moved (fun j => j = w.heap.size + 1) ws wn := by rw [hwn]; exact Moved.putAll (F := fun j => j = w.heap.size + 1) (.inl rfl) _ 0 (Moved.refl _ _)
    refine hK.out _ _ (HeldM.of hmwn) (fun _ => ?_)
    clear hK K
    refine heldM_grow (w1 := wn) hmwn ?_
    clear hHeld
    have hHeld : HeldM (fun j => j = w.heap.size + 1) wn wn := HeldM.refl _ _
    refine tka (v := ?_) 10 5 rfl rfl hHeld (Or.inl ⟨by rfl, ?_⟩) rfl ?_
    rotate_left
    · intro wq hSw
      go_simp
      try with_reducible rfl
    simp only [ts0, ts1]
    refine wpAnyH_done (by kernel_rfl) ?_ _
    rw [hwn]
    clear lC lN lX hMS
    have hE := HRS.out.whole_cs (cs2 := (coCells c).toArray) rfl
    go_wp2
    exact bodyPost_ret (results_cellslot rfl _ _ (w.heap.size + 1) rfl _ _ (hE.load_var Tryz.underlying74 rfl (by kernel_rfl)) rfl) rfl ⟨by rw [HE.out.1, HE.out.2]; rfl, below_setAll (by omega) _ 0 (HB1.out.trans (hBs.mono HB1.out.size))⟩
namespace Gr
end Gr
end Go.Proofs.YtijemcfnlbapjaaGreatDoor
