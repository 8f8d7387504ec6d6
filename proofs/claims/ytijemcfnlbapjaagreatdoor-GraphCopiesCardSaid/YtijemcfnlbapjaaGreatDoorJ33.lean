/- package graph: Get, Spender, Coin; the reference 14: Get (mkgsf.py) · SHA-256 counted by the kernel: sum_ev, double_ev (each by decide +kernel, in a moment, for any text). Nothing of the program. · pure: the chapter's example of graphs (mkgrx.py) -/
import Derived.Test.YtijemcfnlbapjaaGreatDoorJ32
import Derived.Test.YtijemcfnlbapjaaGreatDoorJ30
import Derived.Test.YtijemcfnlbapjaaGreatDoorJ11
import Derived.Test.YtijemcfnlbapjaaGreatDoorJ25
namespace Go.Proofs.YtijemcfnlbapjaaGreatDoor
open Go Go.RowKit Go.ChangeShapes Go.WideShapes
namespace Gr
abbrev tx0:Tx.T:=⟨[],[],false⟩
theorem tx0_at (w:World):TxAt w none 0 0 none 0 0 tx0:=
  ⟨⟨rfl,(by unfold maxLen;omega),(fun _ h=>by cases h),fun i t h=>by cases h⟩,⟨rfl,(by unfold maxLen;omega),(fun _ h=>by cases h),fun i t h=>by cases h⟩,Nat.le_refl _,Nat.le_refl _,fun _=>rfl,fun _=>rfl⟩
def getT (M:List Nd) (id:List (BitVec 8)):Tx.T:=((find M id).map (·.x.t)).getD tx0
def GetPost (M:List Nd) (id:List (BitVec 8)) (w0:World) (e:Ending) (w':World):Prop:=
  ∃ (a:Option Addr) (n q:Nat) (b:Option Addr) (m r:Nat),e=.returned (.tuple #[txv a n q b m r (getT M id).firm,.bool (find M id).isSome])∧TxAt w' a n q b m r (getT M id)∧Below w0.heap.size w0 w'
end Gr
set_option maxRecDepth 100000 in
set_option maxHeartbeats 8000000 in
theorem gGet_any {w:World} {g bn bs:Nat} {M:List Gr.Nd} {nx:Nat} (h:Gr.At w g bn bs M nx) (id:List (BitVec 8)) (hid:id.length=32) :
    Calls Tryz.prog 15 #[.pointer (some ⟨g,0,none⟩),.agg (blist id).toArray] w (Gr.GetPost M id w):=by
  obtain⟨W1,hW1⟩:∃ ww,ww=(w.alloc (.cells (blist id).toArray 46)).alloc (.cells zTx 34):=⟨_,rfl⟩
  have hB1:Below w.heap.size w W1:=by rw[hW1];exact((Below.refl _ _).alloc (Nat.le_refl _) _).alloc (by simp) _
  have hP1:Has W1 w.heap.size 46 (blist id).toArray:=by rw[hW1];exact(Has.fresh _ _ _).past _
  have hR1:Has W1 (w.heap.size+1) 34 zTx:=by rw[hW1];exact Has.fresh_at _ _ _ (by simp)
  have HW1:=Lib.hid hW1
  have HIDL:=Lib.hid hid
  have HH:=Lib.hid (h.below hB1)
  have HB1:=Lib.hid hB1
  have HR1:=Lib.hid hR1
  have hbd:=fun(w:World)=>run_build (P:=Tryz.prog) w 34 #[] zTx (by kernel_rfl)
  unfold Gr.GetPost
  clear hW1 h hid
  go_enter Tryz.func15,Tryz.ntmps15
  go_upto_region 1 with fail
  rw[← HW1.out]
  obtain⟨ws,hws⟩:∃ ww,ww=W1.drew:=⟨_,rfl⟩
  have hB1s:Below W1.heap.size W1 ws:=by rw[hws];exact(Below.refl _ _).drew
  have hBs:Below w.heap.size w ws:=hB1.trans (hB1s.mono hB1.size)
  have hPs:Has ws w.heap.size 46 (blist id).toArray:=by rw[hws];exact hP1.draw
  have HAs:=Lib.hid (HH.out.below hB1s)
  have lP:=fun(wq:World) (hSw:Held ws wq)=>(hPs.under hSw.below hPs.lt).load_agg (P:=Tryz.prog) (t:=46) Tryz.underlying46 rfl (size_hs HIDL.out)
  have HM:=Lib.hid (fun(wq:World) (hSw:Held ws wq)=>HAs.out.grp.map.below hSw.below)
  have HA:=fun(wq:World) (hSw:Held ws wq)=>gall_any (HAs.out.has.under hSw.below HAs.out.has.lt)
  cases hf:Gr.find M id with
  | none=>
    have HGOT:=Lib.hid (show Mp.got Gr.dH (Gr.ents M) id true=.tuple #[.pointer none,.bool false] by
      show Value.tuple #[Gr.ptrV ((Mp.look (Gr.ents M) id).getD none),.bool (Mp.look (Gr.ents M) id).isSome]=_
      rw[Gr.look_ents,hf]
      rfl)
    have HT:=Lib.hid (show Gr.getT M id=Gr.tx0∧(Gr.find M id).isSome=false by unfold Gr.getT;rw[hf];exact⟨rfl,rfl⟩)
    clear hf
    refine wp_region_held_drew (S:=Held ws) (by kernel_rfl) (by rw[hws];exact Held.refl _) (fun hHeld=>?_)
    rw[← hws] at hHeld ⊢
    clear hws hB1 hP1 HW1
    refine tka (v:=?_) 0 9 rfl rfl hHeld (Or.inl ⟨by rfl,?_⟩) rfl ?_
    rotate_left
    · intro wq hSw
      go_simp
      try with_reducible rfl
    simp only[ts0,ts1]
    refine tka 2 11 rfl rfl hHeld (yieldsIf_load_agg (by rfl) 46 (.tmp 3) rfl _ _ (by rfl) (fun wq hSw=>lP wq hSw)) rfl ?_
    simp only[ts0,ts1]
    refine wpAnyH_ready (rs:=[1]) (by kernel_rfl) (by simp) ?_
    refine AllReadyH.cons rfl (fun K hK=>?_) AllReadyH.nil
    go_simp
    go_at_call 56
    refine(HA _ hHeld).mono ?_
    rintro e w2 ⟨rfl,rfl⟩
    refine hK.out _ _ hHeld (fun _=>?_)
    clear hK K
    try simp only[Act.put,List.setIfInBounds_toArray,ts0,ts1]
    refine tka 3 12 rfl rfl hHeld (yieldsIf_lookup_g (D:=Gr.dH) (M:=Gr.ents M) (b:=bn) (by rfl) (.tmp 10) (.tmp 11) true (by rfl) (by rfl) id (by rfl) HIDL.out (fun wq hSw=>HM.out wq hSw)) rfl ?_
    simp only[ts0,ts1]
    rw[HGOT.out]
    refine tka (v:=?_) 4 8 rfl rfl hHeld (Or.inl ⟨by rfl,?_⟩) rfl ?_
    rotate_left
    · intro wq hSw
      go_simp
      try with_reducible rfl
    simp only[ts0,ts1]
    refine tka (v:=?_) 5 13 rfl rfl hHeld (Or.inl ⟨by rfl,?_⟩) rfl ?_
    rotate_left
    · intro wq hSw
      go_simp
      try with_reducible rfl
    simp only[ts0,ts1]
    refine tka (v:=?_) 6 14 rfl rfl hHeld (Or.inl ⟨by rfl,?_⟩) rfl ?_
    rotate_left
    · intro wq hSw
      go_simp
      try with_reducible rfl
    simp only[ts0,ts1]
    refine tka (v:=?_) 7 6 rfl rfl hHeld (Or.inl ⟨by rfl,?_⟩) rfl ?_
    rotate_left
    · intro wq hSw
      go_simp
      try with_reducible rfl
    simp only[ts0,ts1]
    refine tka (v:=?_) 8 7 rfl rfl hHeld (Or.inl ⟨by rfl,?_⟩) rfl ?_
    rotate_left
    · intro wq hSw
      go_simp
      try with_reducible rfl
    simp only[ts0,ts1]
    refine wpAnyH_done (by kernel_rfl) ?_ _
    clear lP HA hHeld
    have hRr:=HR1.out.under hB1s HR1.out.lt
    go_wp2_with (refine wpList_store_mid rfl 34 (.tmp 4) (.tmp 17) rfl (w.heap.size+1) 0 zTx rfl rfl (hRr.there 0 3 (Nat.le_refl _)) (by kernel_rfl) (by kernel_rfl) ?_)
    have hE:=hRr.whole_cs (cs2:=zTx) rfl
    exact bodyPost_ret (results_cellslot rfl _ _ (w.heap.size+1) rfl _ _ (hE.load_var Tryz.underlying34 rfl (by kernel_rfl)) rfl) rfl ⟨none,0,0,none,0,0,by rw[HT.out.1,HT.out.2];rfl,by rw[HT.out.1];exact Gr.tx0_at _,below_setAll (by omega) _ 0 hBs⟩
  | some x=>
    have HGOT:=Lib.hid (show Mp.got Gr.dH (Gr.ents M) id true=.tuple #[.pointer (some ⟨x.g,0,none⟩),.bool true] by
      show Value.tuple #[Gr.ptrV ((Mp.look (Gr.ents M) id).getD none),.bool (Mp.look (Gr.ents M) id).isSome]=_
      rw[Gr.look_ents,hf]
      rfl)
    have HT:=Lib.hid (show Gr.getT M id=x.x.t∧(Gr.find M id).isSome=true by unfold Gr.getT;rw[hf];exact⟨rfl,rfl⟩)
    have HND:=Lib.hid (HAs.out.grp.nd x (Gr.find_mem hf).1)
    have ltx:=HND.out.ltx
    clear hf
    refine wp_region_held_drew (S:=Held ws) (by kernel_rfl) (by rw[hws];exact Held.refl _) (fun hHeld=>?_)
    rw[← hws] at hHeld ⊢
    clear hws hB1 hP1 HW1
    refine tka (v:=?_) 0 9 rfl rfl hHeld (Or.inl ⟨by rfl,?_⟩) rfl ?_
    rotate_left
    · intro wq hSw
      go_simp
      try with_reducible rfl
    simp only[ts0,ts1]
    refine tka 2 11 rfl rfl hHeld (yieldsIf_load_agg (by rfl) 46 (.tmp 3) rfl _ _ (by rfl) (fun wq hSw=>lP wq hSw)) rfl ?_
    simp only[ts0,ts1]
    refine wpAnyH_ready (rs:=[1]) (by kernel_rfl) (by simp) ?_
    refine AllReadyH.cons rfl (fun K hK=>?_) AllReadyH.nil
    go_simp
    go_at_call 56
    refine(HA _ hHeld).mono ?_
    rintro e w2 ⟨rfl,rfl⟩
    refine hK.out _ _ hHeld (fun _=>?_)
    clear hK K
    try simp only[Act.put,List.setIfInBounds_toArray,ts0,ts1]
    refine tka 3 12 rfl rfl hHeld (yieldsIf_lookup_g (D:=Gr.dH) (M:=Gr.ents M) (b:=bn) (by rfl) (.tmp 10) (.tmp 11) true (by rfl) (by rfl) id (by rfl) HIDL.out (fun wq hSw=>HM.out wq hSw)) rfl ?_
    simp only[ts0,ts1]
    rw[HGOT.out]
    refine tka (v:=?_) 4 8 rfl rfl hHeld (Or.inl ⟨by rfl,?_⟩) rfl ?_
    rotate_left
    · intro wq hSw
      go_simp
      try with_reducible rfl
    simp only[ts0,ts1]
    refine tka (v:=?_) 5 13 rfl rfl hHeld (Or.inl ⟨by rfl,?_⟩) rfl ?_
    rotate_left
    · intro wq hSw
      go_simp
      try with_reducible rfl
    simp only[ts0,ts1]
    refine tka (v:=?_) 6 14 rfl rfl hHeld (Or.inl ⟨by rfl,?_⟩) rfl ?_
    rotate_left
    · intro wq hSw
      go_simp
      try with_reducible rfl
    simp only[ts0,ts1]
    refine tka (v:=?_) 7 6 rfl rfl hHeld (Or.inl ⟨by rfl,?_⟩) rfl ?_
    rotate_left
    · intro wq hSw
      go_simp
      try with_reducible rfl
    simp only[ts0,ts1]
    refine tka (v:=?_) 8 7 rfl rfl hHeld (Or.inl ⟨by rfl,?_⟩) rfl ?_
    rotate_left
    · intro wq hSw
      go_simp
      try with_reducible rfl
    simp only[ts0,ts1]
    refine wpAnyH_done (by kernel_rfl) ?_ _
    clear lP HA hHeld
    have HSM:=Lib.hid HND.out.sm
    have HRr:=Lib.hid (HR1.out.under hB1s HR1.out.lt)
    have HCP:=Lib.hid (pcopy_any x.x.a x.x.n x.x.q x.x.b x.x.m x.x.r x.x.t x.x.t.firm rfl ws HND.out.at (by have:=HSM.out.1;have:=HND.out.at.sp.1;omega) (by have:=HSM.out.2.1;have:=HND.out.at.co.1;omega))
    have HSB:=Lib.hid hBs
    clear hBs hPs hR1 hB1s
    go_wp2_with (first
      | (refine wpList_store_mid rfl 34 (.tmp 4) (.tmp 22) rfl (w.heap.size+1) 0 (vCells ⟨oa,x.x.n,oq,ob,x.x.m,orr,x.x.t⟩).toArray rfl rfl ((HRr.out.under hb6 HRr.out.lt).there 0 3 (Nat.le_refl _)) (by kernel_rfl) (vRec.all_one ⟨oa,x.x.n,oq,ob,x.x.m,orr,x.x.t⟩) ?_)
      | (go_at_call 57;refine HCP.out.mono ?_;rintro e w6 ⟨oa,oq,ob,orr,rfl,ho6,hb6⟩)
      | (refine wpList_load_run rfl 34 (.tmp 20) rfl _ _ rfl ltx ?_))
    have hE:=(HRr.out.under hb6 HRr.out.lt).whole_cs (cs2:=(vCells ⟨oa,x.x.n,oq,ob,x.x.m,orr,x.x.t⟩).toArray) rfl
    have hm:Moved (fun j=>j=w.heap.size+1) w6 (w6.setCells (w.heap.size+1) 0 (vCells ⟨oa,x.x.n,oq,ob,x.x.m,orr,x.x.t⟩)):=Moved.putAll (F:=fun j=>j=w.heap.size+1) (.inl rfl) _ 0 (Moved.refl _ _)
    have hlt:=HRr.out.lt
    have ho7:=(Gr.txown_moved ho6 hm (fun j hj e=>by have:=ho6.sp.lt j hj;omega) (fun j hj e=>by have:=ho6.co.lt j hj;omega)).at
    exact bodyPost_ret (results_cellslot rfl _ _ (w.heap.size+1) rfl _ _ (hE.load_var Tryz.underlying34 rfl (by kernel_rfl)) rfl) rfl ⟨oa,x.x.n,oq,ob,x.x.m,orr,by rw[HT.out.1,HT.out.2];rfl,by rw[HT.out.1];exact ho7,below_setAll (by omega) _ 0 (HSB.out.trans (hb6.mono HSB.out.size))⟩
namespace Gr
def spdI (M:List Nd) (p:Cs.Pt):List (BitVec 8):=((spd M p).map (·.id)).getD (List.replicate 32 0#8)
end Gr
set_option maxRecDepth 100000 in
set_option maxHeartbeats 8000000 in
theorem gSpender_any {w:World} {g bn bs:Nat} {M:List Gr.Nd} {nx:Nat} (h:Gr.At w g bn bs M nx) (p:Cs.Pt) (hp:Cs.ptOk p) :
    Calls Tryz.prog 23 #[.pointer (some ⟨g,0,none⟩),.agg (ptCells p.1 p.2).toArray] w fun e w'=>e=.returned (.tuple #[.agg (blist (Gr.spdI M p)).toArray,.bool (Gr.spd M p).isSome])∧Below w.heap.size w w':=by
  obtain⟨W1,hW1⟩:∃ ww,ww=(w.alloc (.cells (ptCells p.1 p.2).toArray 58)).alloc (.cells z32 46):=⟨_,rfl⟩
  have hB1:Below w.heap.size w W1:=by rw[hW1];exact((Below.refl _ _).alloc (Nat.le_refl _) _).alloc (by simp) _
  have hP1:Has W1 w.heap.size 58 (ptCells p.1 p.2).toArray:=by rw[hW1];exact(Has.fresh _ _ _).past _
  have hR1:Has W1 (w.heap.size+1) 46 z32:=by rw[hW1];exact Has.fresh_at _ _ _ (by simp)
  have lP:=hP1.load_agg (P:=Tryz.prog) (t:=58) Tryz.underlying58 rfl (gsize_pt hp.1)
  have hA1:=h.below hB1
  obtain⟨S,hS,hl⟩:=hA1.sp
  have HC:=gspender_any hA1.has hS p hp
  rw[hl p] at HC
  have HH:=Lib.hid hA1
  have HW1:=Lib.hid hW1
  have HB1:=Lib.hid hB1
  have HR1:=Lib.hid hR1
  have hbd:=fun(w:World)=>run_build (P:=Tryz.prog) w 46 #[] z32 (by kernel_rfl)
  clear hW1 h hS hl hB1 hP1 hR1
  cases hf:Gr.spd M p with
  | none=>
    rw[hf] at HC
    have HC:=Lib.hid (show Calls Tryz.prog 63 #[.pointer (some ⟨g,0,none⟩),.agg (ptCells p.1 p.2).toArray] W1 fun e w'=>e=.returned (.tuple #[.pointer none,.bool false])∧Below W1.heap.size W1 w' from HC)
    have HE:=Lib.hid (show Gr.spdI M p=List.replicate 32 0#8∧(Gr.spd M p).isSome=false by unfold Gr.spdI;rw[hf];exact⟨rfl,rfl⟩)
    clear hf
    go_enter Tryz.func23,Tryz.ntmps23
    go_upto_region 1 with fail
    rw[← HW1.out]
    go_wp2_with (first
      | (refine wpList_store_mid rfl 46 (.tmp 4) (.tmp 16) rfl (w.heap.size+1) 0 z32 rfl rfl (hRr.there 0 32 (Nat.le_refl _)) (by kernel_rfl) (by kernel_rfl) ?_)
      | (go_at_call 63;refine HC.out.mono ?_;rintro e w2 ⟨rfl,hb2⟩;have hRr:=HR1.out.under hb2 HR1.out.lt)
      | (refine wpList_load_run rfl 58 (.tmp 3) rfl _ _ rfl lP ?_))
    have hE:=hRr.whole_cs (cs2:=z32) rfl
    exact bodyPost_ret (results_cellslot rfl _ _ (w.heap.size+1) rfl _ _ (hE.load_var Tryz.underlying46 rfl (by kernel_rfl)) rfl) rfl ⟨by rw[HE.out.1];rfl,below_setAll (by omega) _ 0 (HB1.out.trans (hb2.mono HB1.out.size))⟩
  | some x=>
    rw[hf] at HC
    have HC:=Lib.hid (show Calls Tryz.prog 63 #[.pointer (some ⟨g,0,none⟩),.agg (ptCells p.1 p.2).toArray] W1 fun e w'=>e=.returned (.tuple #[.pointer (some ⟨x.g,0,none⟩),.bool true])∧Below W1.heap.size W1 w' from HC)
    have HE:=Lib.hid (show Gr.spdI M p=x.id∧(Gr.spd M p).isSome=true by unfold Gr.spdI;rw[hf];exact⟨rfl,rfl⟩)
    have HND:=Lib.hid (HH.out.grp.nd x (Gr.spd_mem hf).1)
    have HXL:=Lib.hid HND.out.id
    clear hf
    go_enter Tryz.func23,Tryz.ntmps23
    go_upto_region 1 with fail
    rw[← HW1.out]
    go_wp2_with (first
      | (refine wpList_store_mid rfl 46 (.tmp 4) (.tmp 20) rfl (w.heap.size+1) 0 (blist x.id).toArray rfl rfl (hRr.there 0 (blist x.id).toArray.size (by rw[List.size_toArray,blist_length,HXL.out];decide)) (size_hs HXL.out) (Gr.hsRec.all_one x.id) ?_)
      | (go_at_call 63;refine HC.out.mono ?_;rintro e w2 ⟨rfl,hb2⟩;have hRr:=HR1.out.under hb2 HR1.out.lt;have lid:=(HND.out.below hb2).lid)
      | (refine wpList_load_run rfl 46 (.tmp 19) rfl _ _ rfl lid ?_)
      | (refine wpList_load_run rfl 58 (.tmp 3) rfl _ _ rfl lP ?_))
    have hE:=hRr.whole_cs (cs2:=(blist x.id).toArray) (by rw[List.size_toArray,blist_length,HXL.out];rfl)
    exact bodyPost_ret (results_cellslot rfl _ _ (w.heap.size+1) rfl _ _ (hE.load_var Tryz.underlying46 rfl (size_hs HXL.out)) rfl) rfl ⟨by rw[HE.out.1];rfl,below_setAll (by omega) _ 0 (HB1.out.trans (hb2.mono HB1.out.size))⟩
namespace Gr
def coinO (M:List Nd) (p:Cs.Pt):Option Tx.Co:=(maker M p).bind fun x=>x.x.t.co[p.2.toNat]?
def coinV (M:List Nd) (p:Cs.Pt):Tx.Co:=(coinO M p).getD ⟨0,0#64⟩
end Gr
set_option maxRecDepth 100000 in
set_option maxHeartbeats 8000000 in
theorem gCoin_any {w:World} {g bn bs:Nat} {M:List Gr.Nd} {nx:Nat} (h:Gr.At w g bn bs M nx) (p:Cs.Pt) (hp:Cs.ptOk p) :
    Calls Tryz.prog 35 #[.pointer (some ⟨g,0,none⟩),.agg (ptCells p.1 p.2).toArray] w fun e w'=>e=.returned (.tuple #[.agg (coCells (Gr.coinV M p)).toArray,.bool (Gr.coinO M p).isSome])∧Below w.heap.size w w':=by
  obtain⟨W1,hW1⟩:∃ ww,ww=(w.alloc (.cells (ptCells p.1 p.2).toArray 58)).alloc (.cells #[.int .i64 0,.int .u64 0] 74):=⟨_,rfl⟩
  have hB1:Below w.heap.size w W1:=by rw[hW1];exact((Below.refl _ _).alloc (Nat.le_refl _) _).alloc (by simp) _
  have hP1:Has W1 w.heap.size 58 (ptCells p.1 p.2).toArray:=by rw[hW1];exact(Has.fresh _ _ _).past _
  have hR1:Has W1 (w.heap.size+1) 74 #[.int .i64 0,.int .u64 0]:=by rw[hW1];exact Has.fresh_at _ _ _ (by simp)
  have lP:=hP1.load_agg (P:=Tryz.prog) (t:=58) Tryz.underlying58 rfl (gsize_pt hp.1)
  have hA1:=h.below hB1
  have HC:=gcreator_any hA1.has hA1.grp p hp
  have HH:=Lib.hid hA1
  have HW1:=Lib.hid hW1
  have HB1:=Lib.hid hB1
  have HR1:=Lib.hid hR1
  have HP1:=Lib.hid hP1
  have HPO:=Lib.hid hp
  have HF:=Lib.hid (show ∀ x,x∈M→∀ j,x.F j→j<w.heap.size from fun x hx j hj=>(h.grp.nd x hx).lt hj)
  have hbd:=fun(w:World)=>run_build (P:=Tryz.prog) w 74 #[] #[.int .i64 0,.int .u64 0] (by kernel_rfl)
  clear hW1 h hB1 hP1 hR1 hp
  cases hf:Gr.maker M p with
  | none=>
    rw[hf] at HC
    have HC:=Lib.hid (show Calls Tryz.prog 72 #[.pointer (some ⟨g,0,none⟩),.agg (ptCells p.1 p.2).toArray] W1 fun e w'=>e=.returned (.tuple #[.pointer none,.bool false])∧Below W1.heap.size W1 w' from HC)
    have HE:=Lib.hid (show Gr.coinV M p=⟨0,0#64⟩∧(Gr.coinO M p).isSome=false by unfold Gr.coinV Gr.coinO;rw[hf];exact⟨rfl,rfl⟩)
    clear hf
    go_enter Tryz.func35,Tryz.ntmps35
    go_upto_region 1 with fail
    rw[← HW1.out]
    go_wp2_with (first
      | (refine wpList_store_mid rfl 74 (.tmp 4) (.tmp 16) rfl (w.heap.size+1) 0 #[.int .i64 0,.int .u64 0] rfl rfl (hRr.there 0 2 (Nat.le_refl _)) (by kernel_rfl) (by kernel_rfl) ?_)
      | (go_at_call 72;refine HC.out.mono ?_;rintro e w2 ⟨rfl,hb2⟩;have hRr:=HR1.out.under hb2 HR1.out.lt)
      | (refine wpList_load_run rfl 58 (.tmp 3) rfl _ _ rfl lP ?_))
    have hE:=hRr.whole_cs (cs2:=#[.int .i64 0,.int .u64 0]) rfl
    exact bodyPost_ret (results_cellslot rfl _ _ (w.heap.size+1) rfl _ _ (hE.load_var Tryz.underlying74 rfl (by kernel_rfl)) rfl) rfl ⟨by rw[HE.out.1,HE.out.2];rfl,below_setAll (by omega) _ 0 (HB1.out.trans (hb2.mono HB1.out.size))⟩
  | some x=>
    rw[hf] at HC
    have HC:=Lib.hid (show Calls Tryz.prog 72 #[.pointer (some ⟨g,0,none⟩),.agg (ptCells p.1 p.2).toArray] W1 fun e w'=>e=.returned (.tuple #[.pointer (some ⟨x.g,0,none⟩),.bool true])∧Below W1.heap.size W1 w' from HC)
    obtain⟨hfn,h0,h1⟩:=Gr.maker_some.1 hf
    have HND:=Lib.hid (HH.out.grp.nd x (Gr.find_mem hfn).1)
    have HXM:=Lib.hid (Gr.find_mem hfn).1
    obtain⟨i,hi⟩:∃ i:Nat,p.2=(i:Int):=⟨p.2.toNat,by omega⟩
    have him:i<x.x.m:=by omega
    obtain⟨c,hc⟩:=HND.out.at.co.get him
    obtain⟨y,hy,_⟩:=HND.out.at.co.2.2.2 i c hc
    have HE:=Lib.hid (show Gr.coinV M p=c∧(Gr.coinO M p).isSome=true by
      have e:Gr.coinO M p=some c:=by unfold Gr.coinO;rw[hf,hi];exact hc
      unfold Gr.coinV
      rw[e]
      exact⟨rfl,rfl⟩)
    have HCC:=Lib.hid hc
    have HY:=Lib.hid hy
    have HI:=Lib.hid hi
    have hmx:x.x.m≤9223372036854775807:=HND.out.at.co.2.1
    have hii:(i:Int)<(x.x.m:Int):=by omega
    have hi0:(0:Int)≤(i:Int):=by omega
    clear hf hfn h0 h1 hc hy hi
    go_enter Tryz.func35,Tryz.ntmps35
    go_upto_region 1 with fail
    rw[← HW1.out]
    go_upto_region 4 with(first
      | (go_at_call 72;refine HC.out.mono ?_;rintro e w2 ⟨rfl,hb2⟩)
      | (refine wpList_load_run rfl 58 (.tmp 3) rfl _ _ rfl lP ?_))
    obtain⟨ws,hws⟩:∃ ww,ww=w2.drew:=⟨_,rfl⟩
    have hBs:Below W1.heap.size W1 ws:=by rw[hws];exact hb2.drew
    have HNs:=Lib.hid (HND.out.below hBs)
    have hPs:=HP1.out.under hBs HP1.out.lt
    have hRs:=HR1.out.under hBs HR1.out.lt
    have hxF:∀ j,x.F j→¬ j=w.heap.size+1:=fun j hj e=>by
      have h1:=HND.out.lt hj
      have h2:=HF.out x HXM.out j hj
      omega
    have hMS:=fun(wq:World) (hSw:HeldM (fun j=>j=w.heap.size+1) ws wq)=>HNs.out.moved hSw.out hxF
    have lC:=fun(wq:World) (hSw:HeldM (fun j=>j=w.heap.size+1) ws wq)=>(show wq.cell? ⟨x.g,1,none⟩=some (.slice (some y) x.x.m x.x.r) by
      have:=(hMS wq hSw).co
      rw[HY.out] at this
      exact this)
    have lN:=fun(wq:World) (hSw:HeldM (fun j=>j=w.heap.size+1) ws wq)=>(show wq.cell? ⟨w.heap.size,32,none⟩=some (.int .i64 i) by
      rw[← HI.out]
      exact(hPs.moved hSw.out (by omega)).cell_at (by rw[List.getElem?_toArray];exact Gr.pt_n HPO.out.1))
    have lX:=fun(wq:World) (hSw:HeldM (fun j=>j=w.heap.size+1) ws wq)=>(show(Instr.loadAt 74 (.pointer (some (y.add (i*2))))).run Tryz.prog wq=.ok (.agg (coCells c).toArray) wq from by
      have h1:=(hMS wq hSw).at.co
      rw[HY.out] at h1
      exact coins_at h1 HCC.out)
    have HRS:=Lib.hid hRs
    clear hPs hRs
    refine wp_region_held_drew (S:=HeldM (fun j=>j=w.heap.size+1) ws) (by kernel_rfl) (by rw[hws];exact HeldM.refl _ _) (fun hHeld=>?_)
    rw[← hws] at hHeld ⊢
    clear hws hb2
    refine tka (v:=?_) 0 17 rfl rfl hHeld (Or.inl ⟨by rfl,?_⟩) rfl ?_
    rotate_left
    · intro wq hSw
      go_simp
      try with_reducible rfl
    simp only[ts0,ts1]
    refine tka (v:=?_) 1 18 rfl rfl hHeld (Or.inl ⟨by rfl,?_⟩) rfl ?_
    rotate_left
    · intro wq hSw
      go_simp
      try with_reducible rfl
    simp only[ts0,ts1]
    refine tka (v:=?_) 2 19 rfl rfl hHeld (Or.inl ⟨by rfl,?_⟩) rfl ?_
    rotate_left
    · intro wq hSw
      go_simp
      try with_reducible rfl
    simp only[ts0,ts1]
    refine tka (v:=?_) 3 20 rfl rfl hHeld (Or.inl ⟨by rfl,?_⟩) rfl ?_
    rotate_left
    · intro wq hSw
      go_simp
      try with_reducible rfl
    simp only[ts0,ts1]
    refine tka (v:=?_) 4 21 rfl rfl hHeld (Or.inl ⟨by rfl,?_⟩) rfl ?_
    rotate_left
    · intro wq hSw
      have hst:=lC wq hSw
      go_simp
      try with_reducible rfl
    simp only[ts0,ts1]
    refine tka (v:=?_) 5 22 rfl rfl hHeld (Or.inl ⟨by rfl,?_⟩) rfl ?_
    rotate_left
    · intro wq hSw
      go_simp
      try with_reducible rfl
    simp only[ts0,ts1]
    refine tka (v:=?_) 6 23 rfl rfl hHeld (Or.inl ⟨by rfl,?_⟩) rfl ?_
    rotate_left
    · intro wq hSw
      have hst:=lN wq hSw
      go_simp
      try with_reducible rfl
    simp only[ts0,ts1]
    refine tka (v:=?_) 7 24 rfl rfl hHeld (Or.inl ⟨by rfl,?_⟩) rfl ?_
    rotate_left
    · intro wq hSw
      go_simp
      try with_reducible rfl
    simp only[ts0,ts1]
    refine tka 8 25 rfl rfl hHeld (yieldsIf_load_agg (by rfl) 74 (.tmp 24) rfl _ _ (by rfl) (fun wq hSw=>lX wq hSw)) rfl ?_
    simp only[ts0,ts1]
    refine wpAnyH_ready (rs:=[9]) (by kernel_rfl) (by simp) ?_
    refine AllReadyH.cons rfl (fun K hK=>?_) AllReadyH.nil
    refine step_store_row (by rfl) 74 (.tmp 4) (.tmp 25) rfl (w.heap.size+1) 0 ((coCells c).toArray) (by first | rfl | simp[Act.eval]) (by first | rfl | simp[Act.eval]) (HRS.out.there 0 2 (Nat.le_refl _)) (by kernel_rfl) (coRec.all_one c) rfl ?_
    obtain⟨wn,hwn⟩:∃ ww,ww=ws.setCells (w.heap.size+1) 0 ((coCells c).toArray).toList:=⟨_,rfl⟩
    rw[← hwn]
    have hmwn:Moved (fun j=>j=w.heap.size+1) ws wn:=by rw[hwn];exact Moved.putAll (F:=fun j=>j=w.heap.size+1) (.inl rfl) _ 0 (Moved.refl _ _)
    refine hK.out _ _ (HeldM.of hmwn) (fun _=>?_)
    clear hK K
    refine heldM_grow (w1:=wn) hmwn ?_
    clear hHeld
    have hHeld:HeldM (fun j=>j=w.heap.size+1) wn wn:=HeldM.refl _ _
    refine tka (v:=?_) 10 5 rfl rfl hHeld (Or.inl ⟨by rfl,?_⟩) rfl ?_
    rotate_left
    · intro wq hSw
      go_simp
      try with_reducible rfl
    simp only[ts0,ts1]
    refine wpAnyH_done (by kernel_rfl) ?_ _
    rw[hwn]
    clear lC lN lX hMS
    have hE:=HRS.out.whole_cs (cs2:=(coCells c).toArray) rfl
    go_wp2
    exact bodyPost_ret (results_cellslot rfl _ _ (w.heap.size+1) rfl _ _ (hE.load_var Tryz.underlying74 rfl (by kernel_rfl)) rfl) rfl ⟨by rw[HE.out.1,HE.out.2];rfl,below_setAll (by omega) _ 0 (HB1.out.trans (hBs.mono HB1.out.size))⟩
namespace Gr
end Gr
end Go.Proofs.YtijemcfnlbapjaaGreatDoor
namespace Go.Proofs.YtijemcfnlbapjaaGreatDoor.Dg
open Go.Proofs.YtijemcfnlbapjaaGreatDoor
def rN (x n m:Nat):Nat:=Nat.lor (Nat.shiftRight x n) (Nat.mod (Nat.shiftLeft x m) 4294967296)
def chN (e f g:Nat):Nat:=Nat.xor (Nat.land e f) (Nat.land (Nat.sub 4294967295 e) g)
def mjN (a b c:Nat):Nat:=Nat.xor (Nat.xor (Nat.land a b) (Nat.land a c)) (Nat.land b c)
def aN (x y:Nat):Nat:=Nat.mod (Nat.add x y) 4294967296
def S0N (x:Nat):Nat:=Nat.xor (Nat.xor (rN x 2 30) (rN x 13 19)) (rN x 22 10)
def S1N (x:Nat):Nat:=Nat.xor (Nat.xor (rN x 6 26) (rN x 11 21)) (rN x 25 7)
def s0N (x:Nat):Nat:=Nat.xor (Nat.xor (rN x 7 25) (rN x 18 14)) (Nat.shiftRight x 3)
def s1N (x:Nat):Nat:=Nat.xor (Nat.xor (rN x 17 15) (rN x 19 13)) (Nat.shiftRight x 10)
def goN (a0 b0 c0 d0 e0 f0 g0 h0:Nat):List Nat→(w0 w1 w2 w3 w4 w5 w6 w7 w8 w9 w10 w11 w12 w13 w14 w15 a b c d e f g h:Nat)→List Nat
  | [],_,_,_,_,_,_,_,_,_,_,_,_,_,_,_,_,a,b,c,d,e,f,g,h=>[aN a0 a,aN b0 b,aN c0 c,aN d0 d,aN e0 e,aN f0 f,aN g0 g,aN h0 h]
  | k :: ks,w0,w1,w2,w3,w4,w5,w6,w7,w8,w9,w10,w11,w12,w13,w14,w15,a,b,c,d,e,f,g,h=>
    (fun x=>goN a0 b0 c0 d0 e0 f0 g0 h0 ks w1 w2 w3 w4 w5 w6 w7 w8 w9 w10 w11 w12 w13 w14 w15 (aN (aN (aN (s1N w14) w9) (s0N w1)) w0) (aN x (aN (S0N a) (mjN a b c))) a b c (aN d x) e f g) (aN (aN (aN (aN h (S1N e)) (chN e f g)) k) w0)
def wN (P:List Nat) (p:Nat):Nat:=Nat.add (Nat.add (Nat.add (Nat.mul (P.getD p 0) 16777216) (Nat.mul (P.getD (p+1) 0) 65536)) (Nat.mul (P.getD (p+2) 0) 256)) (P.getD (p+3) 0)
def bN (P:List Nat) (k:Nat):List Nat→List Nat
  | [a,b,c,d,e,f,g,h]=>goN a b c d e f g h (kL.map BitVec.toNat) (wN P (64*k+0)) (wN P (64*k+4)) (wN P (64*k+8)) (wN P (64*k+12)) (wN P (64*k+16)) (wN P (64*k+20)) (wN P (64*k+24)) (wN P (64*k+28)) (wN P (64*k+32)) (wN P (64*k+36)) (wN P (64*k+40)) (wN P (64*k+44)) (wN P (64*k+48)) (wN P (64*k+52)) (wN P (64*k+56)) (wN P (64*k+60)) a b c d e f g h
  | _=>[]
def runN (P:List Nat):Nat→List Nat
  | 0=>[1779033703,3144134277,1013904242,2773480762,1359893119,2600822924,528734635,1541459225]
  | k+1=>bN P k (runN P k)
def nums (v:V8):List Nat:=[v.a.toNat,v.b.toNat,v.c.toNat,v.d.toNat,v.e.toNat,v.f.toNat,v.g.toNat,v.h.toNat]
theorem aN_eq (x y:BitVec 32):(x+y).toNat=aN x.toNat y.toNat:=BitVec.toNat_add x y
theorem rN_eq (x:BitVec 32) (n m:Nat) (h:32-n=m):(ror x n).toNat=rN x.toNat n m:=by
  subst h
  unfold ror rN
  rw[BitVec.toNat_or,BitVec.toNat_ushiftRight,BitVec.toNat_shiftLeft]
  rfl
theorem chN_eq (e f g:BitVec 32):(ch e f g).toNat=chN e.toNat f.toNat g.toNat:=by
  unfold ch chN
  rw[BitVec.toNat_xor,BitVec.toNat_and,BitVec.toNat_and,BitVec.toNat_sub]
  have h:=e.isLt
  rw[show(2^32-e.toNat+(4294967295#32).toNat)%2^32=Nat.sub 4294967295 e.toNat by show(4294967296-e.toNat+4294967295)%4294967296=4294967295-e.toNat;omega]
  rfl
theorem mjN_eq (a b c:BitVec 32):(maj a b c).toNat=mjN a.toNat b.toNat c.toNat:=by
  unfold maj mjN
  rw[BitVec.toNat_xor,BitVec.toNat_xor,BitVec.toNat_and,BitVec.toNat_and,BitVec.toNat_and]
  rfl
theorem S0N_eq (x:BitVec 32):(S0 x).toNat=S0N x.toNat:=by
  unfold S0 S0N
  rw[BitVec.toNat_xor,BitVec.toNat_xor,rN_eq x 2 30 rfl,rN_eq x 13 19 rfl,rN_eq x 22 10 rfl]
  rfl
theorem S1N_eq (x:BitVec 32):(S1 x).toNat=S1N x.toNat:=by
  unfold S1 S1N
  rw[BitVec.toNat_xor,BitVec.toNat_xor,rN_eq x 6 26 rfl,rN_eq x 11 21 rfl,rN_eq x 25 7 rfl]
  rfl
theorem s0N_eq (x:BitVec 32):(s0 x).toNat=s0N x.toNat:=by
  unfold s0 s0N
  rw[BitVec.toNat_xor,BitVec.toNat_xor,rN_eq x 7 25 rfl,rN_eq x 18 14 rfl,BitVec.toNat_ushiftRight]
  rfl
theorem s1N_eq (x:BitVec 32):(s1 x).toNat=s1N x.toNat:=by
  unfold s1 s1N
  rw[BitVec.toNat_xor,BitVec.toNat_xor,rN_eq x 17 15 rfl,rN_eq x 19 13 rfl,BitVec.toNat_ushiftRight]
  rfl
theorem goN_eq (m:Nat→BitVec 32) (u v0:V8):∀ (ks:List (BitVec 32)) (t:Nat),(∀ i,i<ks.length→kL.getD (t+i) 0=ks.getD i 0)→
    goN u.a.toNat u.b.toNat u.c.toNat u.d.toNat u.e.toNat u.f.toNat u.g.toNat u.h.toNat (ks.map BitVec.toNat) (sch m t).toNat (sch m (t+1)).toNat (sch m (t+2)).toNat (sch m (t+3)).toNat (sch m (t+4)).toNat (sch m (t+5)).toNat (sch m (t+6)).toNat (sch m (t+7)).toNat (sch m (t+8)).toNat (sch m (t+9)).toNat (sch m (t+10)).toNat (sch m (t+11)).toNat (sch m (t+12)).toNat (sch m (t+13)).toNat (sch m (t+14)).toNat (sch m (t+15)).toNat (steps m v0 t).a.toNat (steps m v0 t).b.toNat (steps m v0 t).c.toNat (steps m v0 t).d.toNat (steps m v0 t).e.toNat (steps m v0 t).f.toNat (steps m v0 t).g.toNat (steps m v0 t).h.toNat=nums (add8 u (steps m v0 (t+ks.length)))
  | [],t,_=>by
    show[_,_,_,_,_,_,_,_]=[_,_,_,_,_,_,_,_]
    simp only[← aN_eq]
    rfl
  | k :: ks,t,h=>by
    have hk:kL.getD t 0=k:=h 0 (by simp)
    have h':∀ i,i<ks.length→kL.getD (t+1+i) 0=ks.getD i 0:=fun i hi=>by
      have:=h (i+1) (by simp;omega)
      rw[show t+1+i=t+(i+1) by omega,this]
      rfl
    have e:=goN_eq m u v0 ks (t+1) h'
    rw[show t+(k :: ks).length=t+1+ks.length by simp;omega,← e]
    have hs:steps m v0 (t+1)=step (steps m v0 t) k (sch m t):=by show step (steps m v0 t) (kL.getD t 0) (sch m t)=_;rw[hk]
    generalize steps m v0 t=v at hs
    rw[hs]
    have hw:sch m (t+1+15)=s1 (sch m (t+14))+sch m (t+9)+s0 (sch m (t+1))+sch m t:=by
      have:=sch_hi m (t:=t+16) (by omega)
      rw[show t+1+15=t+16 by omega,this]
      rfl
    rw[hw]
    simp only[step,t1,t2,aN_eq,s1N_eq,s0N_eq,S0N_eq,S1N_eq,chN_eq,mjN_eq]
    simp only[List.map_cons,goN]
theorem wN_eq (P:List (BitVec 8)) (p:Nat):(word P p).toNat=wN (P.map BitVec.toNat) p:=by
  have e:∀ p,(P.map BitVec.toNat).getD p 0=(cb P p).toNat:=fun p=>by
    unfold cb
    rw[List.getD_eq_getElem?_getD,List.getD_eq_getElem?_getD,List.getElem?_map]
    cases P[p]?<;>rfl
  unfold wN word
  rw[e,e,e,e]
  simp only[BitVec.toNat_add,BitVec.toNat_shiftLeft,BitVec.toNat_setWidth,Nat.shiftLeft_eq]
  have h0:=(cb P p).isLt;have h1:=(cb P (p+1)).isLt;have h2:=(cb P (p+2)).isLt;have h3:=(cb P (p+3)).isLt
  show _=(cb P p).toNat*16777216+(cb P (p+1)).toNat*65536+(cb P (p+2)).toNat*256+(cb P (p+3)).toNat
  omega
theorem runN_eq (P:List (BitVec 8)):∀ k,nums (run P k)=runN (P.map BitVec.toNat) k
  | 0=>rfl
  | k+1=>by
    show nums (take8 P k (run P k))=bN _ k (runN _ k)
    rw[← runN_eq P k]
    generalize run P k=v
    show nums (add8 v (steps (blk P k) v 64))=_
    rw[show(64:Nat)=0+kL.length from rfl,← goN_eq (blk P k) v v kL 0 (fun i _=>by rw[Nat.zero_add])]
    simp only[Nat.zero_add,sch_lo (blk P k) (t:=0) (by omega),sch_lo (blk P k) (t:=1) (by omega),sch_lo (blk P k) (t:=2) (by omega),sch_lo (blk P k) (t:=3) (by omega),sch_lo (blk P k) (t:=4) (by omega),sch_lo (blk P k) (t:=5) (by omega),sch_lo (blk P k) (t:=6) (by omega),sch_lo (blk P k) (t:=7) (by omega),sch_lo (blk P k) (t:=8) (by omega),sch_lo (blk P k) (t:=9) (by omega),sch_lo (blk P k) (t:=10) (by omega),sch_lo (blk P k) (t:=11) (by omega),sch_lo (blk P k) (t:=12) (by omega),sch_lo (blk P k) (t:=13) (by omega),sch_lo (blk P k) (t:=14) (by omega),sch_lo (blk P k) (t:=15) (by omega),blk,wN_eq]
    rfl
theorem sum_ev {l:List (BitVec 8)} {a b c d e f g h:Nat} (hr:runN ((pad l).map BitVec.toNat) ((pad l).length / 64)=[a,b,c,d,e,f,g,h]):sum l=out ⟨BitVec.ofNat 32 a,BitVec.ofNat 32 b,BitVec.ofNat 32 c,BitVec.ofNat 32 d,BitVec.ofNat 32 e,BitVec.ofNat 32 f,BitVec.ofNat 32 g,BitVec.ofNat 32 h⟩:=by
  rw[← runN_eq] at hr
  unfold sum
  generalize run (pad l) ((pad l).length / 64)=v at hr ⊢
  unfold nums at hr
  simp only[List.cons.injEq,and_true] at hr
  obtain⟨rfl,rfl,rfl,rfl,rfl,rfl,rfl,rfl⟩:=hr
  simp only[BitVec.ofNat_toNat,BitVec.setWidth_eq]
theorem double_ev {l:List (BitVec 8)} {a b c d e f g h a' b' c' d' e' f' g' h':Nat} (h1:runN ((pad l).map BitVec.toNat) ((pad l).length / 64)=[a',b',c',d',e',f',g',h'])
    (h2:runN ((pad (out ⟨BitVec.ofNat 32 a',BitVec.ofNat 32 b',BitVec.ofNat 32 c',BitVec.ofNat 32 d',BitVec.ofNat 32 e',BitVec.ofNat 32 f',BitVec.ofNat 32 g',BitVec.ofNat 32 h'⟩)).map BitVec.toNat) 1=[a,b,c,d,e,f,g,h]):sum (sum l)=out ⟨BitVec.ofNat 32 a,BitVec.ofNat 32 b,BitVec.ofNat 32 c,BitVec.ofNat 32 d,BitVec.ofNat 32 e,BitVec.ofNat 32 f,BitVec.ofNat 32 g,BitVec.ofNat 32 h⟩:=by
  rw[sum_ev h1]
  exact sum_ev (by rw[show(pad (out _)).length / 64=1 by rw[pad_len,out_len];rfl];exact h2)
end Go.Proofs.YtijemcfnlbapjaaGreatDoor.Dg
namespace Go.Proofs.YtijemcfnlbapjaaGreatDoor
open Go Go.RowKit
namespace Gr
abbrev ez:List (BitVec 8):=List.replicate 32 0#8
def eI:List (BitVec 8):=[83#8,55#8,37#8,104#8,200#8,254#8,75#8,101#8,138#8,90#8,128#8,131#8,150#8,3#8,34#8,147#8,177#8,70#8,93#8,100#8,2#8,66#8,205#8,248#8,54#8,129#8,5#8,139#8,164#8,110#8,21#8,177#8]
def ea:Tx.T:=⟨[⟨ez,0,[],0#64⟩],[⟨0,0#64⟩],false⟩
def eb:Tx.T:=⟨[⟨eI,0,[],0#64⟩],[⟨0,0#64⟩],false⟩
theorem ea_id:Tx.idOf false ea=eI:=by
  show Dg.sum (Dg.sum (Tx.enc false ea))=_
  rw[Dg.double_ev (l:=Tx.enc false ea) (a':=2912273307) (b':=2914077934) (c':=2555094335) (d':=844374957) (e':=2041729876) (f':=4125966306) (g':=1766226499) (h':=1768953412) (a:=1396122984) (b:=3372108645) (c:=2321186947) (d:=2516787859) (e:=2974178660) (f:=37932536) (g:=914425227) (h:=2758677937) (by decide+kernel) (by decide+kernel)]
  decide+kernel
theorem eI_len:eI.length=32:=rfl
theorem eI_ne:¬ eI=ez:=by decide+kernel
theorem eb_ne:¬ Tx.idOf false eb=eI:=by
  show ¬ Dg.sum (Dg.sum (Tx.enc false eb))=_
  rw[Dg.double_ev (l:=Tx.enc false eb) (a':=459004034) (b':=3688624679) (c':=2416243337) (d':=1840450317) (e':=2034806074) (f':=2839475183) (g':=429092995) (h':=322141722) (a:=3152590713) (b:=2923906650) (c:=1276543998) (d:=239484374) (e:=460266545) (f:=163097019) (g:=2654226367) (h:=2699161029) (by decide+kernel) (by decide+kernel)]
  decide+kernel
theorem e_check (h:List (BitVec 8)):Tx.check ⟨[⟨h,0,[],0#64⟩],[⟨0,0#64⟩],false⟩=0:=by
  unfold Tx.check
  rw[if_pos (show Tx.Sized _ from⟨by show 1≤1;omega,by show 1≤8;omega,by show 1≤1;omega,by show 1≤8;omega⟩),if_pos,if_pos,if_neg]
  · rintro ⟨i,k,s,o,h1,h2,_⟩
    have h3:=(List.getElem?_eq_some_iff.1 h2).1
    have h4:i<1:=h3
    omega
  · rfl
  · intro s hs
    obtain rfl:=List.mem_singleton.1 (show s∈[(⟨h,0,[],0#64⟩:Tx.Sp)] from hs)
    simp[Tx.badSp]
theorem ea_check:Tx.check ea=0:=e_check _
theorem eb_check:Tx.check eb=0:=e_check _
end Gr
end Go.Proofs.YtijemcfnlbapjaaGreatDoor
