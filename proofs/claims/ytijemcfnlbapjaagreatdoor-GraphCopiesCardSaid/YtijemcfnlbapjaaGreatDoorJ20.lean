/- package graph: a node's children; Parents, Children, IDs (mkgrh.py) -/
import Derived.Test.YtijemcfnlbapjaaGreatDoorJ19
namespace Go.Proofs.YtijemcfnlbapjaaGreatDoor
open Go Go.RowKit Go.ChangeShapes Go.WideShapes
set_option maxRecDepth 100000 in
set_option maxHeartbeats 8000000 in
theorem gchildren_any {w:World} {g bn bs:Nat} {M:List Gr.Nd} {nx:Nat} (h:Gr.At w g bn bs M nx) (x:Gr.Nd) (hx:x∈M) :
    Calls Tryz.prog 62 #[.pointer (some ⟨g,0,none⟩),.pointer (some ⟨x.g,0,none⟩)] w fun e w'=>∃ v,e=.returned v∧OwnR Gr.ptrRec 104 w.heap.size w' v (Gr.near false M x)∧Below w.heap.size w w':=by
  have hnd:=h.grp.nd x hx
  have c1:=hnd.co
  have hat:=hnd.at
  have HSM:=Lib.hid hnd.sm
  have HH:=Lib.hid h
  have hmx:x.x.m≤9223372036854775807:=hat.co.2.1
  have hLE:x.x.m≤30:=by have:=hat.co.1;have:=HSM.out.2.1;omega
  have HND:=Lib.hid hnd
  obtain⟨m,hm⟩:∃ a,a=x.x.m:=⟨_,rfl⟩
  rw[← hm] at hmx c1 hLE
  obtain⟨P,hP⟩:∃ P,P=(List.range m).map fun(i:Nat)=>(x.id,(i:Int)):=⟨_,rfl⟩
  have HK:=Lib.hid (show Gr.near false M x=P.filterMap (Gr.spd M) by rw[hP,hm];rfl)
  have HPL:=Lib.hid (show P.length=m by rw[hP,List.length_map,List.length_range])
  have HPA:=Lib.hid (show ∀ i,i<m→P[i]? = some (x.id,(i:Int)) from fun i hi=>by rw[hP,List.getElem?_map,List.getElem?_range hi];rfl)
  clear hnd hat hm hx h HSM hP
  go_enter Tryz.func62,Tryz.ntmps62
  go_wp2
  have hO0:RowKit.Hid (OwnR Gr.ptrRec 104 w.heap.size w (.slice none 0 0) ((P.take 0).filterMap (Gr.spd M))):=Lib.hid (OwnR.nil _ _ _ _)
  go_loopw [5,15] (fun sv iv wr=>∃ (i:Nat) (ov:Value),i≤m∧iv=.int .i64 i∧ov=sv∧RowKit.Hid (OwnR Gr.ptrRec 104 w.heap.size wr ov ((P.take i).filterMap (Gr.spd M)))∧Below w.heap.size w wr) (fun _ iv _=>m-(intOf iv).toNat)
  case atStart=>exact⟨0,_,Nat.zero_le _,rfl,rfl,hO0,Below.refl _ _⟩
  case round=>
    clear hO0
    obtain⟨i,ov,hi,rfl,rfl,HO,hb⟩:=hrel
    by_cases hlt:i<m
    · have hii:(i:Int)<(m:Int):=by omega
      have hi0:(0:Int)≤(i:Int):=by omega
      have HT:=Lib.hid (show P.take (i+1)=P.take i++[(x.id,(i:Int))] by
        obtain⟨h2,h3⟩:=List.getElem?_eq_some_iff.1 (HPA.out i hlt)
        rw[List.take_succ_eq_append_getElem h2,h3])
      have HLN:=Lib.hid (show((P.take i).filterMap (Gr.spd M)).length≤30 by
        have h1:=Gr.filterMap_le (Gr.spd M) (P.take i)
        have h2:(P.take i).length≤P.length:=by rw[List.length_take];omega
        have:=HPL.out
        omega)
      have HO5:=HO
      have hT5:=hb
      have hA5:=HH.out.below hb
      have lid:=(HND.out.below hb).lid
      have HIDL:=Lib.hid HND.out.id
      obtain⟨S,hS,hl⟩:=hA5.sp
      have HC:=Lib.hid (gspender_any hA5.has hS (x.id,(i:Int)) ⟨HIDL.out,by show -9223372036854775808≤(i:Int);omega,by show(i:Int)<9223372036854775808;omega⟩)
      rw[hl] at HC
      have h5:=hb.size
      clear hA5 HO hS hl
      cases hmk:Gr.spd M (x.id,(i:Int)) with
      | none=>
        rw[hmk] at HC
        replace HC:RowKit.Hid (Calls Tryz.prog 63 #[.pointer (some ⟨g,0,none⟩),.agg (ptCells x.id (i:Int)).toArray] wr fun e w'=>e=.returned (.tuple #[.pointer none,.bool false])∧Below wr.heap.size wr w'):=HC
        have HF:=Lib.hid (show(P.take (i+1)).filterMap (Gr.spd M)=(P.take i).filterMap (Gr.spd M) by rw[HT.out,Gr.filterMap_snoc,hmk])
        clear hmk
        go_wp2_with (first
          | (go_at_call 63;refine HC.out.mono ?_;rintro e w6 ⟨rfl,hb6⟩;have hB6:=hT5.trans (hb6.mono h5);have HO6:=Lib.hid (HO5.out.below hb6))
          | (refine wpList_build_pt rfl (.tmp 23) (.tmp 24) rfl x.id (i:Int) rfl rfl rfl HIDL.out ?_)
          | (refine wpList_load_run rfl 46 (.tmp 22) rfl _ _ rfl lid ?_))
        go_roundw
        case rel=>exact⟨i+1,ov,by omega,by go_num,rfl,by rw[HF.out];exact HO6,hB6⟩
        case measure=>(simp[intOf];try omega)
      | some z=>
        rw[hmk] at HC
        replace HC:RowKit.Hid (Calls Tryz.prog 63 #[.pointer (some ⟨g,0,none⟩),.agg (ptCells x.id (i:Int)).toArray] wr fun e w'=>e=.returned (.tuple #[.pointer (some ⟨z.g,0,none⟩),.bool true])∧Below wr.heap.size wr w'):=HC
        have HF:=Lib.hid (show(P.take (i+1)).filterMap (Gr.spd M)=(P.take i).filterMap (Gr.spd M)++[z] by rw[HT.out,Gr.filterMap_snoc,hmk])
        clear hmk
        go_wp2_with (first
          | (at_builtin;refine wpList_append_recs (R:=Gr.ptrRec) rfl (.tmp 30) (.tmp 32) 122 rfl 104 Tryz.underlying122 Gr.info_nd rfl (by decide) w.heap.size ov _ rfl (HO6.out.below ((Below.refl _ _).alloc (Nat.le_refl _) _)) (some ⟨w6.heap.size,0,none⟩) 1 1 [z] rfl (Gr.ptr_fresh z) (fun e=>by cases e) (by have:=HLN.out;omega) (by have:=hB6.size;simp;omega) ?_;intro v' w7 ho' hg' hl')
          | (go_at_call 63;refine HC.out.mono ?_;rintro e w6 ⟨rfl,hb6⟩;have hB6:=hT5.trans (hb6.mono h5);have HO6:=Lib.hid (HO5.out.below hb6))
          | (refine wpList_build_pt rfl (.tmp 23) (.tmp 24) rfl x.id (i:Int) rfl rfl rfl HIDL.out ?_)
          | (refine wpList_load_run rfl 46 (.tmp 22) rfl _ _ rfl lid ?_))
        have hB7:=below_own_recs (hB6.alloc hB6.size _) hg' HO6.out.lt
        have HO2:=Lib.hid (show OwnR Gr.ptrRec 104 w.heap.size w7 v' ((P.take (i+1)).filterMap (Gr.spd M)) by rw[HF.out];exact ho')
        clear ho' hg' hl' lid
        go_roundw
        case rel=>exact⟨i+1,v',by omega,by go_num,rfl,HO2,hB7⟩
        case measure=>(simp[intOf];try omega)
    · have hii:¬ (i:Int)<(m:Int):=by omega
      obtain rfl:i=m:=by omega
      have HO2:=Lib.hid (show OwnR Gr.ptrRec 104 w.heap.size wr ov (Gr.near false M x) by
        rw[HK.out]
        have e:P.take i=P:=List.take_of_length_le (by rw[HPL.out];omega)
        have:=HO.out
        rw[e] at this
        exact this)
      clear HO
      go_wp2
      go_ret
      exact⟨ov,rfl,HO2.out,hb⟩
namespace Gr
theorem near_mem {up:Bool} {M:List Nd} {x z:Nd} (h:z∈near up M x):z∈M:=by
  cases up
  · obtain⟨p,_,hp⟩:=List.mem_filterMap.1 h
    exact(spd_mem hp).1
  · obtain⟨p,_,hp⟩:=List.mem_filterMap.1 h
    exact(find_mem (maker_some.1 hp).1).1
theorem near_len {up:Bool} {w:World} {M:List Nd} {x:Nd} (h:NdAt w x):(near up M x).length≤30:=by
  have hs:=h.sm
  have hl:=h.at.co.1
  cases up
  · refine Nat.le_trans (filterMap_le _ _) ?_
    rw[List.length_map,List.length_range]
    have:=hs.2.1
    omega
  · refine Nat.le_trans (filterMap_le _ _) ?_
    rw[Nd.pts,List.length_map]
    exact hs.1
def IdsPost (M:List Nd) (p:Nd→Prop) (w:World) (e:Ending) (w':World):Prop:=
  ∃ (v:Value) (L:List Nd),e=.returned v∧OwnR hsRec 46 w.heap.size w' v (L.map (·.id))∧L.Pairwise (fun x y=>x.pl<y.pl)∧(∀ z,z∈L↔z∈M∧p z)∧Below w.heap.size w w'
end Gr
set_option maxRecDepth 100000 in
set_option maxHeartbeats 8000000 in
theorem gIDs_any {w:World} {g bn bs:Nat} {M:List Gr.Nd} {nx:Nat} (h:Gr.At w g bn bs M nx) :
    Calls Tryz.prog 33 #[.pointer (some ⟨g,0,none⟩)] w (Gr.IdsPost M (fun _=>True) w):=by
  have HA:=gall_any h.has
  have HI:=Lib.hid (gids_any h.grp (by have:=h.le;have:=h.n1;omega) h.pls)
  clear h
  unfold Gr.IdsPost
  go_enter Tryz.func33,Tryz.ntmps33
  go_wp2_with (first
    | (go_at_call 56;refine HA.mono ?_;rintro e w2 ⟨rfl,rfl⟩)
    | (go_at_call 67;refine HI.out.mono ?_;rintro e w2 ⟨v,L',rfl,ho,hp,hw,hb⟩))
  go_ret
  exact⟨v,L',rfl,ho,hw,fun z=>by rw[hp.mem_iff];simp,hb⟩
namespace Gr
theorem At.pl_inj {w:World} {g bn bs:Nat} {M:List Nd} {nx:Nat} (h:At w g bn bs M nx):∀ x y,x∈M→y∈M→x.pl=y.pl→x=y:=by
  intro x y hx hy e
  obtain⟨i,hi,rfl⟩:=List.mem_iff_getElem.1 hx
  obtain⟨j,hj,rfl⟩:=List.mem_iff_getElem.1 hy
  have h3:=List.pairwise_iff_getElem.1 h.ord
  rcases Nat.lt_trichotomy i j with h | h | h
  · have:=h3 i j hi hj h;omega
  · subst h;rfl
  · have:=h3 j i hj hi h;omega
theorem pls_of {w:World} {b:Nat} {L:List Nd} (hi:∀ x y,x∈L→y∈L→x.pl=y.pl→x=y) (h:GrpAt w b L):(L.map (·.pl)).Nodup:=by
  obtain⟨es,clock,_,_,hn,_⟩:=h.map
  rw[ents,List.map_map] at hn
  have hn2:(L.map (·.id)).Nodup:=hn
  rw[List.nodup_iff_pairwise_ne,List.pairwise_iff_getElem] at hn2 ⊢
  intro i j hi1 hj hij
  rw[List.length_map] at hi1 hj
  have:=hn2 i j (by rw[List.length_map];exact hi1) (by rw[List.length_map];exact hj) hij
  rw[List.getElem_map,List.getElem_map] at this ⊢
  intro e
  exact this (by rw[hi _ _ (List.getElem_mem hi1) (List.getElem_mem hj) e])
end Gr
set_option maxRecDepth 100000 in
set_option maxHeartbeats 8000000 in
theorem grelatives_parents {w:World} {g bn bs:Nat} {M:List Gr.Nd} {nx:Nat} (h:Gr.At w g bn bs M nx) (id:List (BitVec 8)) (hid:id.length=32) :
    Calls Tryz.prog 59 #[.pointer (some ⟨g,0,none⟩),.agg (blist id).toArray,.func (.func 60) #[.pointer (some ⟨g,0,none⟩)] #[]] w (Gr.IdsPost M (fun z=>∃ x,Gr.find M id=some x∧z∈Gr.near true M x) w):=by
  have HH:=Lib.hid h
  obtain⟨W1,hW1⟩:∃ ww,ww=w.alloc (.cells (blist id).toArray 46):=⟨_,rfl⟩
  have hB1:Below w.heap.size w W1:=by rw[hW1];exact(Below.refl _ _).alloc (Nat.le_refl _) _
  have hP1:Has W1 w.heap.size 46 (blist id).toArray:=by rw[hW1];exact Has.fresh _ _ _
  have HW1:=Lib.hid hW1
  clear hW1 h
  unfold Gr.IdsPost
  go_enter Tryz.func59,Tryz.ntmps59
  go_upto_region 1 with fail
  rw[← HW1.out]
  obtain⟨ws,hws⟩:∃ ww,ww=W1.drew:=⟨_,rfl⟩
  have hBs:Below w.heap.size w ws:=by rw[hws];exact hB1.drew
  have hPs:Has ws w.heap.size 46 (blist id).toArray:=by rw[hws];exact hP1.draw
  have HAs:=Lib.hid (HH.out.below hBs)
  have lP:=fun(wq:World) (hSw:Held ws wq)=>(hPs.under hSw.below hPs.lt).load_agg (P:=Tryz.prog) (t:=46) Tryz.underlying46 rfl (size_hs hid)
  have HM:=Lib.hid (fun(wq:World) (hSw:Held ws wq)=>HAs.out.grp.map.below hSw.below)
  have HA:=fun(wq:World) (hSw:Held ws wq)=>gall_any (HAs.out.has.under hSw.below HAs.out.has.lt)
  cases hf:Gr.find M id with
  | none=>
    have HGOT:=Lib.hid (show Mp.got Gr.dH (Gr.ents M) id true=.tuple #[.pointer none,.bool false] by
      show Value.tuple #[Gr.ptrV ((Mp.look (Gr.ents M) id).getD none),.bool (Mp.look (Gr.ents M) id).isSome]=_
      rw[Gr.look_ents,hf]
      rfl)
    have HF:=Lib.hid hf
    clear hf
    refine wp_region_held_drew (S:=Held ws) (by kernel_rfl) (by rw[hws];exact Held.refl _) (fun hHeld=>?_)
    rw[← hws] at hHeld ⊢
    clear hws hB1 hP1 HW1
    refine tka (v:=?_) 0 10 rfl rfl hHeld (Or.inl ⟨by rfl,?_⟩) rfl ?_
    rotate_left
    · intro wq hSw
      go_simp
      try with_reducible rfl
    simp only[ts0,ts1]
    refine tka 2 12 rfl rfl hHeld (yieldsIf_load_agg (by rfl) 46 (.tmp 4) rfl _ _ (by rfl) (fun wq hSw=>lP wq hSw)) rfl ?_
    simp only[ts0,ts1]
    refine wpAnyH_ready (rs:=[1]) (by kernel_rfl) (by simp) ?_
    refine AllReadyH.cons rfl (fun K hK=>?_) AllReadyH.nil
    go_simp
    go_at_call 56
    refine(HA _ hHeld).mono ?_
    rintro e w9 ⟨rfl,rfl⟩
    refine hK.out _ _ hHeld (fun _=>?_)
    clear hK K
    try simp only[Act.put,List.setIfInBounds_toArray,ts0,ts1]
    refine tka 3 13 rfl rfl hHeld (yieldsIf_lookup_g (D:=Gr.dH) (M:=Gr.ents M) (b:=bn) (by rfl) (.tmp 11) (.tmp 12) true (by rfl) (by rfl) id (by rfl) hid (fun wq hSw=>HM.out wq hSw)) rfl ?_
    simp only[ts0,ts1]
    rw[HGOT.out]
    refine tka (v:=?_) 4 9 rfl rfl hHeld (Or.inl ⟨by rfl,?_⟩) rfl ?_
    rotate_left
    · intro wq hSw
      go_simp
      try with_reducible rfl
    simp only[ts0,ts1]
    refine tka (v:=?_) 5 14 rfl rfl hHeld (Or.inl ⟨by rfl,?_⟩) rfl ?_
    rotate_left
    · intro wq hSw
      go_simp
      try with_reducible rfl
    simp only[ts0,ts1]
    refine tka (v:=?_) 6 15 rfl rfl hHeld (Or.inl ⟨by rfl,?_⟩) rfl ?_
    rotate_left
    · intro wq hSw
      go_simp
      try with_reducible rfl
    simp only[ts0,ts1]
    refine tka (v:=?_) 7 7 rfl rfl hHeld (Or.inl ⟨by rfl,?_⟩) rfl ?_
    rotate_left
    · intro wq hSw
      go_simp
      try with_reducible rfl
    simp only[ts0,ts1]
    refine tka (v:=?_) 8 8 rfl rfl hHeld (Or.inl ⟨by rfl,?_⟩) rfl ?_
    rotate_left
    · intro wq hSw
      go_simp
      try with_reducible rfl
    simp only[ts0,ts1]
    refine wpAnyH_done (by kernel_rfl) ?_ _
    go_wp2
    go_ret
    exact⟨.slice none 0 0,[],rfl,OwnR.nil _ _ _ _,List.Pairwise.nil,fun z=>⟨fun h=>(by cases h),fun h=>(by obtain⟨_,x,e,_⟩:=h;rw[HF.out] at e;cases e)⟩,hBs⟩
  | some x=>
    have HGOT:=Lib.hid (show Mp.got Gr.dH (Gr.ents M) id true=.tuple #[.pointer (some ⟨x.g,0,none⟩),.bool true] by
      show Value.tuple #[Gr.ptrV ((Mp.look (Gr.ents M) id).getD none),.bool (Mp.look (Gr.ents M) id).isSome]=_
      rw[Gr.look_ents,hf]
      rfl)
    have HF:=Lib.hid hf
    have HX:=Lib.hid (Gr.find_mem hf)
    have HN:=Lib.hid (gparents_any HAs.out x HX.out.1)
    clear hf
    refine wp_region_held_drew (S:=Held ws) (by kernel_rfl) (by rw[hws];exact Held.refl _) (fun hHeld=>?_)
    rw[← hws] at hHeld ⊢
    clear hws hB1 hP1 HW1
    refine tka (v:=?_) 0 10 rfl rfl hHeld (Or.inl ⟨by rfl,?_⟩) rfl ?_
    rotate_left
    · intro wq hSw
      go_simp
      try with_reducible rfl
    simp only[ts0,ts1]
    refine tka 2 12 rfl rfl hHeld (yieldsIf_load_agg (by rfl) 46 (.tmp 4) rfl _ _ (by rfl) (fun wq hSw=>lP wq hSw)) rfl ?_
    simp only[ts0,ts1]
    refine wpAnyH_ready (rs:=[1]) (by kernel_rfl) (by simp) ?_
    refine AllReadyH.cons rfl (fun K hK=>?_) AllReadyH.nil
    go_simp
    go_at_call 56
    refine(HA _ hHeld).mono ?_
    rintro e w9 ⟨rfl,rfl⟩
    refine hK.out _ _ hHeld (fun _=>?_)
    clear hK K
    try simp only[Act.put,List.setIfInBounds_toArray,ts0,ts1]
    refine tka 3 13 rfl rfl hHeld (yieldsIf_lookup_g (D:=Gr.dH) (M:=Gr.ents M) (b:=bn) (by rfl) (.tmp 11) (.tmp 12) true (by rfl) (by rfl) id (by rfl) hid (fun wq hSw=>HM.out wq hSw)) rfl ?_
    simp only[ts0,ts1]
    rw[HGOT.out]
    refine tka (v:=?_) 4 9 rfl rfl hHeld (Or.inl ⟨by rfl,?_⟩) rfl ?_
    rotate_left
    · intro wq hSw
      go_simp
      try with_reducible rfl
    simp only[ts0,ts1]
    refine tka (v:=?_) 5 14 rfl rfl hHeld (Or.inl ⟨by rfl,?_⟩) rfl ?_
    rotate_left
    · intro wq hSw
      go_simp
      try with_reducible rfl
    simp only[ts0,ts1]
    refine tka (v:=?_) 6 15 rfl rfl hHeld (Or.inl ⟨by rfl,?_⟩) rfl ?_
    rotate_left
    · intro wq hSw
      go_simp
      try with_reducible rfl
    simp only[ts0,ts1]
    refine tka (v:=?_) 7 7 rfl rfl hHeld (Or.inl ⟨by rfl,?_⟩) rfl ?_
    rotate_left
    · intro wq hSw
      go_simp
      try with_reducible rfl
    simp only[ts0,ts1]
    refine tka (v:=?_) 8 8 rfl rfl hHeld (Or.inl ⟨by rfl,?_⟩) rfl ?_
    rotate_left
    · intro wq hSw
      go_simp
      try with_reducible rfl
    simp only[ts0,ts1]
    refine wpAnyH_done (by kernel_rfl) ?_ _
    go_upto_region 4 with fail
    go_wp2_with (first
      | (go_at_call 60;refine HN.out.mono ?_;rintro e w3 ⟨v3,rfl,ho3,hb3⟩;have HA3:=Lib.hid (HAs.out.below hb3);have HG:=Lib.hid (ggroupof_any ho3 (fun z hz=>HA3.out.grp.nd z (Gr.near_mem hz)) (by have:=Gr.near_len (up:=true) (M:=M) (HA3.out.grp.nd x HX.out.1);omega) (fun a b ha hb=>HA3.out.grp.inj a b (Gr.near_mem ha) (Gr.near_mem hb))))
      | (go_at_call 66;refine HG.out.mono ?_;rintro e w4 ⟨b4,L4,rfl,hlb,hg4,hz4,hn4,hb4⟩;have HI:=Lib.hid (gids_any hg4 (by have:=Gr.near_len (up:=true) (M:=M) (HA3.out.grp.nd x HX.out.1);omega) (Gr.pls_of (fun a b ha hb=>HA3.out.pl_inj a b (Gr.near_mem ((hz4 a).1 ha)) (Gr.near_mem ((hz4 b).1 hb))) hg4)))
      | (go_at_call 67;refine HI.out.mono ?_;rintro e w5 ⟨v5,L5,rfl,ho5,hp5,hw5,hb5⟩))
    go_ret
    have hs3:=hBs.size
    have hb34:=hb3.trans (hb4.mono hb3.size)
    exact⟨v5,L5,rfl,ho5.low (by have:=hb34.size;omega),hw5,fun z=>by
      rw[hp5.mem_iff,hz4]
      exact⟨fun h=>⟨Gr.near_mem h,x,HF.out,h⟩,fun h=>by
        obtain⟨_,y,e,h2⟩:=h
        rw[HF.out] at e
        injection e with e
        subst e
        exact h2⟩,hBs.trans ((hb34.trans (hb5.mono hb34.size)).mono hs3)⟩
set_option maxRecDepth 100000 in
set_option maxHeartbeats 8000000 in
theorem grelatives_children {w:World} {g bn bs:Nat} {M:List Gr.Nd} {nx:Nat} (h:Gr.At w g bn bs M nx) (id:List (BitVec 8)) (hid:id.length=32) :
    Calls Tryz.prog 59 #[.pointer (some ⟨g,0,none⟩),.agg (blist id).toArray,.func (.func 62) #[.pointer (some ⟨g,0,none⟩)] #[]] w (Gr.IdsPost M (fun z=>∃ x,Gr.find M id=some x∧z∈Gr.near false M x) w):=by
  have HH:=Lib.hid h
  obtain⟨W1,hW1⟩:∃ ww,ww=w.alloc (.cells (blist id).toArray 46):=⟨_,rfl⟩
  have hB1:Below w.heap.size w W1:=by rw[hW1];exact(Below.refl _ _).alloc (Nat.le_refl _) _
  have hP1:Has W1 w.heap.size 46 (blist id).toArray:=by rw[hW1];exact Has.fresh _ _ _
  have HW1:=Lib.hid hW1
  clear hW1 h
  unfold Gr.IdsPost
  go_enter Tryz.func59,Tryz.ntmps59
  go_upto_region 1 with fail
  rw[← HW1.out]
  obtain⟨ws,hws⟩:∃ ww,ww=W1.drew:=⟨_,rfl⟩
  have hBs:Below w.heap.size w ws:=by rw[hws];exact hB1.drew
  have hPs:Has ws w.heap.size 46 (blist id).toArray:=by rw[hws];exact hP1.draw
  have HAs:=Lib.hid (HH.out.below hBs)
  have lP:=fun(wq:World) (hSw:Held ws wq)=>(hPs.under hSw.below hPs.lt).load_agg (P:=Tryz.prog) (t:=46) Tryz.underlying46 rfl (size_hs hid)
  have HM:=Lib.hid (fun(wq:World) (hSw:Held ws wq)=>HAs.out.grp.map.below hSw.below)
  have HA:=fun(wq:World) (hSw:Held ws wq)=>gall_any (HAs.out.has.under hSw.below HAs.out.has.lt)
  cases hf:Gr.find M id with
  | none=>
    have HGOT:=Lib.hid (show Mp.got Gr.dH (Gr.ents M) id true=.tuple #[.pointer none,.bool false] by
      show Value.tuple #[Gr.ptrV ((Mp.look (Gr.ents M) id).getD none),.bool (Mp.look (Gr.ents M) id).isSome]=_
      rw[Gr.look_ents,hf]
      rfl)
    have HF:=Lib.hid hf
    clear hf
    refine wp_region_held_drew (S:=Held ws) (by kernel_rfl) (by rw[hws];exact Held.refl _) (fun hHeld=>?_)
    rw[← hws] at hHeld ⊢
    clear hws hB1 hP1 HW1
    refine tka (v:=?_) 0 10 rfl rfl hHeld (Or.inl ⟨by rfl,?_⟩) rfl ?_
    rotate_left
    · intro wq hSw
      go_simp
      try with_reducible rfl
    simp only[ts0,ts1]
    refine tka 2 12 rfl rfl hHeld (yieldsIf_load_agg (by rfl) 46 (.tmp 4) rfl _ _ (by rfl) (fun wq hSw=>lP wq hSw)) rfl ?_
    simp only[ts0,ts1]
    refine wpAnyH_ready (rs:=[1]) (by kernel_rfl) (by simp) ?_
    refine AllReadyH.cons rfl (fun K hK=>?_) AllReadyH.nil
    go_simp
    go_at_call 56
    refine(HA _ hHeld).mono ?_
    rintro e w9 ⟨rfl,rfl⟩
    refine hK.out _ _ hHeld (fun _=>?_)
    clear hK K
    try simp only[Act.put,List.setIfInBounds_toArray,ts0,ts1]
    refine tka 3 13 rfl rfl hHeld (yieldsIf_lookup_g (D:=Gr.dH) (M:=Gr.ents M) (b:=bn) (by rfl) (.tmp 11) (.tmp 12) true (by rfl) (by rfl) id (by rfl) hid (fun wq hSw=>HM.out wq hSw)) rfl ?_
    simp only[ts0,ts1]
    rw[HGOT.out]
    refine tka (v:=?_) 4 9 rfl rfl hHeld (Or.inl ⟨by rfl,?_⟩) rfl ?_
    rotate_left
    · intro wq hSw
      go_simp
      try with_reducible rfl
    simp only[ts0,ts1]
    refine tka (v:=?_) 5 14 rfl rfl hHeld (Or.inl ⟨by rfl,?_⟩) rfl ?_
    rotate_left
    · intro wq hSw
      go_simp
      try with_reducible rfl
    simp only[ts0,ts1]
    refine tka (v:=?_) 6 15 rfl rfl hHeld (Or.inl ⟨by rfl,?_⟩) rfl ?_
    rotate_left
    · intro wq hSw
      go_simp
      try with_reducible rfl
    simp only[ts0,ts1]
    refine tka (v:=?_) 7 7 rfl rfl hHeld (Or.inl ⟨by rfl,?_⟩) rfl ?_
    rotate_left
    · intro wq hSw
      go_simp
      try with_reducible rfl
    simp only[ts0,ts1]
    refine tka (v:=?_) 8 8 rfl rfl hHeld (Or.inl ⟨by rfl,?_⟩) rfl ?_
    rotate_left
    · intro wq hSw
      go_simp
      try with_reducible rfl
    simp only[ts0,ts1]
    refine wpAnyH_done (by kernel_rfl) ?_ _
    go_wp2
    go_ret
    exact⟨.slice none 0 0,[],rfl,OwnR.nil _ _ _ _,List.Pairwise.nil,fun z=>⟨fun h=>(by cases h),fun h=>(by obtain⟨_,x,e,_⟩:=h;rw[HF.out] at e;cases e)⟩,hBs⟩
  | some x=>
    have HGOT:=Lib.hid (show Mp.got Gr.dH (Gr.ents M) id true=.tuple #[.pointer (some ⟨x.g,0,none⟩),.bool true] by
      show Value.tuple #[Gr.ptrV ((Mp.look (Gr.ents M) id).getD none),.bool (Mp.look (Gr.ents M) id).isSome]=_
      rw[Gr.look_ents,hf]
      rfl)
    have HF:=Lib.hid hf
    have HX:=Lib.hid (Gr.find_mem hf)
    have HN:=Lib.hid (gchildren_any HAs.out x HX.out.1)
    clear hf
    refine wp_region_held_drew (S:=Held ws) (by kernel_rfl) (by rw[hws];exact Held.refl _) (fun hHeld=>?_)
    rw[← hws] at hHeld ⊢
    clear hws hB1 hP1 HW1
    refine tka (v:=?_) 0 10 rfl rfl hHeld (Or.inl ⟨by rfl,?_⟩) rfl ?_
    rotate_left
    · intro wq hSw
      go_simp
      try with_reducible rfl
    simp only[ts0,ts1]
    refine tka 2 12 rfl rfl hHeld (yieldsIf_load_agg (by rfl) 46 (.tmp 4) rfl _ _ (by rfl) (fun wq hSw=>lP wq hSw)) rfl ?_
    simp only[ts0,ts1]
    refine wpAnyH_ready (rs:=[1]) (by kernel_rfl) (by simp) ?_
    refine AllReadyH.cons rfl (fun K hK=>?_) AllReadyH.nil
    go_simp
    go_at_call 56
    refine(HA _ hHeld).mono ?_
    rintro e w9 ⟨rfl,rfl⟩
    refine hK.out _ _ hHeld (fun _=>?_)
    clear hK K
    try simp only[Act.put,List.setIfInBounds_toArray,ts0,ts1]
    refine tka 3 13 rfl rfl hHeld (yieldsIf_lookup_g (D:=Gr.dH) (M:=Gr.ents M) (b:=bn) (by rfl) (.tmp 11) (.tmp 12) true (by rfl) (by rfl) id (by rfl) hid (fun wq hSw=>HM.out wq hSw)) rfl ?_
    simp only[ts0,ts1]
    rw[HGOT.out]
    refine tka (v:=?_) 4 9 rfl rfl hHeld (Or.inl ⟨by rfl,?_⟩) rfl ?_
    rotate_left
    · intro wq hSw
      go_simp
      try with_reducible rfl
    simp only[ts0,ts1]
    refine tka (v:=?_) 5 14 rfl rfl hHeld (Or.inl ⟨by rfl,?_⟩) rfl ?_
    rotate_left
    · intro wq hSw
      go_simp
      try with_reducible rfl
    simp only[ts0,ts1]
    refine tka (v:=?_) 6 15 rfl rfl hHeld (Or.inl ⟨by rfl,?_⟩) rfl ?_
    rotate_left
    · intro wq hSw
      go_simp
      try with_reducible rfl
    simp only[ts0,ts1]
    refine tka (v:=?_) 7 7 rfl rfl hHeld (Or.inl ⟨by rfl,?_⟩) rfl ?_
    rotate_left
    · intro wq hSw
      go_simp
      try with_reducible rfl
    simp only[ts0,ts1]
    refine tka (v:=?_) 8 8 rfl rfl hHeld (Or.inl ⟨by rfl,?_⟩) rfl ?_
    rotate_left
    · intro wq hSw
      go_simp
      try with_reducible rfl
    simp only[ts0,ts1]
    refine wpAnyH_done (by kernel_rfl) ?_ _
    go_upto_region 4 with fail
    go_wp2_with (first
      | (go_at_call 62;refine HN.out.mono ?_;rintro e w3 ⟨v3,rfl,ho3,hb3⟩;have HA3:=Lib.hid (HAs.out.below hb3);have HG:=Lib.hid (ggroupof_any ho3 (fun z hz=>HA3.out.grp.nd z (Gr.near_mem hz)) (by have:=Gr.near_len (up:=false) (M:=M) (HA3.out.grp.nd x HX.out.1);omega) (fun a b ha hb=>HA3.out.grp.inj a b (Gr.near_mem ha) (Gr.near_mem hb))))
      | (go_at_call 66;refine HG.out.mono ?_;rintro e w4 ⟨b4,L4,rfl,hlb,hg4,hz4,hn4,hb4⟩;have HI:=Lib.hid (gids_any hg4 (by have:=Gr.near_len (up:=false) (M:=M) (HA3.out.grp.nd x HX.out.1);omega) (Gr.pls_of (fun a b ha hb=>HA3.out.pl_inj a b (Gr.near_mem ((hz4 a).1 ha)) (Gr.near_mem ((hz4 b).1 hb))) hg4)))
      | (go_at_call 67;refine HI.out.mono ?_;rintro e w5 ⟨v5,L5,rfl,ho5,hp5,hw5,hb5⟩))
    go_ret
    have hs3:=hBs.size
    have hb34:=hb3.trans (hb4.mono hb3.size)
    exact⟨v5,L5,rfl,ho5.low (by have:=hb34.size;omega),hw5,fun z=>by
      rw[hp5.mem_iff,hz4]
      exact⟨fun h=>⟨Gr.near_mem h,x,HF.out,h⟩,fun h=>by
        obtain⟨_,y,e,h2⟩:=h
        rw[HF.out] at e
        injection e with e
        subst e
        exact h2⟩,hBs.trans ((hb34.trans (hb5.mono hb34.size)).mono hs3)⟩
set_option maxRecDepth 100000 in
set_option maxHeartbeats 8000000 in
theorem gParents_any {w:World} {g bn bs:Nat} {M:List Gr.Nd} {nx:Nat} (h:Gr.At w g bn bs M nx) (id:List (BitVec 8)) (hid:id.length=32) :
    Calls Tryz.prog 19 #[.pointer (some ⟨g,0,none⟩),.agg (blist id).toArray] w (Gr.IdsPost M (fun z=>∃ x,Gr.find M id=some x∧z∈Gr.near true M x) w):=by
  obtain⟨W1,hW1⟩:∃ ww,ww=w.alloc (.cells (blist id).toArray 46):=⟨_,rfl⟩
  have hB1:Below w.heap.size w W1:=by rw[hW1];exact(Below.refl _ _).alloc (Nat.le_refl _) _
  have hP1:Has W1 w.heap.size 46 (blist id).toArray:=by rw[hW1];exact Has.fresh _ _ _
  have HR:=Lib.hid (grelatives_parents (h.below hB1) id hid)
  have lP:=hP1.load_agg (P:=Tryz.prog) (t:=46) Tryz.underlying46 rfl (size_hs hid)
  have HW1:=Lib.hid hW1
  clear hW1 h hP1
  unfold Gr.IdsPost at HR ⊢
  go_enter Tryz.func19,Tryz.ntmps19
  go_upto_region 1 with fail
  rw[← HW1.out]
  go_wp2_with (first
    | (go_at_call 59;refine HR.out.mono ?_;rintro e w2 ⟨v,L,rfl,ho,hw,hz,hb⟩)
    | (refine wpList_load_run rfl 46 (.tmp 3) rfl _ _ rfl lP ?_))
  go_ret
  exact⟨v,L,rfl,ho.low hB1.size,hw,hz,hB1.trans (hb.mono hB1.size)⟩
set_option maxRecDepth 100000 in
set_option maxHeartbeats 8000000 in
theorem gChildren_any {w:World} {g bn bs:Nat} {M:List Gr.Nd} {nx:Nat} (h:Gr.At w g bn bs M nx) (id:List (BitVec 8)) (hid:id.length=32) :
    Calls Tryz.prog 21 #[.pointer (some ⟨g,0,none⟩),.agg (blist id).toArray] w (Gr.IdsPost M (fun z=>∃ x,Gr.find M id=some x∧z∈Gr.near false M x) w):=by
  obtain⟨W1,hW1⟩:∃ ww,ww=w.alloc (.cells (blist id).toArray 46):=⟨_,rfl⟩
  have hB1:Below w.heap.size w W1:=by rw[hW1];exact(Below.refl _ _).alloc (Nat.le_refl _) _
  have hP1:Has W1 w.heap.size 46 (blist id).toArray:=by rw[hW1];exact Has.fresh _ _ _
  have HR:=Lib.hid (grelatives_children (h.below hB1) id hid)
  have lP:=hP1.load_agg (P:=Tryz.prog) (t:=46) Tryz.underlying46 rfl (size_hs hid)
  have HW1:=Lib.hid hW1
  clear hW1 h hP1
  unfold Gr.IdsPost at HR ⊢
  go_enter Tryz.func21,Tryz.ntmps21
  go_upto_region 1 with fail
  rw[← HW1.out]
  go_wp2_with (first
    | (go_at_call 59;refine HR.out.mono ?_;rintro e w2 ⟨v,L,rfl,ho,hw,hz,hb⟩)
    | (refine wpList_load_run rfl 46 (.tmp 3) rfl _ _ rfl lP ?_))
  go_ret
  exact⟨v,L,rfl,ho.low hB1.size,hw,hz,hB1.trans (hb.mono hB1.size)⟩
end Go.Proofs.YtijemcfnlbapjaaGreatDoor
