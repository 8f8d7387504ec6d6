/- package graph: groupOf, some (mkgrf.py) · package graph: what a graph is; a node's parents, its children (mkgrg.py) -/
import Derived.Test.YtijemcfnlbapjaaGreatDoorJ18
namespace Go.Proofs.YtijemcfnlbapjaaGreatDoor
open Go Go.RowKit Go.ChangeShapes Go.WideShapes
namespace Gr
theorem ents_put {L:List Nd} {x:Nd} (h:∀ y,y∈L→y.id=x.id→y=x):∃ L2,Mp.put (ents L) x.id (some x.g)=ents L2∧(∀ z,z∈L2↔z∈L∨z=x)∧L2.length≤L.length+1:=by
  unfold Mp.put
  cases hi:Mp.idx x.id (ents L) with
  | none=>
    refine⟨L++[x],?_,fun z=>by simp,by simp⟩
    show ents L++[(x.id,some x.g)]=_
    rw[ents,ents,List.map_append]
    rfl
  | some r=>
    have h1:=Mp.idx_at hi
    rw[ents,List.getElem?_map] at h1
    obtain⟨y,hy,he⟩:=Option.map_eq_some_iff.1 h1
    injection he with h2 h3
    have hyx:=h y (List.mem_of_getElem? hy) h2
    subst hyx
    refine⟨L,?_,fun z=>⟨.inl,fun h=>h.elim id (fun e=>by rw[e];exact List.mem_of_getElem? hy)⟩,by omega⟩
    show(ents L).set r.1 (y.id,some y.g)=ents L
    apply List.ext_getElem?
    intro i
    rw[List.getElem?_set]
    split
    · rename_i e
      subst e
      have hl:=(List.getElem?_eq_some_iff.1 hy).1
      rw[if_pos (by rw[List.length_map];exact hl),ents,List.getElem?_map,hy]
      rfl
    · rfl
end Gr
theorem Gr.size_hsr:(Tryz.prog.info? 46).map (·.size)=some Gr.hsRec.k:=by kernel_rfl
theorem Gr.GrpAt.fresh (w:World):Gr.GrpAt (w.alloc (.map #[] 0)) w.heap.size []:=⟨MapG.fresh w,fun _ h=>by cases h⟩
set_option maxRecDepth 100000 in
set_option maxHeartbeats 8000000 in
theorem ggroupof_any {w:World} {B:Nat} {v:Value} {K:List Gr.Nd} (h:OwnR Gr.ptrRec 104 B w v K) (hk:∀ x,x∈K→Gr.NdAt w x) (hl:K.length≤1000000) (hd:∀ x y,x∈K→y∈K→x.id=y.id→x=y) :
    Calls Tryz.prog 66 #[v] w fun e w'=>∃ (b:Nat) (L:List Gr.Nd),e=.returned (.map (some b))∧w.heap.size≤b∧Gr.GrpAt w' b L∧(∀ z,z∈L↔z∈K)∧L.length≤K.length∧Below w.heap.size w w':=by
  have hmm:=@run_makeMap Tryz.prog
  obtain⟨a1,c1,rfl,hs1⟩:=Gr.own_shape h
  obtain⟨n,hn⟩:∃ n,n=K.length:=⟨_,rfl⟩
  rw[← hn]
  have HN:=Lib.hid hn
  have hnmx:n≤9223372036854775807:=by omega
  have HK:=Lib.hid hk
  have HD:=Lib.hid hd
  have HS:=Lib.hid hs1
  clear hn hk hd hs1 h
  go_enter Tryz.func66,Tryz.ntmps66
  go_wp2
  obtain⟨w1,hw1⟩:∃ x,x=w.alloc (.map #[] 0):=⟨_,rfl⟩
  obtain⟨b,hb⟩:∃ b,b=w.heap.size:=⟨_,rfl⟩
  have hb1:Below w.heap.size w w1:=by rw[hw1];exact(Below.refl _ _).alloc (Nat.le_refl _) _
  have hG1:Gr.GrpAt w1 b []:=by rw[hw1,hb];exact Gr.GrpAt.fresh w
  rw[← hw1,← hb]
  have HB:=Lib.hid hb
  clear hw1 hb
  go_loopw [9] (fun iv wr=>∃ (i:Nat) (L:List Gr.Nd),i≤n∧iv=.int .i64 i∧RowKit.Hid (Gr.GrpAt wr b L)∧RowKit.Hid (∀ z,z∈L↔z∈K.take i)∧RowKit.Hid (L.length≤i)∧Below w.heap.size w wr) (fun iv _=>n-(intOf iv).toNat)
  case atStart=>exact⟨0,[],Nat.zero_le _,rfl,Lib.hid hG1,Lib.hid (by simp),Lib.hid (Nat.le_refl _),hb1⟩
  case round=>
    clear hG1 hb1
    obtain⟨i,L,hi,rfl,HG,HL,HLN,hb⟩:=hrel
    by_cases hlt:i<n
    · have hii:(i:Int)<(n:Int):=by omega
      have hi0:(0:Int)≤(i:Int):=by omega
      obtain⟨y,hy⟩:∃ y,K[i]? = some y:=⟨_,List.getElem?_eq_getElem (by have:=HN.out;omega)⟩
      obtain⟨g,rfl,hgB,hgl,hcell⟩:=HS.out i y hy
      have hcell:wr.cell? ⟨g,i,none⟩=some (.pointer (some ⟨y.g,0,none⟩)):=by rw[hb.cell hgl];exact hcell
      have hyK:=List.mem_of_getElem? hy
      have hnd:=(HK.out y hyK).below hb
      have lid:=hnd.lid
      have hyl:=hnd.id
      have hmap:=HG.out.map
      have hT:K.take (i+1)=K.take i++[y]:=by
        obtain⟨h2,h3⟩:=List.getElem?_eq_some_iff.1 hy
        rw[List.take_succ_eq_append_getElem h2,h3]
      obtain⟨L2,hp2,hz2,hn2⟩:=Gr.ents_put (L:=L) (x:=y) (fun z hz=>HD.out z y (List.mem_of_mem_take ((HL.out z).1 hz)) hyK)
      have HP2:=Lib.hid (show Mp.put (Gr.ents L) y.id (some y.g)=Gr.ents L2 from hp2)
      have HZ2:=Lib.hid (show ∀ z,z∈L2↔z∈K.take (i+1) from fun z=>by rw[hz2,HL.out,hT,List.mem_append,List.mem_singleton])
      have HN2:=Lib.hid (show L2.length≤i+1 by have:=HLN.out;omega)
      have HND:=Lib.hid (show ∀ z,z∈L2→Gr.NdAt wr z from fun z hz=>(hz2 z).1 hz|>.elim (HG.out.nd z) (fun e=>e▸hnd))
      have HBB:=Lib.hid hb
      clear hp2 hz2 hn2 hT hnd hy hb hyK
      go_wp2_with (first
        | (refine wpList_mapUpdate_g (D:=Gr.dH) rfl (.tmp 13) (.tmp 17) (.tmp 18) rfl rfl hmap y.id rfl hyl (some y.g) rfl rfl ?_;intro w3 hm3 hmv3)
        | (refine wpList_load_run rfl 46 (.tmp 16) rfl _ _ rfl lid ?_))
      rw[HP2.out] at hm3
      have hG3:Gr.GrpAt w3 b L2:=⟨hm3,fun z hz=>by
        refine(HND.out z hz).moved hmv3 (fun j hj e=>?_)
        have hzK:=List.mem_of_mem_take ((HZ2.out z).1 hz)
        have:=(HK.out z hzK).lt hj
        have:=HB.out
        omega⟩
      have hb3:Below w.heap.size w w3:=HBB.out.trans (hmv3.below (fun k hk=>by have:=HB.out;omega) HBB.out.size)
      clear hm3 hmv3 hmap lid hcell
      go_roundw
      case rel=>exact⟨i+1,L2,by omega,by go_num,Lib.hid hG3,HZ2,HN2,hb3⟩
      case measure=>(simp[intOf];try omega)
    · have hii:¬ (i:Int)<(n:Int):=by omega
      obtain rfl:i=n:=by omega
      have HE:=Lib.hid (show K.take i=K from List.take_of_length_le (by have:=HN.out;omega))
      have hbb:w.heap.size≤b:=by have:=HB.out;omega
      go_wp2
      go_ret
      exact⟨b,rfl,hbb,L,HG.out,fun z=>by rw[HL.out,HE.out],by have:=HLN.out;have:=HN.out;omega,hb⟩
set_option maxRecDepth 100000 in
set_option maxHeartbeats 8000000 in
theorem gsome_any {w:World} {g bn:Nat} {v1 v2:Value} {N:List Gr.Nd} (h:Has w g 93 #[.map (some bn),v1,v2]) (hN:Gr.GrpAt w bn N) (a:Option Addr) (n q:Nat) (I:List (List (BitVec 8))) (hI:Recs Gr.hsRec w a n I) (hn:n≤1000000) (hd:∀ x y,x∈N→y∈N→x.id=y.id→x=y) :
    Calls Tryz.prog 50 #[.pointer (some ⟨g,0,none⟩),.slice a n q] w fun e w'=>∃ (b:Nat) (L:List Gr.Nd),e=.returned (.map (some b))∧w.heap.size≤b∧Gr.GrpAt w' b L∧(∀ z,z∈L↔z∈N∧z.id∈I)∧L.length≤n∧Below w.heap.size w w':=by
  have hmm:=@run_makeMap Tryz.prog
  have hnmx:n≤9223372036854775807:=by omega
  have HI:=Lib.hid hI
  have HD:=Lib.hid hd
  have HN:=Lib.hid hN
  have HH:=Lib.hid h
  clear hn hd hI hN h
  go_enter Tryz.func50,Tryz.ntmps50
  go_wp2
  obtain⟨w1,hw1⟩:∃ x,x=w.alloc (.map #[] 0):=⟨_,rfl⟩
  obtain⟨b,hb⟩:∃ b,b=w.heap.size:=⟨_,rfl⟩
  have hb1:Below w.heap.size w w1:=by rw[hw1];exact(Below.refl _ _).alloc (Nat.le_refl _) _
  have hG1:Gr.GrpAt w1 b []:=by rw[hw1,hb];exact Gr.GrpAt.fresh w
  rw[← hw1,← hb]
  have HB:=Lib.hid hb
  clear hw1 hb
  go_loopw [13] (fun iv wr=>∃ (i:Nat) (L:List Gr.Nd),i≤n∧iv=.int .i64 i∧RowKit.Hid (Gr.GrpAt wr b L)∧RowKit.Hid (∀ z,z∈L↔z∈N∧z.id∈I.take i)∧RowKit.Hid (L.length≤i)∧Below w.heap.size w wr) (fun iv _=>n-(intOf iv).toNat)
  case atStart=>exact⟨0,[],Nat.zero_le _,rfl,Lib.hid hG1,Lib.hid (by simp),Lib.hid (Nat.le_refl _),hb1⟩
  case round=>
    clear hG1 hb1
    obtain⟨i,L,hi,rfl,HG,HL,HLN,hb⟩:=hrel
    by_cases hlt:i<n
    · have hii:(i:Int)<(n:Int):=by omega
      have hi0:(0:Int)≤(i:Int):=by omega
      obtain⟨id,hid⟩:∃ y,I[i]? = some y:=⟨_,List.getElem?_eq_getElem (by have:=HI.out.1;omega)⟩
      have HIDL:=Lib.hid (show id.length=32 from HI.out.okay hid)
      obtain⟨x,rfl,hx⟩:=(HI.out.below hb).2.2.2 i id hid
      have lI:(Instr.loadAt 46 (.pointer (some (x.add (i*32))))).run Tryz.prog wr=.ok (.agg (blist id).toArray) wr:=(HI.out.below hb).load_at (P:=Tryz.prog) Tryz.underlying46 rfl Gr.size_hsr hid
      have hT:I.take (i+1)=I.take i++[id]:=by
        obtain⟨h2,h3⟩:=List.getElem?_eq_some_iff.1 hid
        rw[List.take_succ_eq_append_getElem h2,h3]
      have HT:=Lib.hid hT
      have HBB:=Lib.hid hb
      clear hid hx hT hb
      go_upto_region 5 with(first
        | (refine wpList_store_mid rfl 46 (.tmp 7) (.tmp 16) rfl wr.heap.size 0 (blist id).toArray rfl rfl (Gr.hsRec.there wr 46 (by kernel_rfl) HIDL.out) (Gr.hsRec.size_eq Gr.size_hsr HIDL.out) (Gr.hsRec.all_one id) ?_)
        | (refine wpList_load_run rfl 46 (.tmp 15) rfl _ _ rfl lI ?_))
      obtain⟨w5,hw5⟩:∃ u',u'=(wr.alloc (.cells z32 46)).setCells wr.heap.size 0 (blist id):=⟨_,rfl⟩
      obtain⟨hF5,hb5⟩:=Rec.new (R:=Gr.hsRec) (by kernel_rfl) HIDL.out hw5
      rw[← hw5]
      have hB5:=HBB.out.trans (hb5.mono HBB.out.size)
      obtain⟨g5,hg5⟩:∃ g,g=wr.heap.size:=⟨_,rfl⟩
      rw[← hg5] at hF5 ⊢
      have HG5:=Lib.hid (HG.out.below hb5)
      clear hw5 hg5 hb5 lI
      obtain⟨ws,hws⟩:∃ ww,ww=w5.drew:=⟨_,rfl⟩
      have hBs:Below w.heap.size w ws:=by rw[hws];exact hB5.drew
      have hFs:Has ws g5 46 (blist id).toArray:=by rw[hws];exact hF5.draw
      have HGs:=Lib.hid (show Gr.GrpAt ws b L by rw[hws];exact HG5.out.below (Below.refl _ _).drew)
      have lP:=fun(wq:World) (hSw:Held ws wq)=>(hFs.under hSw.below hFs.lt).load_agg (P:=Tryz.prog) (t:=46) Tryz.underlying46 rfl (size_hs HIDL.out)
      have lP2:=hFs.load_agg (P:=Tryz.prog) (t:=46) Tryz.underlying46 rfl (size_hs HIDL.out)
      have HM:=Lib.hid (fun(wq:World) (hSw:Held ws wq)=>(HN.out.below hBs).map.below hSw.below)
      have HA:=fun(wq:World) (hSw:Held ws wq)=>gall_any ((HH.out.under hBs HH.out.lt).under hSw.below (HH.out.under hBs HH.out.lt).lt)
      cases hf:Gr.find N id with
      | none=>
        have HGOT:=Lib.hid (show Mp.got Gr.dH (Gr.ents N) id true=.tuple #[.pointer none,.bool false] by
          show Value.tuple #[Gr.ptrV ((Mp.look (Gr.ents N) id).getD none),.bool (Mp.look (Gr.ents N) id).isSome]=_
          rw[Gr.look_ents,hf]
          rfl)
        have HL2:=Lib.hid (show ∀ z,z∈L↔z∈N∧z.id∈I.take (i+1) from fun z=>by
          rw[HL.out,HT.out,List.mem_append,List.mem_singleton]
          refine⟨fun h=>⟨h.1,.inl h.2⟩,fun h=>⟨h.1,h.2.elim (fun e=>e) (fun e=>absurd e (Gr.find_none.1 hf z h.1))⟩⟩)
        have HLN2:=Lib.hid (show L.length≤i+1 by have:=HLN.out;omega)
        clear hf
        refine wp_region_held_drew (S:=Held ws) (by kernel_rfl) (by rw[hws];exact Held.refl _) (fun hHeld=>?_)
        rw[← hws] at hHeld ⊢
        clear hws hF5
        refine tka (v:=?_) 0 18 rfl rfl hHeld (Or.inl ⟨by rfl,?_⟩) rfl ?_
        rotate_left
        · intro wq hSw
          go_simp
          try with_reducible rfl
        simp only[ts0,ts1]
        refine tka 2 20 rfl rfl hHeld (yieldsIf_load_agg (by rfl) 46 (.tmp 7) rfl _ _ (by rfl) (fun wq hSw=>lP wq hSw)) rfl ?_
        simp only[ts0,ts1]
        refine wpAnyH_ready (rs:=[1]) (by kernel_rfl) (by simp) ?_
        refine AllReadyH.cons rfl (fun K hK=>?_) AllReadyH.nil
        go_simp
        go_at_call 56
        refine(HA _ hHeld).mono ?_
        rintro e w9 ⟨rfl,rfl⟩
        refine hK.out _ _ hHeld (fun _=>?_)
        clear hK K
        try simp only[Act.put,List.setIfInBounds_toArray,ts0,ts1]
        refine tka 3 21 rfl rfl hHeld (yieldsIf_lookup_g (D:=Gr.dH) (M:=Gr.ents N) (b:=bn) (by rfl) (.tmp 19) (.tmp 20) true (by rfl) (by rfl) id (by rfl) HIDL.out (fun wq hSw=>HM.out wq hSw)) rfl ?_
        simp only[ts0,ts1]
        rw[HGOT.out]
        refine tka (v:=?_) 4 17 rfl rfl hHeld (Or.inl ⟨by rfl,?_⟩) rfl ?_
        rotate_left
        · intro wq hSw
          go_simp
          try with_reducible rfl
        simp only[ts0,ts1]
        refine tka (v:=?_) 5 22 rfl rfl hHeld (Or.inl ⟨by rfl,?_⟩) rfl ?_
        rotate_left
        · intro wq hSw
          go_simp
          try with_reducible rfl
        simp only[ts0,ts1]
        refine tka (v:=?_) 6 23 rfl rfl hHeld (Or.inl ⟨by rfl,?_⟩) rfl ?_
        rotate_left
        · intro wq hSw
          go_simp
          try with_reducible rfl
        simp only[ts0,ts1]
        refine tka (v:=?_) 7 8 rfl rfl hHeld (Or.inl ⟨by rfl,?_⟩) rfl ?_
        rotate_left
        · intro wq hSw
          go_simp
          try with_reducible rfl
        simp only[ts0,ts1]
        refine tka (v:=?_) 8 9 rfl rfl hHeld (Or.inl ⟨by rfl,?_⟩) rfl ?_
        rotate_left
        · intro wq hSw
          go_simp
          try with_reducible rfl
        simp only[ts0,ts1]
        refine wpAnyH_done (by kernel_rfl) ?_ _
        go_wp2
        go_roundw
        case rel=>exact⟨i+1,L,by omega,by go_num,HGs,HL2,HLN2,hBs⟩
        case measure=>(simp[intOf];try omega)
      | some y=>
        have hyN:=Gr.find_mem hf
        have HGOT:=Lib.hid (show Mp.got Gr.dH (Gr.ents N) id true=.tuple #[.pointer (some ⟨y.g,0,none⟩),.bool true] by
          show Value.tuple #[Gr.ptrV ((Mp.look (Gr.ents N) id).getD none),.bool (Mp.look (Gr.ents N) id).isSome]=_
          rw[Gr.look_ents,hf]
          rfl)
        have hmap:=HGs.out.map
        obtain⟨L2,hp2,hz2,hn2⟩:=Gr.ents_put (L:=L) (x:=y) (fun z hz=>HD.out z y ((HL.out z).1 hz).1 hyN.1)
        rw[hyN.2] at hp2
        have HP2:=Lib.hid (show Mp.put (Gr.ents L) id (some y.g)=Gr.ents L2 from hp2)
        have HZ2:=Lib.hid (show ∀ z,z∈L2↔z∈N∧z.id∈I.take (i+1) from fun z=>by
          rw[hz2,HL.out,HT.out,List.mem_append,List.mem_singleton]
          refine⟨fun h=>h.elim (fun h=>⟨h.1,.inl h.2⟩) (fun e=>by rw[e];exact⟨hyN.1,.inr hyN.2⟩),fun h=>h.2.elim (fun e=>.inl ⟨h.1,e⟩) (fun e=>.inr (HD.out z y h.1 hyN.1 (by rw[e,hyN.2])))⟩)
        have HN2:=Lib.hid (show L2.length≤i+1 by have:=HLN.out;omega)
        have HND:=Lib.hid (show ∀ z,z∈L2→Gr.NdAt ws z from fun z hz=>(HN.out.below hBs).nd z ((HZ2.out z).1 hz).1)
        have hyl:=HIDL.out
        clear hp2 hz2 hn2 hyN hf
        refine wp_region_held_drew (S:=Held ws) (by kernel_rfl) (by rw[hws];exact Held.refl _) (fun hHeld=>?_)
        rw[← hws] at hHeld ⊢
        clear hws hF5
        refine tka (v:=?_) 0 18 rfl rfl hHeld (Or.inl ⟨by rfl,?_⟩) rfl ?_
        rotate_left
        · intro wq hSw
          go_simp
          try with_reducible rfl
        simp only[ts0,ts1]
        refine tka 2 20 rfl rfl hHeld (yieldsIf_load_agg (by rfl) 46 (.tmp 7) rfl _ _ (by rfl) (fun wq hSw=>lP wq hSw)) rfl ?_
        simp only[ts0,ts1]
        refine wpAnyH_ready (rs:=[1]) (by kernel_rfl) (by simp) ?_
        refine AllReadyH.cons rfl (fun K hK=>?_) AllReadyH.nil
        go_simp
        go_at_call 56
        refine(HA _ hHeld).mono ?_
        rintro e w9 ⟨rfl,rfl⟩
        refine hK.out _ _ hHeld (fun _=>?_)
        clear hK K
        try simp only[Act.put,List.setIfInBounds_toArray,ts0,ts1]
        refine tka 3 21 rfl rfl hHeld (yieldsIf_lookup_g (D:=Gr.dH) (M:=Gr.ents N) (b:=bn) (by rfl) (.tmp 19) (.tmp 20) true (by rfl) (by rfl) id (by rfl) HIDL.out (fun wq hSw=>HM.out wq hSw)) rfl ?_
        simp only[ts0,ts1]
        rw[HGOT.out]
        refine tka (v:=?_) 4 17 rfl rfl hHeld (Or.inl ⟨by rfl,?_⟩) rfl ?_
        rotate_left
        · intro wq hSw
          go_simp
          try with_reducible rfl
        simp only[ts0,ts1]
        refine tka (v:=?_) 5 22 rfl rfl hHeld (Or.inl ⟨by rfl,?_⟩) rfl ?_
        rotate_left
        · intro wq hSw
          go_simp
          try with_reducible rfl
        simp only[ts0,ts1]
        refine tka (v:=?_) 6 23 rfl rfl hHeld (Or.inl ⟨by rfl,?_⟩) rfl ?_
        rotate_left
        · intro wq hSw
          go_simp
          try with_reducible rfl
        simp only[ts0,ts1]
        refine tka (v:=?_) 7 8 rfl rfl hHeld (Or.inl ⟨by rfl,?_⟩) rfl ?_
        rotate_left
        · intro wq hSw
          go_simp
          try with_reducible rfl
        simp only[ts0,ts1]
        refine tka (v:=?_) 8 9 rfl rfl hHeld (Or.inl ⟨by rfl,?_⟩) rfl ?_
        rotate_left
        · intro wq hSw
          go_simp
          try with_reducible rfl
        simp only[ts0,ts1]
        refine wpAnyH_done (by kernel_rfl) ?_ _
        have HBs:=Lib.hid hBs
        go_wp2_with (first
          | (refine wpList_mapUpdate_g (D:=Gr.dH) rfl (.tmp 25) (.tmp 26) (.tmp 27) rfl rfl hmap id rfl hyl (some y.g) rfl rfl ?_;intro w3 hm3 hmv3)
          | (refine wpList_load_run rfl 46 (.tmp 7) rfl _ _ rfl lP2 ?_))
        rw[HP2.out] at hm3
        have hG3:Gr.GrpAt w3 b L2:=⟨hm3,fun z hz=>by
          refine(HND.out z hz).moved hmv3 (fun j hj e=>?_)
          have:=(HN.out.nd z ((HZ2.out z).1 hz).1).lt hj
          have:=HB.out
          omega⟩
        have hb3:Below w.heap.size w w3:=HBs.out.trans (hmv3.below (fun k hk=>by have:=HB.out;omega) HBs.out.size)
        clear hm3 hmv3 hmap
        go_roundw
        case rel=>exact⟨i+1,L2,by omega,by go_num,Lib.hid hG3,HZ2,HN2,hb3⟩
        case measure=>(simp[intOf];try omega)
    · have hii:¬ (i:Int)<(n:Int):=by omega
      obtain rfl:i=n:=by omega
      have HE:=Lib.hid (show I.take i=I from List.take_of_length_le (by have:=HI.out.1;omega))
      have hbb:w.heap.size≤b:=by have:=HB.out;omega
      go_wp2
      go_ret
      exact⟨b,rfl,hbb,L,HG.out,fun z=>by rw[HL.out,HE.out],HLN.out,hb⟩
end Go.Proofs.YtijemcfnlbapjaaGreatDoor
namespace Go.Proofs.YtijemcfnlbapjaaGreatDoor
open Go Go.RowKit Go.ChangeShapes Go.WideShapes
namespace Gr
def pt (s:Tx.Sp):Cs.Pt:=(s.h,s.n)
theorem pt_ok {s:Tx.Sp} (h:Tx.SpOk s):Cs.ptOk (pt s):=⟨h.1,h.2.1⟩
def spd (M:List Nd) (p:Cs.Pt):Option Nd:=M.find? fun x=>decide (p∈x.pts)
theorem spd_mem {M:List Nd} {p:Cs.Pt} {x:Nd} (h:spd M p=some x):x∈M∧p∈x.pts:=by
  refine⟨List.mem_of_find?_eq_some h,?_⟩
  have:=List.find?_some h
  exact of_decide_eq_true this
theorem spd_none {M:List Nd} {p:Cs.Pt} : spd M p=none↔∀ x,x∈M→p∉x.pts:=by
  unfold spd
  rw[List.find?_eq_none]
  exact⟨fun h x hx e=>h x hx (decide_eq_true e),fun h x hx e=>h x hx (of_decide_eq_true e)⟩
structure At (w:World) (g bn bs:Nat) (M:List Nd) (nx:Nat):Prop where
  has:Has w g 93 #[.map (some bn),.map (some bs),.int .i64 nx]
  grp:GrpAt w bn M
  sp:∃ S,MapG dP w bs S∧∀ p,Mp.look S p=(spd M p).map fun x=>some x.g
  ord:M.Pairwise (fun x y=>x.pl<y.pl)
  lt:∀ x,x∈M→x.pl<nx
  dis:∀ x y p,x∈M→y∈M→p∈x.pts→p∈y.pts→x=y
  fr:∀ x,x∈M→∀ j,x.F j→j≠g∧j≠bn∧j≠bs
  ne:bn≠bs∧g≠bn∧g≠bs
  le:M.length≤nx
  n1:nx≤1000
section
variable {w w':World} {g bn bs:Nat} {M:List Nd} {nx:Nat}
theorem GrpAt.inj {b:Nat} (h:GrpAt w b M):∀ x y,x∈M→y∈M→x.id=y.id→x=y:=by
  obtain⟨es,clock,_,_,hn,_⟩:=h.map
  rw[ents,List.map_map] at hn
  have hn2:(M.map (·.id)).Nodup:=hn
  intro x y hx hy e
  obtain⟨i,hi,rfl⟩:=List.mem_iff_getElem.1 hx
  obtain⟨j,hj,rfl⟩:=List.mem_iff_getElem.1 hy
  have h3:=List.pairwise_iff_getElem.1 hn2
  rcases Nat.lt_trichotomy i j with h | h | h
  · exact absurd (by rw[List.getElem_map,List.getElem_map];exact e) (h3 i j (by simpa using hi) (by simpa using hj) h)
  · subst h;rfl
  · exact absurd (by rw[List.getElem_map,List.getElem_map];exact e.symm) (h3 j i (by simpa using hj) (by simpa using hi) h)
theorem At.moved {G:Nat→Prop} (h:At w g bn bs M nx) (hm:Moved G w w') (h0:∀ j,G j→j≠g∧j≠bn∧j≠bs∧∀ x,x∈M→¬ x.F j):At w' g bn bs M nx:=by
  obtain⟨S,hS,hl⟩:=h.sp
  exact⟨h.has.moved hm (fun e=>(h0 g e).1 rfl),h.grp.moved hm (fun e=>(h0 bn e).2.1 rfl) (fun x hx j hj e=>(h0 j e).2.2.2 x hx hj),⟨S,hS.moved hm (fun e=>(h0 bs e).2.2.1 rfl),hl⟩,h.ord,h.lt,h.dis,h.fr,h.ne,h.le,h.n1⟩
theorem At.below (h:At w g bn bs M nx) (hb:Below w.heap.size w w'):At w' g bn bs M nx:=h.moved (G:=fun _=>False) (Moved.of_below hb) (fun _ e=>e.elim)
theorem At.pls (h:At w g bn bs M nx):(M.map (·.pl)).Nodup:=by
  rw[List.nodup_iff_pairwise_ne,List.pairwise_map]
  exact h.ord.imp (fun h=>by omega)
end
theorem filterMap_snoc {α β:Type} (f:α→Option β) (l:List α) (x:α):(l++[x]).filterMap f=match f x with | some y=>l.filterMap f++[y] | none=>l.filterMap f:=by
  rw[List.filterMap_append]
  cases h:f x with
  | none=>simp[h]
  | some y=>simp[h]
theorem filterMap_le {α β:Type} (f:α→Option β) (l:List α):(l.filterMap f).length≤l.length:=List.length_filterMap_le ..
def near (up:Bool) (M:List Nd) (x:Nd):List Nd:=if up then x.pts.filterMap (maker M) else((List.range x.x.m).map fun(i:Nat)=>(x.id,(i:Int))).filterMap (spd M)
end Gr
set_option maxRecDepth 100000 in
set_option maxHeartbeats 8000000 in
theorem gparents_any {w:World} {g bn bs:Nat} {M:List Gr.Nd} {nx:Nat} (h:Gr.At w g bn bs M nx) (x:Gr.Nd) (hx:x∈M) :
    Calls Tryz.prog 60 #[.pointer (some ⟨g,0,none⟩),.pointer (some ⟨x.g,0,none⟩)] w fun e w'=>∃ v,e=.returned v∧OwnR Gr.ptrRec 104 w.heap.size w' v (Gr.near true M x)∧Below w.heap.size w w':=by
  have hnd:=h.grp.nd x hx
  have c0:=hnd.sp
  have hat:=hnd.at
  have HR:=Lib.hid hat.sp
  have HSM:=Lib.hid hnd.sm
  have HH:=Lib.hid h
  have hmx:x.x.n≤9223372036854775807:=hat.sp.2.1
  obtain⟨xa,hxa⟩:∃ a,a=x.x.a:=⟨_,rfl⟩
  obtain⟨n,hn⟩:∃ a,a=x.x.n:=⟨_,rfl⟩
  obtain⟨q,hq⟩:∃ a,a=x.x.q:=⟨_,rfl⟩
  obtain⟨L,hL⟩:∃ a,a=x.x.t.sp:=⟨_,rfl⟩
  rw[← hxa,← hn,← hL] at HR
  rw[← hn] at hmx
  rw[← hxa,← hn,← hq] at c0
  obtain⟨xg,hxg⟩:∃ a,a=x.g:=⟨_,rfl⟩
  rw[← hxg] at c0 ⊢
  have HK:=Lib.hid (show Gr.near true M x=(L.map Gr.pt).filterMap (Gr.maker M) by rw[hL];rfl)
  have HLE:=Lib.hid (show L.length≤30 by rw[hL];exact HSM.out.1)
  clear hnd hat hxa hn hq hL hxg hx h HSM
  go_enter Tryz.func60,Tryz.ntmps60
  go_wp2
  have hO0:RowKit.Hid (OwnR Gr.ptrRec 104 w.heap.size w (.slice none 0 0) (((L.map Gr.pt).take 0).filterMap (Gr.maker M))):=Lib.hid (OwnR.nil _ _ _ _)
  go_loopw [5,16] (fun sv iv wr=>∃ (i:Nat) (ov:Value),i≤n∧iv=.int .i64 i∧ov=sv∧RowKit.Hid (OwnR Gr.ptrRec 104 w.heap.size wr ov (((L.map Gr.pt).take i).filterMap (Gr.maker M)))∧Below w.heap.size w wr) (fun _ iv _=>n-(intOf iv).toNat)
  case atStart=>exact⟨0,_,Nat.zero_le _,rfl,rfl,hO0,Below.refl _ _⟩
  case round=>
    clear hO0
    obtain⟨i,ov,hi,rfl,rfl,HO,hb⟩:=hrel
    by_cases hlt:i<n
    · have hii:(i:Int)<(n:Int):=by omega
      have hi0:(0:Int)≤(i:Int):=by omega
      obtain⟨s,hs⟩:=HR.out.get hlt
      obtain⟨y,hay,hy⟩:=spends_load (HR.out.below hb) hs
      subst hay
      have HS:=Lib.hid (HR.out.okay hs)
      have HT:=Lib.hid (show(L.map Gr.pt).take (i+1)=(L.map Gr.pt).take i++[Gr.pt s] by
        have h1:(L.map Gr.pt)[i]? = some (Gr.pt s):=by rw[List.getElem?_map,hs];rfl
        obtain⟨h2,h3⟩:=List.getElem?_eq_some_iff.1 h1
        rw[List.take_succ_eq_append_getElem h2,h3])
      have HLN:=Lib.hid (show(((L.map Gr.pt).take i).filterMap (Gr.maker M)).length≤30 by
        have h1:=Gr.filterMap_le (Gr.maker M) ((L.map Gr.pt).take i)
        have h2:((L.map Gr.pt).take i).length≤L.length:=by rw[List.length_take,List.length_map];omega
        have:=HLE.out
        omega)
      clear hs
      go_upto_region 5 with(first
        | (refine wpList_store_mid rfl 61 (.tmp 7) (.tmp 19) rfl wr.heap.size 0 (spCells s).toArray rfl rfl (spRec.there wr 61 (by kernel_rfl) HS.out) (spRec.size_eq size_spend HS.out) (spRec.all_one s) ?_)
        | (refine wpList_load_run rfl 61 (.tmp 18) rfl _ _ rfl hy ?_))
      obtain⟨w5,hw5⟩:∃ u,u=(wr.alloc (.cells zSp 61)).setCells wr.heap.size 0 (spCells s):=⟨_,rfl⟩
      obtain⟨hG,hb5⟩:=Rec.new (R:=spRec) (by kernel_rfl) HS.out hw5
      rw[← hw5]
      have HO5:=Lib.hid (HO.out.below hb5)
      have hT5:=hb.trans (hb5.mono hb.size)
      obtain⟨g5,hg5⟩:∃ g,g=wr.heap.size:=⟨_,rfl⟩
      rw[← hg5] at hG ⊢
      have lP:=hG.spPoint HS.out.1
      have hA5:=HH.out.below hT5
      have HC:=Lib.hid (gcreator_any hA5.has hA5.grp (Gr.pt s) (Gr.pt_ok HS.out))
      have h5:=hT5.size
      clear hw5 hG hb5 hy hg5 hA5 HO hb
      cases hmk:Gr.maker M (Gr.pt s) with
      | none=>
        rw[hmk] at HC
        replace HC:RowKit.Hid (Calls Tryz.prog 72 #[.pointer (some ⟨g,0,none⟩),.agg (ptCells s.h s.n).toArray] w5 fun e w'=>e=.returned (.tuple #[.pointer none,.bool false])∧Below w5.heap.size w5 w'):=HC
        have HF:=Lib.hid (show((L.map Gr.pt).take (i+1)).filterMap (Gr.maker M)=((L.map Gr.pt).take i).filterMap (Gr.maker M) by rw[HT.out,Gr.filterMap_snoc,hmk])
        clear hmk
        go_wp2_with (first
          | (go_at_call 72;refine HC.out.mono ?_;rintro e w6 ⟨rfl,hb6⟩;have hB6:=hT5.trans (hb6.mono h5);have HO6:=Lib.hid (HO5.out.below hb6))
          | (refine wpList_load_run rfl 58 (.tmp 22) rfl _ _ rfl lP ?_))
        go_roundw
        case rel=>exact⟨i+1,ov,by omega,by go_num,rfl,by rw[HF.out];exact HO6,hB6⟩
        case measure=>(simp[intOf];try omega)
      | some z=>
        rw[hmk] at HC
        replace HC:RowKit.Hid (Calls Tryz.prog 72 #[.pointer (some ⟨g,0,none⟩),.agg (ptCells s.h s.n).toArray] w5 fun e w'=>e=.returned (.tuple #[.pointer (some ⟨z.g,0,none⟩),.bool true])∧Below w5.heap.size w5 w'):=HC
        have HF:=Lib.hid (show((L.map Gr.pt).take (i+1)).filterMap (Gr.maker M)=((L.map Gr.pt).take i).filterMap (Gr.maker M)++[z] by rw[HT.out,Gr.filterMap_snoc,hmk])
        clear hmk
        go_wp2_with (first
          | (at_builtin;refine wpList_append_recs (R:=Gr.ptrRec) rfl (.tmp 28) (.tmp 30) 122 rfl 104 Tryz.underlying122 Gr.info_nd rfl (by decide) w.heap.size ov _ rfl (HO6.out.below ((Below.refl _ _).alloc (Nat.le_refl _) _)) (some ⟨w6.heap.size,0,none⟩) 1 1 [z] rfl (Gr.ptr_fresh z) (fun e=>by cases e) (by have:=HLN.out;omega) (by have:=hB6.size;simp;omega) ?_;intro v' w7 ho' hg' hl')
          | (go_at_call 72;refine HC.out.mono ?_;rintro e w6 ⟨rfl,hb6⟩;have hB6:=hT5.trans (hb6.mono h5);have HO6:=Lib.hid (HO5.out.below hb6))
          | (refine wpList_load_run rfl 58 (.tmp 22) rfl _ _ rfl lP ?_))
        have hB7:=below_own_recs (hB6.alloc hB6.size _) hg' HO6.out.lt
        have HO2:=Lib.hid (show OwnR Gr.ptrRec 104 w.heap.size w7 v' (((L.map Gr.pt).take (i+1)).filterMap (Gr.maker M)) by rw[HF.out];exact ho')
        clear ho' hg' hl' lP
        go_roundw
        case rel=>exact⟨i+1,v',by omega,by go_num,rfl,HO2,hB7⟩
        case measure=>(simp[intOf];try omega)
    · have hii:¬ (i:Int)<(n:Int):=by omega
      obtain rfl:i=n:=by omega
      have HO2:=Lib.hid (show OwnR Gr.ptrRec 104 w.heap.size wr ov (Gr.near true M x) by
        rw[HK.out]
        have e:(L.map Gr.pt).take i=L.map Gr.pt:=List.take_of_length_le (by rw[List.length_map,HR.out.1];omega)
        have:=HO.out
        rw[e] at this
        exact this)
      clear HO
      go_wp2
      go_ret
      exact⟨ov,rfl,HO2.out,hb⟩
end Go.Proofs.YtijemcfnlbapjaaGreatDoor
