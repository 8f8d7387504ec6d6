/- package graph: New, add, drop (mkgrj.py) -/
import Derived.Test.YtijemcfnlbapjaaGreatDoorJ21
import Derived.Test.YtijemcfnlbapjaaGreatDoorJ01
namespace Go.Proofs.YtijemcfnlbapjaaGreatDoor
open Go Go.RowKit Go.ChangeShapes Go.WideShapes
set_option maxHeartbeats 4000000 in
theorem gnew_any (w:World):Calls Tryz.prog 9 #[] w fun e w'=>e=.returned (.pointer (some ⟨w.heap.size+2,0,none⟩))∧Gr.At w' (w.heap.size+2) w.heap.size (w.heap.size+1) [] 0∧Below w.heap.size w w':=by
  have hmm:=@run_makeMap Tryz.prog
  have hbd:=fun(w:World) (n m:Option Nat)=>run_build (P:=Tryz.prog) w 93 #[(0,.map n),(1,.map m)] #[.map n,.map m,.int .i64 0] (by kernel_rfl)
  go_enter Tryz.func9,Tryz.ntmps9
  go_wp2
  go_ret
  have b1:Below w.heap.size w (w.alloc (.map #[] 0)):=(Below.refl _ _).alloc (Nat.le_refl _) _
  have s1:(w.alloc (.map #[] 0)).heap.size=w.heap.size+1:=by simp
  have b2:Below (w.heap.size+1) (w.alloc (.map #[] 0)) ((w.alloc (.map #[] 0)).alloc (.map #[] 0)):=(Below.refl _ _).alloc (by rw[s1];exact Nat.le_refl _) _
  have s2:((w.alloc (.map #[] 0)).alloc (.map #[] 0)).heap.size=w.heap.size+2:=by simp
  refine⟨by simp,⟨Has.fresh_at _ _ _ (by simp),⟨((MapG.fresh w).below (by rw[s1];exact b2)).below ((Below.refl _ _).alloc (Nat.le_refl _) _),fun _ h=>by cases h⟩,⟨[],?_,fun p=>rfl⟩,List.Pairwise.nil,(fun _ h=>by cases h),(fun _ _ _ h=>by cases h),(fun _ h=>by cases h),⟨by omega,by omega,by omega⟩,Nat.le_refl _,by omega⟩,(b1.trans (b2.mono (by omega))).alloc (by rw[s2];omega) _⟩
  have h:=MapG.fresh (D:=Gr.dP) (w.alloc (.map #[] 0))
  rw[s1] at h
  exact h.below ((Below.refl _ _).alloc (Nat.le_refl _) _)
theorem Gr.spd_snoc (M:List Gr.Nd) (x:Gr.Nd) (p:Cs.Pt):Gr.spd (M++[x]) p=match Gr.spd M p with | some y=>some y | none=>if p∈x.pts then some x else none:=by
  unfold Gr.spd
  rw[List.find?_append]
  cases h:M.find? (fun x=>decide (p∈x.pts)) with
  | some y=>rfl
  | none=>
    rw[Option.none_or,List.find?_cons]
    by_cases hp:p∈x.pts
    · simp[hp]
    · simp[hp]
set_option maxRecDepth 100000 in
set_option maxHeartbeats 8000000 in
theorem gadd_any {w:World} {g bn bs:Nat} {M:List Gr.Nd} {nx:Nat} (h:Gr.At w g bn bs M nx) (x:Gr.Nd) (hx:Gr.NdAt w x) (hpl:x.pl=nx) (hid:Gr.find M x.id=none) (hsp:∀ p,p∈x.pts→Gr.spd M p=none) (hF:∀ j,x.F j→j≠g∧j≠bn∧j≠bs) (hn1:nx+1≤1000) :
    Calls Tryz.prog 75 #[.pointer (some ⟨g,0,none⟩),.pointer (some ⟨x.g,0,none⟩)] w fun e w'=>e=.returned (.tuple #[])∧Gr.At w' g bn bs (M++[x]) (nx+1)∧Moved (fun j=>j=g∨j=bn∨j=bs) w w':=by
  have HH:=Lib.hid h
  have HX0:=Lib.hid hx
  have HPR:=Lib.hid (And.intro hpl (And.intro hid hsp))
  have HF:=Lib.hid hF
  have c2:w.cell? ⟨g,2,none⟩=some (.int .i64 nx):=h.has.cell_at rfl
  have f2:=h.has.loose 2
  have hnw:IntKind.i64.wrap ((nx:Int)+1)=((nx+1:Nat):Int):=by rw[IntWalk.i64_in _ (by omega)];omega
  clear h hx hpl hid hsp hF
  go_enter Tryz.func75,Tryz.ntmps75
  go_upto_region 1 with fail
  obtain⟨w1,hw1⟩:∃ ww,ww=w.setCell ⟨g,2,none⟩ (.int .i64 ((nx:Int)+1)):=⟨_,rfl⟩
  have hg1:Has w1 g 93 #[.map (some bn),.map (some bs),.int .i64 ((nx:Int)+1)]:=by rw[hw1];exact HH.out.has.put 2 _
  have hm1:Moved (fun j=>j=g∨j=bn∨j=bs) w w1:=by rw[hw1];exact(Moved.refl _ _).put (.inl (.inl rfl)) 2 _
  have HMG:=Lib.hid (show Moved (fun j=>j=g) w w1.drew by rw[hw1];exact((Moved.refl (fun j=>j=g) w).put (.inl rfl) 2 _).drew)
  rw[← hw1]
  clear hw1 c2 f2 hnw
  obtain⟨ws,hws⟩:∃ ww,ww=w1.drew:=⟨_,rfl⟩
  have hgs:Has ws g 93 #[.map (some bn),.map (some bs),.int .i64 ((nx:Int)+1)]:=by rw[hws];exact hg1.draw
  have hms:Moved (fun j=>j=g∨j=bn∨j=bs) w ws:=by rw[hws];exact hm1.drew
  have hxs:=HX0.out.moved hms (fun j hj e=>by have:=HF.out j hj;rcases e with e | e | e<;>omega)
  have HX:=Lib.hid hxs
  obtain⟨S0,hS0,hl0⟩:=HH.out.sp
  have hmg:Moved (fun j=>j=g) w ws:=by
    rw[hws]
    exact HMG.out
  have HMP:=Lib.hid (show MapG Gr.dH ws bn (Gr.ents M) from HH.out.grp.map.moved hmg (fun e=>HH.out.ne.2.1 e.symm))
  have HSP1:=Lib.hid (show MapG Gr.dP ws bs S0 from hS0.moved hmg (fun e=>HH.out.ne.2.2 e.symm))
  have HL0:=Lib.hid hl0
  have lmap:=fun(wq:World) (hSw:HeldM (fun j=>j=bn) ws wq)=>(show wq.cell? ⟨g,0,none⟩=some (.map (some bn)) from(hgs.moved hSw.out HH.out.ne.2.1).cell_at rfl)
  have lid:=fun(wq:World) (hSw:HeldM (fun j=>j=bn) ws wq)=>(hxs.moved hSw.out (fun j hj e=>(HF.out j hj).2.1 e)).lid
  have HGS:=Lib.hid (And.intro hgs hms)
  refine wp_region_held_drew (S:=HeldM (fun j=>j=bn) ws) (by kernel_rfl) (by rw[hws];exact HeldM.refl _ _) (fun hHeld=>?_)
  rw[← hws] at hHeld ⊢
  clear hws hg1 hm1 hgs hms hxs hS0 hl0 hmg
  refine tka (v:=?_) 0 13 rfl rfl hHeld (Or.inl ⟨by rfl,?_⟩) rfl ?_
  rotate_left
  · intro wq hSw
    go_simp
    try with_reducible rfl
  simp only[ts0,ts1]
  refine tka (v:=?_) 1 14 rfl rfl hHeld (Or.inl ⟨by rfl,?_⟩) rfl ?_
  rotate_left
  · intro wq hSw
    go_simp
    try with_reducible rfl
  simp only[ts0,ts1]
  refine tka (v:=?_) 2 15 rfl rfl hHeld (Or.inl ⟨by rfl,?_⟩) rfl ?_
  rotate_left
  · intro wq hSw
    go_simp
    try with_reducible rfl
  simp only[ts0,ts1]
  refine tka (v:=?_) 3 16 rfl rfl hHeld (Or.inl ⟨by rfl,?_⟩) rfl ?_
  rotate_left
  · intro wq hSw
    have hst:=lmap wq hSw
    go_simp
    try with_reducible rfl
  simp only[ts0,ts1]
  refine tka (v:=?_) 4 17 rfl rfl hHeld (Or.inl ⟨by rfl,?_⟩) rfl ?_
  rotate_left
  · intro wq hSw
    go_simp
    try with_reducible rfl
  simp only[ts0,ts1]
  refine tka (v:=?_) 5 18 rfl rfl hHeld (Or.inl ⟨by rfl,?_⟩) rfl ?_
  rotate_left
  · intro wq hSw
    go_simp
    try with_reducible rfl
  simp only[ts0,ts1]
  refine tka (v:=?_) 6 19 rfl rfl hHeld (Or.inl ⟨by rfl,?_⟩) rfl ?_
  rotate_left
  · intro wq hSw
    go_simp
    try with_reducible rfl
  simp only[ts0,ts1]
  refine tka 7 20 rfl rfl hHeld (yieldsIf_load_agg (by rfl) 46 (.tmp 19) rfl _ _ (by rfl) (fun wq hSw=>lid wq hSw)) rfl ?_
  simp only[ts0,ts1]
  refine tka (v:=?_) 8 21 rfl rfl hHeld (Or.inl ⟨by rfl,?_⟩) rfl ?_
  rotate_left
  · intro wq hSw
    go_simp
    try with_reducible rfl
  simp only[ts0,ts1]
  refine wpAnyH_ready (rs:=[9]) (by kernel_rfl) (by simp) ?_
  refine AllReadyH.cons rfl (fun K hK=>?_) AllReadyH.nil
  refine step_mapUpdate_g (D:=Gr.dH) (b:=bn) (M:=Gr.ents M) (by rfl) (.tmp 16) (.tmp 20) (.tmp 21) rfl rfl (HMP.out) (x.id) rfl (HX.out.id) (some x.g) rfl rfl (fun w' hm' hmv=>?_)
  refine hK.out _ _ (HeldM.of hmv) (fun _=>?_)
  clear hK K
  replace hHeld:=HeldM.of hmv
  try simp only[Act.put]
  refine wpAnyH_done (by kernel_rfl) ?_ _
  obtain⟨w2,hw2⟩:∃ ww,ww=w':=⟨_,rfl⟩
  rw[← hw2] at hm' hmv hHeld ⊢
  clear hw2 hHeld
  have HM2:=Lib.hid (show MapG Gr.dH w2 bn (Gr.ents (M++[x])) by
    have e:Mp.put (Gr.ents M) x.id (some x.g)=Gr.ents (M++[x]):=by
      unfold Mp.put
      have h1:Mp.idx x.id (Gr.ents M)=none:=by
        have h2:=Gr.look_ents M x.id
        rw[HPR.out.2.1] at h2
        exact Option.map_eq_none_iff.1 h2
      rw[h1,Gr.ents,Gr.ents,List.map_append]
      rfl
    rw[← e]
    exact hm')
  have HGW2:=Lib.hid (show Has w2 g 93 #[.map (some bn),.map (some bs),.int .i64 ((nx:Int)+1)] from HGS.out.1.moved hmv HH.out.ne.2.1)
  have HX2:=Lib.hid (show Gr.NdAt w2 x from HX.out.moved hmv (fun j hj e=>(HF.out j hj).2.1 e))
  have HMV2:=Lib.hid (show Moved (fun j=>j=g∨j=bn∨j=bs) w w2 from HGS.out.2.trans hmv (fun k hk=>.inl (.inr (.inl hk))))
  have HSP2:=Lib.hid (show MapG Gr.dP w2 bs S0 from HSP1.out.moved hmv (fun e=>HH.out.ne.1 e.symm))
  clear hm' hmv lmap lid
  have hat:=HX2.out.at
  obtain⟨xa,hxa⟩:∃ a,a=x.x.a:=⟨_,rfl⟩
  obtain⟨n,hn⟩:∃ a,a=x.x.n:=⟨_,rfl⟩
  obtain⟨q,hq⟩:∃ a,a=x.x.q:=⟨_,rfl⟩
  obtain⟨L,hL⟩:∃ a,a=x.x.t.sp:=⟨_,rfl⟩
  have HR:=Lib.hid (show Recs spRec w2 xa n L by rw[hxa,hn,hL];exact hat.sp)
  have hmx:n≤9223372036854775807:=HR.out.2.1
  have HAA:=Lib.hid (And.intro hxa (And.intro hn hq))
  have HLL:=Lib.hid hL
  have c0:w2.cell? ⟨x.g,0,none⟩=some (.slice xa n q):=by rw[hxa,hn,hq];exact HX2.out.sp
  clear hxa hn hq hL hat
  go_upto_region 3 with fail
  go_loopw [28] (fun iv wr=>∃ (i:Nat),i≤n∧iv=.int .i64 i∧RowKit.Hid (∃ S,MapG Gr.dP wr bs S∧∀ p,Mp.look S p=if p∈x.pts.take i then some (some x.g) else(Gr.spd M p).map fun z=>some z.g)∧RowKit.Hid (Moved (fun j=>j=bs) w2 wr)) (fun iv _=>n-(intOf iv).toNat)
  case atStart=>exact⟨0,Nat.zero_le _,rfl,Lib.hid ⟨S0,HSP2.out,fun p=>by rw[List.take_zero,if_neg (by simp)];exact HL0.out p⟩,Lib.hid (Moved.refl _ _)⟩
  case round=>
    clear c0
    obtain⟨i,hi,rfl,HSP0,HMR⟩:=hrel
    have HGW:=Lib.hid (show Has wr g 93 #[.map (some bn),.map (some bs),.int .i64 ((nx:Int)+1)] from HGW2.out.moved HMR.out HH.out.ne.2.2)
    by_cases hlt:i<n
    · have HX:=HX2
      have hmr:Moved (fun j=>j=g∨j=bn∨j=bs) w2 wr:=HMR.out.mono (fun k hk=>.inr (.inr hk))
      have hii:(i:Int)<(n:Int):=by omega
      have hi0:(0:Int)≤(i:Int):=by omega
      obtain⟨s,hs⟩:=HR.out.get hlt
      have hxr:=HX.out.moved hmr (fun j hj e=>by have:=(HF.out j hj);rcases e with e | e | e<;>omega)
      obtain⟨y,hay,hy⟩:=spends_load hxr.at.sp (show x.x.t.sp[i]? = some s by rw[← HLL.out];exact hs)
      rw[← HAA.out.1] at hay
      subst hay
      have HS:=Lib.hid (HR.out.okay hs)
      have HT:=Lib.hid (show x.pts.take (i+1)=x.pts.take i++[Gr.pt s] by
        have h1:x.pts[i]? = some (Gr.pt s):=by
          show(x.x.t.sp.map fun s=>(s.h,s.n))[i]? = _
          rw[List.getElem?_map,← HLL.out,hs]
          rfl
        obtain⟨h2,h3⟩:=List.getElem?_eq_some_iff.1 h1
        rw[List.take_succ_eq_append_getElem h2,h3])
      clear hs
      go_upto_region 5 with(first
        | (refine wpList_store_mid rfl 61 (.tmp 5) (.tmp 31) rfl wr.heap.size 0 (spCells s).toArray rfl rfl (spRec.there wr 61 (by kernel_rfl) HS.out) (spRec.size_eq size_spend HS.out) (spRec.all_one s) ?_)
        | (refine wpList_load_run rfl 61 (.tmp 30) rfl _ _ rfl hy ?_))
      obtain⟨w5,hw5⟩:∃ u,u=(wr.alloc (.cells zSp 61)).setCells wr.heap.size 0 (spCells s):=⟨_,rfl⟩
      obtain⟨hG,hb5⟩:=Rec.new (R:=spRec) (by kernel_rfl) HS.out hw5
      rw[← hw5]
      obtain⟨g5,hg5⟩:∃ g,g=wr.heap.size:=⟨_,rfl⟩
      rw[← hg5] at hG ⊢
      have HG5:=Lib.hid hg5
      obtain⟨ws,hws⟩:∃ ww,ww=w5.drew:=⟨_,rfl⟩
      have hb5s:Below wr.heap.size wr ws:=by rw[hws];exact hb5.drew
      have hGs:Has ws g5 61 (spCells s).toArray:=by rw[hws];exact hG.draw
      have hms:Moved (fun j=>j=g∨j=bn∨j=bs) w2 ws:=hmr.then hb5s
      obtain⟨S,hS,hlk⟩:=HSP0.out
      have HSP:=Lib.hid (show MapG Gr.dP ws bs S from hS.below hb5s)
      have HLK:=Lib.hid hlk
      have hgs:Has ws g 93 #[.map (some bn),.map (some bs),.int .i64 ((nx:Int)+1)]:=HGW.out.under hb5s HGW.out.lt
      have hbsl:bs<ws.heap.size:=HSP.out.lt
      have HNE:=Lib.hid (show ¬ g5=bs∧¬ g=bs from⟨by have:=hS.lt;have:=HG5.out;omega,HH.out.ne.2.2⟩)
      have lpt:=fun(wq:World) (hSw:HeldM (fun j=>j=bs) ws wq)=>(hGs.moved hSw.out HNE.out.1).spPoint HS.out.1
      have lmap2:=fun(wq:World) (hSw:HeldM (fun j=>j=bs) ws wq)=>(show wq.cell? ⟨g,1,none⟩=some (.map (some bs)) from(hgs.moved hSw.out HNE.out.2).cell_at rfl)
      have HGS:=Lib.hid (And.intro hgs hms)
      refine wp_region_held_drew (S:=HeldM (fun j=>j=bs) ws) (by kernel_rfl) (by rw[hws];exact HeldM.refl _ _) (fun hHeld=>?_)
      rw[← hws] at hHeld ⊢
      clear hws hw5 hg5 hG hb5 hgs hGs hms hS hlk hy hxr
      refine tka (v:=?_) 0 32 rfl rfl hHeld (Or.inl ⟨by rfl,?_⟩) rfl ?_
      rotate_left
      · intro wq hSw
        go_simp
        try with_reducible rfl
      simp only[ts0,ts1]
      refine tka (v:=?_) 1 33 rfl rfl hHeld (Or.inl ⟨by rfl,?_⟩) rfl ?_
      rotate_left
      · intro wq hSw
        go_simp
        try with_reducible rfl
      simp only[ts0,ts1]
      refine tka (v:=?_) 2 34 rfl rfl hHeld (Or.inl ⟨by rfl,?_⟩) rfl ?_
      rotate_left
      · intro wq hSw
        go_simp
        try with_reducible rfl
      simp only[ts0,ts1]
      refine tka (v:=?_) 3 35 rfl rfl hHeld (Or.inl ⟨by rfl,?_⟩) rfl ?_
      rotate_left
      · intro wq hSw
        have hst:=lmap2 wq hSw
        go_simp
        try with_reducible rfl
      simp only[ts0,ts1]
      refine tka (v:=?_) 4 36 rfl rfl hHeld (Or.inl ⟨by rfl,?_⟩) rfl ?_
      rotate_left
      · intro wq hSw
        go_simp
        try with_reducible rfl
      simp only[ts0,ts1]
      refine tka 5 37 rfl rfl hHeld (yieldsIf_load_agg (by rfl) 58 (.tmp 36) rfl _ _ (by rfl) (fun wq hSw=>lpt wq hSw)) rfl ?_
      simp only[ts0,ts1]
      refine tka (v:=?_) 6 38 rfl rfl hHeld (Or.inl ⟨by rfl,?_⟩) rfl ?_
      rotate_left
      · intro wq hSw
        go_simp
        try with_reducible rfl
      simp only[ts0,ts1]
      refine wpAnyH_ready (rs:=[7]) (by kernel_rfl) (by simp) ?_
      refine AllReadyH.cons rfl (fun K hK=>?_) AllReadyH.nil
      refine step_mapUpdate_g (D:=Gr.dP) (b:=bs) (M:=S) (by rfl) (.tmp 35) (.tmp 37) (.tmp 38) rfl rfl (HSP.out) (Gr.pt s) rfl (Gr.pt_ok HS.out) (some x.g) rfl rfl (fun w' hm' hmv=>?_)
      refine hK.out _ _ (HeldM.of hmv) (fun _=>?_)
      clear hK K
      replace hHeld:=HeldM.of hmv
      try simp only[Act.put]
      refine wpAnyH_done (by kernel_rfl) ?_ _
      have HS2:=Lib.hid (show ∃ S,MapG Gr.dP w' bs S∧∀ p,Mp.look S p=if p∈x.pts.take (i+1) then some (some x.g) else(Gr.spd M p).map fun z=>some z.g from⟨_,hm',fun p=>by
        rw[Mp.look_put,HLK.out]
        by_cases h1:p=Gr.pt s
        · rw[if_pos h1,if_pos (by rw[HT.out,h1];simp)]
        · by_cases h2:p∈x.pts.take i
          · rw[if_neg h1,if_pos h2,if_pos (by rw[HT.out];exact List.mem_append_left _ h2)]
          · rw[if_neg h1,if_neg h2,if_neg (by rw[HT.out,List.mem_append,List.mem_singleton];exact fun e=>e.elim h2 h1)]⟩)
      have HM2:=Lib.hid (show Moved (fun j=>j=bs) w2 w' from(HMR.out.then hb5s).trans hmv (fun k hk=>.inl hk))
      clear hm' hmv hHeld lpt lmap2
      go_wp2
      go_roundw
      case rel=>exact⟨i+1,by omega,by go_num,HS2,HM2⟩
      case measure=>(simp[intOf];try omega)
    · have hii:¬ (i:Int)<(n:Int):=by omega
      obtain rfl:i=n:=by omega
      have HSP3:=Lib.hid (show ∃ S,MapG Gr.dP wr bs S∧∀ p,Mp.look S p=(Gr.spd (M++[x]) p).map fun z=>some z.g by
        obtain⟨S,hS,hlk⟩:=HSP0.out
        refine⟨S,hS,fun p=>?_⟩
        have e:x.pts.take i=x.pts:=List.take_of_length_le (by rw[Gr.Nd.pts,List.length_map,← HLL.out,HR.out.1];exact Nat.le_refl _)
        rw[hlk,e,Gr.spd_snoc]
        by_cases hp:p∈x.pts
        · rw[if_pos hp,HPR.out.2.2 p hp,if_pos hp]
          rfl
        · rw[if_neg hp,if_neg hp]
          cases Gr.spd M p<;>rfl)
      have HMF:=Lib.hid (show Moved (fun j=>j=g∨j=bn∨j=bs) w wr from HMV2.out.trans (HMR.out) (fun k hk=>.inl (.inr (.inr hk))))
      have hfin:Gr.At wr g bn bs (M++[x]) (nx+1):=by
        have hnd:∀ z,z∈M++[x]→Gr.NdAt wr z:=fun z hz=>(List.mem_append.1 hz).elim (fun hz=>(HH.out.grp.nd z hz).moved HMF.out (fun j hj e=>by have:=HH.out.fr z hz j hj;rcases e with e | e | e<;>omega)) (fun e=>by rw[List.mem_singleton.1 e];exact HX2.out.moved HMR.out (fun j hj e=>(HF.out j hj).2.2 e))
        refine⟨HGW.out,⟨HM2.out.moved HMR.out HH.out.ne.1,hnd⟩,HSP3.out,?_,fun z hz=>?_,fun y z p hy hz h1 h2=>?_,fun z hz j hj=>?_,HH.out.ne,by rw[List.length_append];have:=HH.out.le;simp;omega,hn1⟩
        · rw[List.pairwise_append]
          exact⟨HH.out.ord,List.pairwise_singleton _ _,fun a ha b hb=>by rw[List.mem_singleton.1 hb,HPR.out.1];exact HH.out.lt a ha⟩
        · rcases List.mem_append.1 hz with hz | hz
          · have:=HH.out.lt z hz;omega
          · rw[List.mem_singleton.1 hz,HPR.out.1];omega
        · rcases List.mem_append.1 hy with hy | hy<;>rcases List.mem_append.1 hz with hz | hz
          · exact HH.out.dis y z p hy hz h1 h2
          · rw[List.mem_singleton.1 hz] at h2
            exact absurd h1 (Gr.spd_none.1 (HPR.out.2.2 p h2) y hy)
          · rw[List.mem_singleton.1 hy] at h1
            exact absurd h2 (Gr.spd_none.1 (HPR.out.2.2 p h1) z hz)
          · rw[List.mem_singleton.1 hy,List.mem_singleton.1 hz]
        · rcases List.mem_append.1 hz with hz | hz
          · exact HH.out.fr z hz j hj
          · rw[List.mem_singleton.1 hz] at hj
            exact HF.out j hj
      have HFIN:=Lib.hid hfin
      clear hfin
      go_wp2
      go_end0
      exact⟨rfl,HFIN.out,HMF.out⟩
theorem Gr.spd_uniq {M:List Gr.Nd} {p:Cs.Pt} {y:Gr.Nd} (h:y∈M) (hp:p∈y.pts) (hu:∀ z,z∈M→p∈z.pts→z=y):Gr.spd M p=some y:=by
  cases hs:Gr.spd M p with
  | none=>exact absurd hp (Gr.spd_none.1 hs y h)
  | some z=>
    have:=Gr.spd_mem hs
    rw[hu z this.1 this.2]
def Gr.less (M:List Gr.Nd) (x:Gr.Nd):List Gr.Nd:=M.filter fun y=>decide (y.id≠x.id)
theorem Gr.less_mem {M:List Gr.Nd} {x y:Gr.Nd} : y∈Gr.less M x↔y∈M∧y.id≠x.id:=by
  unfold Gr.less
  rw[List.mem_filter,decide_eq_true_eq]
theorem Gr.ents_del (x:Gr.Nd):∀ {M:List Gr.Nd},(M.map (·.id)).Nodup→Mp.del (Gr.ents M) x.id=Gr.ents (Gr.less M x)
  | [],_=>rfl
  | y :: M,hn=>by
    rw[List.map_cons,List.nodup_cons] at hn
    show Mp.del ((y.id,some y.g) :: Gr.ents M) x.id=_
    rw[Mp.del_cons]
    unfold Gr.less
    rw[List.filter_cons]
    by_cases h:x.id=y.id
    · have e1:decide (y.id≠x.id)=false:=decide_eq_false (fun e=>e h.symm)
      have e2:M.filter (fun z=>decide (z.id≠x.id))=M:=List.filter_eq_self.2 (fun z hz=>decide_eq_true (fun e:z.id=x.id=>hn.1 (List.mem_map.2 ⟨z,hz,by rw[e,h]⟩)))
      rw[if_pos h,e1,e2]
      rfl
    · have e1:decide (y.id≠x.id)=true:=decide_eq_true (fun e=>h e.symm)
      rw[if_neg h,e1,Gr.ents_del x hn.2]
      rfl
theorem Gr.spd_less {M:List Gr.Nd} {x:Gr.Nd} (hx:x∈M) (hd:∀ x y p,x∈M→y∈M→p∈x.pts→p∈y.pts→x=y) (hi:∀ x y,x∈M→y∈M→x.id=y.id→x=y) (p:Cs.Pt):Gr.spd (Gr.less M x) p=if p∈x.pts then none else Gr.spd M p:=by
  by_cases hp:p∈x.pts
  · rw[if_pos hp]
    refine Gr.spd_none.2 fun y hy h=>?_
    have:=Gr.less_mem.1 hy
    exact this.2 (by rw[hd y x p this.1 hx h hp])
  · rw[if_neg hp]
    cases hs:Gr.spd M p with
    | none=>exact Gr.spd_none.2 fun y hy=>Gr.spd_none.1 hs y (Gr.less_mem.1 hy).1
    | some y=>
      have hy:=Gr.spd_mem hs
      exact Gr.spd_uniq (Gr.less_mem.2 ⟨hy.1,fun e=>hp (by rw[hi x y hx hy.1 e.symm];exact hy.2)⟩) hy.2 (fun z hz h=>hd z y p (Gr.less_mem.1 hz).1 hy.1 h hy.2)
set_option maxRecDepth 100000 in
set_option maxHeartbeats 8000000 in
theorem gdrop_any {w:World} {g bn bs:Nat} {M:List Gr.Nd} {nx:Nat} (h:Gr.At w g bn bs M nx) (x:Gr.Nd) (hx:x∈M) :
    Calls Tryz.prog 78 #[.pointer (some ⟨g,0,none⟩),.pointer (some ⟨x.g,0,none⟩)] w fun e w'=>e=.returned (.tuple #[])∧Gr.At w' g bn bs (Gr.less M x) nx∧Moved (fun j=>j=g∨j=bn∨j=bs) w w':=by
  have HH:=Lib.hid h
  have HXM:=Lib.hid hx
  have HF:=Lib.hid (h.fr x hx)
  clear h hx
  go_enter Tryz.func78,Tryz.ntmps78
  obtain⟨ws,hws⟩:∃ ww,ww=w.drew:=⟨_,rfl⟩
  have hbs0:Below w.heap.size w ws:=by rw[hws];exact(Below.refl _ _).drew
  have HAS:=Lib.hid (HH.out.below hbs0)
  have hgs:=HAS.out.has
  have hxs:=HAS.out.grp.nd x HXM.out
  have HX:=Lib.hid hxs
  have hms:Moved (fun j=>j=g∨j=bn∨j=bs) w ws:=Moved.of_below hbs0
  obtain⟨S0,hS0,hl0⟩:=HAS.out.sp
  have HMP:=Lib.hid HAS.out.grp.map
  have HSP1:=Lib.hid hS0
  have HL0:=Lib.hid hl0
  have lmap:=fun(wq:World) (hSw:HeldM (fun j=>j=bn) ws wq)=>(show wq.cell? ⟨g,0,none⟩=some (.map (some bn)) from(hgs.moved hSw.out HH.out.ne.2.1).cell_at rfl)
  have lid:=fun(wq:World) (hSw:HeldM (fun j=>j=bn) ws wq)=>(hxs.moved hSw.out (fun j hj e=>(HF.out j hj).2.1 e)).lid
  have HGS:=Lib.hid (And.intro hgs hms)
  go_upto_region 0 with fail
  refine wp_region_held_drew (S:=HeldM (fun j=>j=bn) ws) (by kernel_rfl) (by rw[hws];exact HeldM.refl _ _) (fun hHeld=>?_)
  rw[← hws] at hHeld ⊢
  clear hws hgs hms hxs hS0 hl0 hbs0
  refine tka (v:=?_) 0 6 rfl rfl hHeld (Or.inl ⟨by rfl,?_⟩) rfl ?_
  rotate_left
  · intro wq hSw
    go_simp
    try with_reducible rfl
  simp only[ts0,ts1]
  refine tka (v:=?_) 1 7 rfl rfl hHeld (Or.inl ⟨by rfl,?_⟩) rfl ?_
  rotate_left
  · intro wq hSw
    go_simp
    try with_reducible rfl
  simp only[ts0,ts1]
  refine tka (v:=?_) 2 8 rfl rfl hHeld (Or.inl ⟨by rfl,?_⟩) rfl ?_
  rotate_left
  · intro wq hSw
    go_simp
    try with_reducible rfl
  simp only[ts0,ts1]
  refine tka (v:=?_) 3 9 rfl rfl hHeld (Or.inl ⟨by rfl,?_⟩) rfl ?_
  rotate_left
  · intro wq hSw
    have hst:=lmap wq hSw
    go_simp
    try with_reducible rfl
  simp only[ts0,ts1]
  refine tka (v:=?_) 4 10 rfl rfl hHeld (Or.inl ⟨by rfl,?_⟩) rfl ?_
  rotate_left
  · intro wq hSw
    go_simp
    try with_reducible rfl
  simp only[ts0,ts1]
  refine tka (v:=?_) 5 11 rfl rfl hHeld (Or.inl ⟨by rfl,?_⟩) rfl ?_
  rotate_left
  · intro wq hSw
    go_simp
    try with_reducible rfl
  simp only[ts0,ts1]
  refine tka (v:=?_) 6 12 rfl rfl hHeld (Or.inl ⟨by rfl,?_⟩) rfl ?_
  rotate_left
  · intro wq hSw
    go_simp
    try with_reducible rfl
  simp only[ts0,ts1]
  refine tka 7 13 rfl rfl hHeld (yieldsIf_load_agg (by rfl) 46 (.tmp 12) rfl _ _ (by rfl) (fun wq hSw=>lid wq hSw)) rfl ?_
  simp only[ts0,ts1]
  refine wpAnyH_ready (rs:=[8]) (by kernel_rfl) (by simp) ?_
  refine AllReadyH.cons rfl (fun K hK=>?_) AllReadyH.nil
  refine step_delete_g (D:=Gr.dH) (b:=bn) (M:=Gr.ents M) (by rfl) (.tmp 9) (.tmp 13) rfl rfl (HMP.out) (x.id) rfl (HX.out.id) (fun w' hm' hmv=>?_)
  refine hK.out _ _ (HeldM.of hmv) (fun _=>?_)
  clear hK K
  replace hHeld:=HeldM.of hmv
  try simp only[Act.put]
  refine wpAnyH_done (by kernel_rfl) ?_ _
  obtain⟨w2,hw2⟩:∃ ww,ww=w':=⟨_,rfl⟩
  rw[← hw2] at hm' hmv hHeld ⊢
  clear hw2 hHeld
  have HM2:=Lib.hid (show MapG Gr.dH w2 bn (Gr.ents (Gr.less M x)) by
    rw[← Gr.ents_del x (by
      have:=HH.out.grp.map.keys
      rw[Gr.ents,List.map_map] at this
      exact this)]
    exact hm')
  have HGW2:=Lib.hid (show Has w2 g 93 #[.map (some bn),.map (some bs),.int .i64 nx] from HGS.out.1.moved hmv HH.out.ne.2.1)
  have HX2:=Lib.hid (show Gr.NdAt w2 x from HX.out.moved hmv (fun j hj e=>(HF.out j hj).2.1 e))
  have HMV2:=Lib.hid (show Moved (fun j=>j=g∨j=bn∨j=bs) w w2 from HGS.out.2.trans hmv (fun k hk=>.inl (.inr (.inl hk))))
  have HSP2:=Lib.hid (show MapG Gr.dP w2 bs S0 from HSP1.out.moved hmv (fun e=>HH.out.ne.1 e.symm))
  clear hm' hmv lmap lid
  have hat:=HX2.out.at
  obtain⟨xa,hxa⟩:∃ a,a=x.x.a:=⟨_,rfl⟩
  obtain⟨n,hn⟩:∃ a,a=x.x.n:=⟨_,rfl⟩
  obtain⟨q,hq⟩:∃ a,a=x.x.q:=⟨_,rfl⟩
  obtain⟨L,hL⟩:∃ a,a=x.x.t.sp:=⟨_,rfl⟩
  have HR:=Lib.hid (show Recs spRec w2 xa n L by rw[hxa,hn,hL];exact hat.sp)
  have hmx:n≤9223372036854775807:=HR.out.2.1
  have HAA:=Lib.hid (And.intro hxa (And.intro hn hq))
  have HLL:=Lib.hid hL
  have c0:w2.cell? ⟨x.g,0,none⟩=some (.slice xa n q):=by rw[hxa,hn,hq];exact HX2.out.sp
  clear hxa hn hq hL hat
  go_upto_region 2 with fail
  go_loopw [20] (fun iv wr=>∃ (i:Nat),i≤n∧iv=.int .i64 i∧RowKit.Hid (∃ S,MapG Gr.dP wr bs S∧∀ p,Mp.look S p=if p∈x.pts.take i then none else(Gr.spd M p).map fun z=>some z.g)∧RowKit.Hid (Moved (fun j=>j=bs) w2 wr)) (fun iv _=>n-(intOf iv).toNat)
  case atStart=>exact⟨0,Nat.zero_le _,rfl,Lib.hid ⟨S0,HSP2.out,fun p=>by rw[List.take_zero,if_neg (by simp)];exact HL0.out p⟩,Lib.hid (Moved.refl _ _)⟩
  case round=>
    clear c0
    obtain⟨i,hi,rfl,HSP0,HMR⟩:=hrel
    have HGW:=Lib.hid (show Has wr g 93 #[.map (some bn),.map (some bs),.int .i64 nx] from HGW2.out.moved HMR.out HH.out.ne.2.2)
    by_cases hlt:i<n
    · have HX:=HX2
      have hmr:Moved (fun j=>j=g∨j=bn∨j=bs) w2 wr:=HMR.out.mono (fun k hk=>.inr (.inr hk))
      have hii:(i:Int)<(n:Int):=by omega
      have hi0:(0:Int)≤(i:Int):=by omega
      obtain⟨s,hs⟩:=HR.out.get hlt
      have hxr:=HX.out.moved hmr (fun j hj e=>by have:=(HF.out j hj);rcases e with e | e | e<;>omega)
      obtain⟨y,hay,hy⟩:=spends_load hxr.at.sp (show x.x.t.sp[i]? = some s by rw[← HLL.out];exact hs)
      rw[← HAA.out.1] at hay
      subst hay
      have HS:=Lib.hid (HR.out.okay hs)
      have HT:=Lib.hid (show x.pts.take (i+1)=x.pts.take i++[Gr.pt s] by
        have h1:x.pts[i]? = some (Gr.pt s):=by
          show(x.x.t.sp.map fun s=>(s.h,s.n))[i]? = _
          rw[List.getElem?_map,← HLL.out,hs]
          rfl
        obtain⟨h2,h3⟩:=List.getElem?_eq_some_iff.1 h1
        rw[List.take_succ_eq_append_getElem h2,h3])
      clear hs
      go_upto_region 4 with(first
        | (refine wpList_store_mid rfl 61 (.tmp 5) (.tmp 23) rfl wr.heap.size 0 (spCells s).toArray rfl rfl (spRec.there wr 61 (by kernel_rfl) HS.out) (spRec.size_eq size_spend HS.out) (spRec.all_one s) ?_)
        | (refine wpList_load_run rfl 61 (.tmp 22) rfl _ _ rfl hy ?_))
      obtain⟨w5,hw5⟩:∃ u,u=(wr.alloc (.cells zSp 61)).setCells wr.heap.size 0 (spCells s):=⟨_,rfl⟩
      obtain⟨hG,hb5⟩:=Rec.new (R:=spRec) (by kernel_rfl) HS.out hw5
      rw[← hw5]
      obtain⟨g5,hg5⟩:∃ g,g=wr.heap.size:=⟨_,rfl⟩
      rw[← hg5] at hG ⊢
      have HG5:=Lib.hid hg5
      obtain⟨ws,hws⟩:∃ ww,ww=w5.drew:=⟨_,rfl⟩
      have hb5s:Below wr.heap.size wr ws:=by rw[hws];exact hb5.drew
      have hGs:Has ws g5 61 (spCells s).toArray:=by rw[hws];exact hG.draw
      have hms:Moved (fun j=>j=g∨j=bn∨j=bs) w2 ws:=hmr.then hb5s
      obtain⟨S,hS,hlk⟩:=HSP0.out
      have HSP:=Lib.hid (show MapG Gr.dP ws bs S from hS.below hb5s)
      have HLK:=Lib.hid hlk
      have hgs:Has ws g 93 #[.map (some bn),.map (some bs),.int .i64 nx]:=HGW.out.under hb5s HGW.out.lt
      have hbsl:bs<ws.heap.size:=HSP.out.lt
      have HNE:=Lib.hid (show ¬ g5=bs∧¬ g=bs from⟨by have:=hS.lt;have:=HG5.out;omega,HH.out.ne.2.2⟩)
      have lpt:=fun(wq:World) (hSw:HeldM (fun j=>j=bs) ws wq)=>(hGs.moved hSw.out HNE.out.1).spPoint HS.out.1
      have lmap2:=fun(wq:World) (hSw:HeldM (fun j=>j=bs) ws wq)=>(show wq.cell? ⟨g,1,none⟩=some (.map (some bs)) from(hgs.moved hSw.out HNE.out.2).cell_at rfl)
      have HGS:=Lib.hid (And.intro hgs hms)
      refine wp_region_held_drew (S:=HeldM (fun j=>j=bs) ws) (by kernel_rfl) (by rw[hws];exact HeldM.refl _ _) (fun hHeld=>?_)
      rw[← hws] at hHeld ⊢
      clear hws hw5 hg5 hG hb5 hgs hGs hms hS hlk hy hxr
      refine tka (v:=?_) 0 24 rfl rfl hHeld (Or.inl ⟨by rfl,?_⟩) rfl ?_
      rotate_left
      · intro wq hSw
        go_simp
        try with_reducible rfl
      simp only[ts0,ts1]
      refine tka (v:=?_) 1 25 rfl rfl hHeld (Or.inl ⟨by rfl,?_⟩) rfl ?_
      rotate_left
      · intro wq hSw
        go_simp
        try with_reducible rfl
      simp only[ts0,ts1]
      refine tka (v:=?_) 2 26 rfl rfl hHeld (Or.inl ⟨by rfl,?_⟩) rfl ?_
      rotate_left
      · intro wq hSw
        go_simp
        try with_reducible rfl
      simp only[ts0,ts1]
      refine tka (v:=?_) 3 27 rfl rfl hHeld (Or.inl ⟨by rfl,?_⟩) rfl ?_
      rotate_left
      · intro wq hSw
        have hst:=lmap2 wq hSw
        go_simp
        try with_reducible rfl
      simp only[ts0,ts1]
      refine tka (v:=?_) 4 28 rfl rfl hHeld (Or.inl ⟨by rfl,?_⟩) rfl ?_
      rotate_left
      · intro wq hSw
        go_simp
        try with_reducible rfl
      simp only[ts0,ts1]
      refine tka 5 29 rfl rfl hHeld (yieldsIf_load_agg (by rfl) 58 (.tmp 28) rfl _ _ (by rfl) (fun wq hSw=>lpt wq hSw)) rfl ?_
      simp only[ts0,ts1]
      refine wpAnyH_ready (rs:=[6]) (by kernel_rfl) (by simp) ?_
      refine AllReadyH.cons rfl (fun K hK=>?_) AllReadyH.nil
      refine step_delete_g (D:=Gr.dP) (b:=bs) (M:=S) (by rfl) (.tmp 27) (.tmp 29) rfl rfl (HSP.out) (Gr.pt s) rfl (Gr.pt_ok HS.out) (fun w' hm' hmv=>?_)
      refine hK.out _ _ (HeldM.of hmv) (fun _=>?_)
      clear hK K
      replace hHeld:=HeldM.of hmv
      try simp only[Act.put]
      refine wpAnyH_done (by kernel_rfl) ?_ _
      have HS2:=Lib.hid (show ∃ S,MapG Gr.dP w' bs S∧∀ p,Mp.look S p=if p∈x.pts.take (i+1) then none else(Gr.spd M p).map fun z=>some z.g from⟨_,hm',fun p=>by
        rw[Mp.look_del _ _ HSP.out.keys,HLK.out]
        by_cases h1:p=Gr.pt s
        · rw[if_pos h1,if_pos (by rw[HT.out,h1];simp)]
        · by_cases h2:p∈x.pts.take i
          · rw[if_neg h1,if_pos h2,if_pos (by rw[HT.out];exact List.mem_append_left _ h2)]
          · rw[if_neg h1,if_neg h2,if_neg (by rw[HT.out,List.mem_append,List.mem_singleton];exact fun e=>e.elim h2 h1)]⟩)
      have HM2:=Lib.hid (show Moved (fun j=>j=bs) w2 w' from(HMR.out.then hb5s).trans hmv (fun k hk=>.inl hk))
      clear hm' hmv hHeld lpt lmap2
      go_wp2
      go_roundw
      case rel=>exact⟨i+1,by omega,by go_num,HS2,HM2⟩
      case measure=>(simp[intOf];try omega)
    · have hii:¬ (i:Int)<(n:Int):=by omega
      obtain rfl:i=n:=by omega
      have HSP3:=Lib.hid (show ∃ S,MapG Gr.dP wr bs S∧∀ p,Mp.look S p=(Gr.spd (Gr.less M x) p).map fun z=>some z.g by
        obtain⟨S,hS,hlk⟩:=HSP0.out
        refine⟨S,hS,fun p=>?_⟩
        have e:x.pts.take i=x.pts:=List.take_of_length_le (by rw[Gr.Nd.pts,List.length_map,← HLL.out,HR.out.1];exact Nat.le_refl _)
        rw[hlk,e,Gr.spd_less HXM.out HH.out.dis HH.out.grp.inj]
        by_cases hp:p∈x.pts
        · rw[if_pos hp,if_pos hp]
          rfl
        · rw[if_neg hp,if_neg hp])
      have HMF:=Lib.hid (show Moved (fun j=>j=g∨j=bn∨j=bs) w wr from HMV2.out.trans (HMR.out) (fun k hk=>.inl (.inr (.inr hk))))
      have hfin:Gr.At wr g bn bs (Gr.less M x) nx:=by
        have hsub:∀ z,z∈Gr.less M x→z∈M:=fun z hz=>(Gr.less_mem.1 hz).1
        have hnd:∀ z,z∈Gr.less M x→Gr.NdAt wr z:=fun z hz=>(HH.out.grp.nd z (hsub z hz)).moved HMF.out (fun j hj e=>by have:=HH.out.fr z (hsub z hz) j hj;rcases e with e | e | e<;>omega)
        refine⟨HGW.out,⟨HM2.out.moved HMR.out HH.out.ne.1,hnd⟩,HSP3.out,HH.out.ord.sublist List.filter_sublist,fun z hz=>HH.out.lt z (hsub z hz),fun y z p hy hz h1 h2=>HH.out.dis y z p (hsub y hy) (hsub z hz) h1 h2,fun z hz=>HH.out.fr z (hsub z hz),HH.out.ne,Nat.le_trans (List.length_filter_le _ _) HH.out.le,HH.out.n1⟩
      have HFIN:=Lib.hid hfin
      clear hfin
      go_wp2
      go_end0
      exact⟨rfl,HFIN.out,HMF.out⟩
end Go.Proofs.YtijemcfnlbapjaaGreatDoor
