/- package digest: Sum, Double · package digest: Double -/
import Derived.Test.YtijemcfnlbapjaaGreatDoorJ14
namespace Go.Proofs.YtijemcfnlbapjaaGreatDoor
open Go Go.RowKit Go.Shelf Go.ChangeShapes Go.WideShapes
attribute [local go_sem] Oper.semAt_some
def Dg.startL:List (BitVec 32):=[1779033703#32,3144134277#32,1013904242#32,2773480762#32,1359893119#32,2600822924#32,528734635#32,1541459225#32]
theorem Dg.start_at (L:List (BitVec 8)):(wcells 8 fun j=>Dg.startL.getD j 0)=wcells 8 (Dg.run L 0).at:=rfl
theorem Dg.m_blk (L:List (BitVec 8)) (s t:Nat) (ht:t<16):Dg.m (Dg.blkB L s) t=Dg.blk L s t:=by
  unfold Dg.m Dg.blk Dg.word
  rw[Dg.blkB_at L s _ (by omega),Dg.blkB_at L s _ (by omega),Dg.blkB_at L s _ (by omega),Dg.blkB_at L s _ (by omega)]
  simp only[Nat.add_assoc]
theorem Dg.run_step (L:List (BitVec 8)) (s:Nat):Dg.add8 (Dg.run L s) (Dg.steps (Dg.m (Dg.blkB L s)) (Dg.run L s) 64)=Dg.run L (s+1):=by
  show _=Dg.take8 L s (Dg.run L s)
  unfold Dg.take8
  rw[Dg.steps_same (fun t ht=>Dg.m_blk L s t ht)]
theorem leaves_arr {P:Program} {fn:Func} {n:Nat} {p:Tmp} {ty:TypeId} (h:fn.results=#[.cell p ty]) {tmps:Array Value} {D g:Nat} {w:World} {v:Value} {R:Ending→World→Prop}
    (hp:tmps.getD p undef=.pointer (some ⟨g,0,none⟩)) (hK:w.heap[D]? = some (.deferred (some []))) (hv:(loadVar ty ⟨g,0,none⟩).run P (w.putObj D (.deferred none))=.ok v (w.putObj D (.deferred none))) (hR:R (.returned v) (w.putObj D (.deferred none))) :
    bodyPostM Fence.wide n P fn R .ret { tmps:=tmps,defers:=[{ target:=.collected D,args:=#[] }] } w:=
  ⟨by simp,.inl ⟨_,_,rfl,run_takeDeferred hK,⟨v,results_one_cell h _ _ g hp _ hv,hR⟩⟩⟩
theorem calls_wide7 {P:Program} {f:FuncId} {args:Array Value} {w:World} {R:Ending→World→Prop} (h:CallsIn Fence.wide 5 P f args w R):Calls P f args w R:=callsIn_wide.1 h
def KDg (w:World):Prop:=Tab32 w 2 Dg.kL∧Tab32 w 0 Dg.startL
theorem KDg.below {w w':World} (h:KDg w) (hb:Below w.heap.size w w'):KDg w':=⟨h.1.below hb,h.2.below hb⟩
set_option maxRecDepth 100000 in
set_option maxHeartbeats 8000000 in
theorem dsum_any (a:Option Addr) (n c:Nat) (LL:List (List (BitVec 8))) (w:World) (hK:KDg w) (hP:Parts w a n LL) (hn:n≤1000) (hfl:LL.flatten.length≤1000000) :
    Calls Tryz.prog 96 #[.slice a n c] w fun e w'=>e=.returned (.agg (blist (Dg.sum LL.flatten)).toArray)∧Below w.heap.size w w':=by
  obtain⟨L,hL⟩:∃ L,L=Dg.pad LL.flatten:=⟨_,rfl⟩
  have HLd:=Lib.hid hL
  obtain⟨N,hN⟩:∃ N,N=L.length / 64:=⟨_,rfl⟩
  have HN:=Lib.hid (And.intro hN (show L.length%64=0 by rw[hL];exact Dg.pad_mod _))
  have HKD:=Lib.hid (And.intro (hK.1.lt (by decide)) (And.intro hK.1 hK.2))
  have hiter:=fun gX wD=>blocks_iter 4 (by omega) gX a n c LL w wD hP hfl (by omega)
  rw[← hL,← hN] at hiter
  clear hL hN hfl hn
  apply calls_wide7
  refine callsIn_of_wp_marks Tryz.func96 rfl trivial ?_ rfl
  simp only[Tryz.ntmps96,List.size_toArray,List.length_cons,List.length_nil,Nat.reduceAdd,Nat.reduceSub,Array.replicate_succ,Array.replicate_zero,List.push_toArray,List.append_toArray,List.nil_append,List.cons_append]
  refine wpIn_wide.2 ?_
  go_upto_region 1 with fail
  obtain⟨wA,hwA⟩:∃ x,x=w.alloc (.cells z32 46):=⟨_,rfl⟩
  rw[← hwA]
  have hs:wA.heap.size=w.heap.size+1:=by rw[hwA];simp
  have hR:Has wA w.heap.size 46 z32:=by rw[hwA];exact Has.fresh _ _ _
  have hB:Below w.heap.size w wA:=by rw[hwA];exact(Below.refl _ _).alloc (Nat.le_refl _) _
  have hSA:=HKD.out.2.2.below hB
  have hx:=hSA.load (P:=Tryz.prog) (k:=8) rfl Tryz.underlying159 rfl (by kernel_rfl)
  rw[Dg.start_at L] at hx
  clear hwA hSA
  obtain⟨gW,hgW⟩:∃ g,g=w.heap.size+1:=⟨_,rfl⟩
  have hZ:=Has.fresh_at (n:=gW) wA 159 z8 (by omega)
  have hth:=hZ.there 0 (wcells 8 (Dg.run L 0).at).size (by rw[wcells_size];decide)
  have HT:=Lib.hid (And.intro hth (And.intro (size_w8 (Dg.run L 0).at) (wcells_one 8 (Dg.run L 0).at)))
  clear hth
  go_upto_region 2 with(first
    | (rw[← hgW];refine wpList_store_mid rfl 159 (.tmp 3) (.tmp 5) rfl gW 0 (wcells 8 (Dg.run L 0).at) rfl rfl HT.out.1 HT.out.2.1 HT.out.2.2 ?_)
    | (refine wpList_load_run rfl 159 (.global 0) rfl _ _ rfl hx ?_))
  clear hx HT
  have hW:=hZ.whole_cs (cs2:=wcells 8 (Dg.run L 0).at) (by rw[wcells_size];rfl)
  have hR2:=(hR.past (.cells z8 159)).asideAll (g':=gW) (by omega) (wcells 8 (Dg.run L 0).at).toList 0
  have hB2:=below_setAll (g:=gW) (by omega) (wcells 8 (Dg.run L 0).at).toList 0 (hB.alloc hB.size (.cells z8 159))
  generalize (wA.alloc (.cells z8 159)).setCells gW 0 (wcells 8 (Dg.run L 0).at).toList=wC at hW hR2 hB2 ⊢
  clear hZ hR hB hs
  go_wp2_with (first
    | (go_at_call 113;refine(blocks_any a n c wC).mono ?_;rintro e wQ ⟨rfl,rfl⟩))
  obtain⟨gX,hgX⟩:∃ g,g=wC.heap.size:=⟨_,rfl⟩
  obtain⟨wD,hwD⟩:∃ x,x=wC.alloc (.cells #[.slice a n c] 143):=⟨_,rfl⟩
  rw[← hwD,← hgX,← hgW]
  have hXD:Has wD gX 143 #[.slice a n c]:=by rw[hwD,hgX];exact Has.fresh _ _ _
  have hWD:Has wD gW 159 (wcells 8 (Dg.run L 0).at):=by rw[hwD];exact hW.past _
  have hRD:Has wD w.heap.size 46 z32:=by rw[hwD];exact hR2.past _
  have hBD:Below w.heap.size w wD:=by rw[hwD];exact hB2.alloc hB2.size _
  have hlt:gW<gX∧gX<wD.heap.size:=⟨by rw[hgX];exact hW.lt,hXD.lt⟩
  have HG:=Lib.hid (And.intro hgW hlt)
  clear hwD hgX hW hR2 hB2 hgW hlt
  refine(wpIn_wide (n:=5)).1 ?_
  refine wpIn_range_keep (F:=Fence.wide) rfl (by omega) (gf:=137) (lb:=#[.pointer (some ⟨gX,0,none⟩)]) rfl trivial (enters_of Tryz.func137 (by kernel_rfl) rfl)
    (hiter gX wD) (Below.refl _ _) (fun _=>rfl)
    (fun s W=>Has W gW 159 (wcells 8 (Dg.run L s).at)∧Has W w.heap.size 46 z32∧Has W gX 143 #[.slice a n c]∧Below w.heap.size w W)
    ?hI (fun s W h=>⟨h.2.2.2,h.2.2.1⟩) ⟨hWD,hRD,hXD,hBD⟩
    (fun s x s' a' W=>s'=s+1∧s<N∧x=Dg.blkB L s∧∃ g,a'={ tmps:=#[.slice a n c,undef,.pointer (some ⟨w.heap.size,0,none⟩),.pointer (some ⟨gW,0,none⟩),.pointer (some ⟨g,0,none⟩),.agg (wcells 8 (Dg.run L 0).at),
      .slice a n c,.func (.func 137) #[] #[.pointer (some ⟨gX,0,none⟩)],.agg (blist x).toArray,undef,undef,undef,undef,undef],defers:=[] }∧Has W g 163 (blist x).toArray)
    ?hAx ?assign ?body ?done
  case hI=>
    intro s W1 W2 h hb
    have hg:=HG.out
    exact⟨h.1.under hb (by omega),h.2.1.under hb (by omega),h.2.2.1.under hb (by omega),h.2.2.2.trans (hb.mono (by omega))⟩
  case hAx=>exact fun x s' a' s W1 W2 row h hg hr=>⟨h.1,h.2.1,h.2.2.1,by
    obtain⟨g,h1,h2⟩:=h.2.2.2
    exact⟨g,h1,h2.kept hg (fun r e=>(hr r e).2)⟩⟩
  case assign=>
    rintro l s x s' W K hi hsz ⟨hs',hsN,hxb⟩ hK
    have hxl:x.length=64:=by rw[hxb];exact Dg.blkB_len L s (by have:=HN.out;omega)
    have hth:=(Has.fresh W 163 zb64).there 0 (blist x).toArray.size (by rw[List.size_toArray,blist_length,hxl];decide)
    have hsz2:(Tryz.prog.info? 163).map (·.size)=some (blist x).toArray.size:=by rw[List.size_toArray,blist_length,hxl];kernel_rfl
    have HT:=Lib.hid (And.intro hth (And.intro hsz2 (one_hash x)))
    have hb2:Below W.heap.size W ((W.alloc (.cells zb64 163)).setCells W.heap.size 0 (blist x).toArray.toList):=below_setAll (Nat.le_refl _) _ 0 ((Below.refl _ _).alloc (Nat.le_refl _) _)
    have hH2:=(Has.fresh W 163 zb64).whole_cs (cs2:=(blist x).toArray) (by rw[List.size_toArray,blist_length,hxl];rfl)
    have hg:=HG.out
    have hi2:Has ((W.alloc (.cells zb64 163)).setCells W.heap.size 0 (blist x).toArray.toList) gW 159 (wcells 8 (Dg.run L s).at)∧Has ((W.alloc (.cells zb64 163)).setCells W.heap.size 0 (blist x).toArray.toList) w.heap.size 46 z32∧Has ((W.alloc (.cells zb64 163)).setCells W.heap.size 0 (blist x).toArray.toList) gX 143 #[.slice a n c]∧Below w.heap.size w ((W.alloc (.cells zb64 163)).setCells W.heap.size 0 (blist x).toArray.toList):=
      ⟨hi.1.under hb2 hi.1.lt,hi.2.1.under hb2 hi.2.1.lt,hi.2.2.1.under hb2 hi.2.2.1.lt,hi.2.2.2.trans (hb2.mono hi.2.2.2.size)⟩
    have HH:=Lib.hid (And.intro hb2 (And.intro hH2 hi2))
    have HXB:=Lib.hid hxb
    clear hth hsz2 hb2 hH2 hi2 hg hi hsz hxl hxb
    dsimp only[encB]
    gi_wp2_with (refine wpListInR_store (by rfl) 163 (.tmp 4) (.tmp 8) rfl W.heap.size 0 (blist x).toArray rfl rfl HT.out.1 HT.out.2.1 HT.out.2.2 ?_)
    exact hK _ _ (Keeps.below HH.out.1) HH.out.2.2 ⟨hs',hsN,HXB.out,_,rfl,HH.out.2.1⟩
  case body=>
    rintro l s x s' a' W hi hsz ⟨rfl,hsN,rfl,g,rfl,hgx⟩
    obtain⟨hW1,hR1,hX1,hB1⟩:=hi
    have hg:=HG.out
    have hbl:(Dg.blkB L s).length=64:=Dg.blkB_len L s (by have:=HN.out;omega)
    have hx1:=hW1.load_agg (P:=Tryz.prog) Tryz.underlying159 rfl (size_w8 _)
    have hx2:=hgx.load_agg (P:=Tryz.prog) Tryz.underlying163 rfl (by rw[List.size_toArray,blist_length,hbl];kernel_rfl)
    have hM:=mixed_any (Dg.run L s) (Dg.blkB L s) hbl W (HKD.out.2.1.below hB1)
    rw[Dg.run_step] at hM
    have HM:=Lib.hid hM
    have HT:=Lib.hid (And.intro (size_w8 (Dg.run L (s+1)).at) (wcells_one 8 (Dg.run L (s+1)).at))
    clear hM hbl hg
    gi_wp2_with (first
      | (refine⟨trivial,?_⟩;gi_at_call 114;refine(CallsIn.inRound l (callsIn_wide.2 HM.out)).mono ?_;rintro e w3 ⟨rfl,hb3⟩;have hW3:=hW1.under hb3 hW1.lt;have hth:=hW3.there 0 (wcells 8 (Dg.run L (s+1)).at).size (by rw[wcells_size,wcells_size];exact Nat.le_refl _))
      | (refine wpListInR_store (by rfl) 159 (.tmp 3) (.tmp 11) rfl gW 0 (wcells 8 (Dg.run L (s+1)).at) rfl rfl hth HT.out.1 HT.out.2 ?_)
      | (refine wpListInR_load (by rfl) 159 (.tmp 3) rfl _ _ rfl hx1 ?_)
      | (refine wpListInR_load (by rfl) 163 (.tmp 4) rfl _ _ rfl hx2 ?_))
    have hg:=HG.out
    refine⟨(Keeps.below hb3).trans (Keeps.grown (grown_puts7 _ 0 (grown_refl7 _ (some gW))) (by omega)),hW3.whole_cs (by rw[wcells_size,wcells_size]),?_,?_,?_⟩
    · exact(hR1.under hb3 hR1.lt).asideAll (by omega) _ 0
    · exact(hX1.under hb3 hX1.lt).asideAll (by omega) _ 0
    · exact below_setAll (by omega) _ 0 (hB1.trans (hb3.mono hB1.size))
  case done=>
    rintro D s W hD rfl ⟨hW1,hR1,hX1,hB1⟩ hK1
    have hg:=HG.out
    have hDW:D<W.heap.size:=(Array.getElem?_eq_some_iff.1 hK1).1
    have hx1:=hW1.load_agg (P:=Tryz.prog) Tryz.underlying159 rfl (size_w8 _)
    obtain⟨v,hv⟩:∃ v,v=Dg.run L s:=⟨_,rfl⟩
    rw[← hv] at hx1
    have HV:=Lib.hid (show Dg.out v=Dg.sum LL.flatten by unfold Dg.sum;rw[← HLd.out,← HN.out.1,hv])
    have HJ:=Lib.hid (joined_any v W)
    have hsz:=size_hash' (Dg.out_len v)
    have hone:=one_hash (Dg.out v)
    have HT:=Lib.hid (And.intro hsz hone)
    have HD:=Lib.hid (And.intro hg (And.intro hD hDW))
    clear hsz hone hv hg hD hDW hX1 hW1
    go_wp2_with (first
      | (go_at_call 115;refine HJ.out.mono ?_;rintro e w3 ⟨rfl,hb3⟩;have hR3:=hR1.under hb3 hR1.lt;have hth:=hR3.there 0 (blist (Dg.out v)).toArray.size (by rw[List.size_toArray,blist_length,Dg.out_len];decide))
      | (refine wpList_store_mid rfl 46 (.tmp 2) (.tmp 13) rfl w.heap.size 0 (blist (Dg.out v)).toArray rfl rfl hth HT.out.1 HT.out.2 ?_)
      | (refine wpList_load_run rfl 159 (.tmp 3) rfl _ _ rfl hx1 ?_))
    have hd:=HD.out
    have hE:=hR3.whole (l:=Dg.out v) (by rw[Dg.out_len];rfl)
    have hS:=size_hash (Dg.out_len v)
    have hK3:(w3.setCells w.heap.size 0 (blist (Dg.out v))).heap[D]? = some (.deferred (some [])):=by
      have h1:w3.heap[D]? = some (.deferred (some [])):=(hb3.block D (by omega)).trans hK1
      exact((grown_puts7 (blist (Dg.out v)) 0 (grown_refl7 w3 (some w.heap.size))).block D (by have:=hb3.size;omega) (fun e=>by injection e with e;omega)).trans h1
    have hE2:Has ((w3.setCells w.heap.size 0 (blist (Dg.out v))).putObj D (.deferred none)) w.heap.size 46 (blist (Dg.out v)).toArray:=(World.putObj_heap_other (by omega)).trans hE
    have hB3:=below_setAll (g:=w.heap.size) (Nat.le_refl _) (blist (Dg.out v)) 0 (hB1.trans (hb3.mono hB1.size))
    refine leaves_arr rfl rfl hK3 (run_loadVar_mid _ _ 0 46 _ _ hE2.range Tryz.underlying46 rfl hS) ⟨by rw[HV.out],below_put_at hB3 hB3.size (by omega) _⟩
end Go.Proofs.YtijemcfnlbapjaaGreatDoor
namespace Go.Proofs.YtijemcfnlbapjaaGreatDoor
open Go Go.RowKit Go.ChangeShapes Go.WideShapes
set_option maxRecDepth 100000 in
set_option maxHeartbeats 4000000 in
theorem ddouble_any (a:Option Addr) (n c:Nat) (LL:List (List (BitVec 8))) (w:World) (hK:KDg w) (hP:Parts w a n LL) (hn:n≤1000) (hfl:LL.flatten.length≤1000000) :
    Calls Tryz.prog 79 #[.slice a n c] w fun e w'=>e=.returned (.agg (blist (Dg.double LL.flatten)).toArray)∧Below w.heap.size w w':=by
  have hB1:Below w.heap.size w (w.alloc (.cells z32 46)):=(Below.refl _ _).alloc (Nat.le_refl _) _
  have hR1:Has (w.alloc (.cells z32 46)) w.heap.size 46 z32:=Has.fresh _ _ _
  have hS:=dsum_any a n c LL _ (hK.below hB1) (hP.below hB1) hn hfl
  obtain⟨S,hSd⟩:∃ S,S=Dg.sum LL.flatten:=⟨_,rfl⟩
  rw[← hSd] at hS
  have HS:=Lib.hid hS
  have hSl:S.length=32:=by rw[hSd];exact Dg.sum_len _
  obtain⟨D,hDd⟩:∃ D,D=Dg.double LL.flatten:=⟨_,rfl⟩
  have hDl:D.length=32:=by rw[hDd];exact Dg.double_len _
  have HD:=Lib.hid (And.intro (show D=Dg.sum [S].flatten by rw[hDd,hSd];simp[Dg.double]) (And.intro hDl (And.intro hSl hDd)))
  have HK:=Lib.hid (And.intro hK hB1)
  have HR:=Lib.hid hR1
  have hszS:=size_hash' hSl
  have hszD:=size_hash' hDl
  have HT:=Lib.hid (And.intro (And.intro hszS (one_hash S)) (And.intro hszD (one_hash D)))
  clear hS hSd hDd hK hB1 hR1 hszS hszD hSl hDl hP hfl hn
  rw[← HD.out.2.2.2]
  go_enter Tryz.func79,Tryz.ntmps79
  go_upto_region 2 with(first
    | (refine wpList_store_mid rfl 46 (.tmp 3) (.tmp 5) rfl w2.heap.size 0 (blist S).toArray rfl rfl (there_new w2 _ HD.out.2.2.1) HT.out.1.1 HT.out.1.2 ?_)
    | (go_at_call 96;refine HS.out.mono ?_;rintro e w2 ⟨rfl,hb2⟩))
  obtain⟨w3,hw3⟩:∃ x,x=(w2.alloc (.cells z32 46)).setCells w2.heap.size 0 (blist S):=⟨_,rfl⟩
  rw[← hw3]
  obtain⟨hH3,hb3⟩:=hash_new HD.out.2.2.1 hw3
  have hB2:Below w.heap.size w w2:=HK.out.2.trans (hb2.mono HK.out.2.size)
  have hB3:Below w.heap.size w w3:=hB2.trans (hb3.mono hB2.size)
  have hR3:Has w3 w.heap.size 46 z32:=(HR.out.under hb2 HR.out.lt).under hb3 (HR.out.under hb2 HR.out.lt).lt
  obtain⟨g,hg⟩:∃ g,g=w2.heap.size:=⟨_,rfl⟩
  rw[← hg] at hH3 ⊢
  have hB4:Below w.heap.size w (w3.alloc (.cells #[.slice (some ⟨g,0,none⟩) 32 32] 130)):=hB3.alloc hB3.size _
  have hP4:=parts_one (c:=32) 130 (bytes_has32 hH3 HD.out.2.2.1) (Nat.le_refl _) (fun e=>by cases e)
  have hS4:=dsum_any _ 1 1 [S] _ (HK.out.1.below hB4) hP4 (by omega) (by simp[HD.out.2.2.1])
  rw[← HD.out.1] at hS4
  have HS4:=Lib.hid hS4
  have hR4:=hR3.past (.cells #[.slice (some ⟨g,0,none⟩) 32 32] 130)
  have HB:=Lib.hid hB4
  clear hS4 hP4 hw3 hg hR3 hB3 hB2 hb2 hb3 hH3 hB4
  go_wp2_with (first
    | (refine wpList_store_mid rfl 46 (.tmp 2) (.tmp 8) rfl w.heap.size 0 (blist D).toArray rfl rfl hth HT.out.2.1 HT.out.2.2 ?_)
    | (go_at_call 96;refine HS4.out.mono ?_;rintro e w5 ⟨rfl,hb5⟩;have hR5:=hR4.under hb5 hR4.lt;have hth:=hR5.there 0 (blist D).toArray.size (by rw[List.size_toArray,blist_length,HD.out.2.1];decide)))
  have hE:=hR5.whole (l:=D) (by rw[HD.out.2.1];rfl)
  have hS:=size_hash HD.out.2.1
  exact bodyPost_ret (results_one_cell rfl _ _ w.heap.size rfl _ (run_loadVar_mid _ _ 0 46 _ _ hE.range Tryz.underlying46 rfl hS)) rfl ⟨rfl,below_setAll (Nat.le_refl _) _ 0 (HB.out.trans (hb5.mono HB.out.size))⟩
end Go.Proofs.YtijemcfnlbapjaaGreatDoor
