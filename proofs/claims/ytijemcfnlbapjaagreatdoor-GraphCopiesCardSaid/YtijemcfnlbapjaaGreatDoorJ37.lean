/- law 14: stands (mkgsm.py) -/
import Derived.Test.YtijemcfnlbapjaaGreatDoorJ36
namespace Go.Proofs.YtijemcfnlbapjaaGreatDoor
open Go Go.RowKit Go.ChangeShapes Go.WideShapes
set_option maxRecDepth 100000 in
set_option maxHeartbeats 32000000 in
theorem gstands_any {W w:World} {g bn bs:Nat} {M:List Gr.Nd} {nx:Nat} {y:Addr} {yn yq:Nat} {L:List Gr.Rn} (h:Gr.Pl W w g bn bs M nx (some y) yn yq L) (hB:Below W.heap.size W w) :
    Calls Tryz.prog 11 #[.pointer (some ⟨g,0,none⟩),.slice (some y) yn yq] w fun e w'=>e=.returned (.bool true)∧Below w.heap.size w w':=by
  have HP:=Lib.hid h
  have HBW:=Lib.hid hB
  have HND:=Lib.hid h.nodup
  have HYN:=Lib.hid (show yn≤1000 from by have:=h.len;omega)
  have hynm:yn≤9223372036854775807:=by have:=h.len;omega
  have HR1:=Lib.hid (rids14_any (some y) yn yq L w h.r (by have:=h.len;omega))
  obtain⟨LI,hLI⟩:∃ l,l=L.map (·.id):=⟨_,rfl⟩
  rw[← hLI] at HR1
  have HGI:=Lib.hid (show ∀ w',Below w.heap.size w w'→Calls Tryz.prog 33 #[.pointer (some ⟨g,0,none⟩)] w' fun e w2=>∃ v,e=.returned v∧Gr.IdsV v LI w2∧Below w'.heap.size w' w2 from fun w' hb=>by
    refine(gIDs_any (HP.out.below hb).ga).mono ?_
    rintro e w2 ⟨v,G,rfl,ho,hw,hz,hb2⟩
    rw[HP.out.sim.allids HP.out.ga.ord hw hz,← hLI] at ho
    exact⟨v,rfl,Gr.IdsV.of ho,hb2⟩)
  have HLE:=Lib.hid (show ∀ w',Below w.heap.size w w'→Calls Tryz.prog 39 #[.pointer (some ⟨g,0,none⟩)] w' fun e w2=>e=.returned (.int .i64 yn)∧Below w'.heap.size w' w2 from fun w' hb=>by
    have h9:=glen_any (HP.out.below hb).ga.has (HP.out.below hb).ga.grp.map
    have e:((Gr.ents M).length:Int)=(yn:Int):=by
      rw[Gr.ents,List.length_map,HP.out.sim.len,← HP.out.len.1]
    rw[e] at h9
    exact h9)
  clear h hB hLI
  go_enter Tryz.func11,Tryz.ntmps11
  go_upto_region 2 with(go_at_call 47;refine HR1.out.mono ?_;rintro e w2 ⟨v2,rfl,ho2,hb2⟩;obtain⟨ia,im,iq,rfl,hi2⟩:=Gr.IdsV.of ho2)
  have HI2:=Lib.hid hi2
  have HB2:=Lib.hid hb2
  clear ho2 hi2 hb2 HR1
  go_upto_region 4 with(first
    | (go_at_call 39;refine(HLE.out w4 HB4.out).mono ?_;rintro e w5 ⟨rfl,hb5⟩)
    | (go_at_call 18;refine(Gr.hashes_same ja jn jq ia im iq LI w3 hj (HI2.out.below hb3)).mono ?_;rintro e w4 ⟨rfl,hb4⟩;have HB4:=Lib.hid (HB2.out.trans ((hb3.trans (hb4.mono hb3.size)).mono HB2.out.size)))
    | (go_at_call 33;refine(HGI.out w2 HB2.out).mono ?_;rintro e w3 ⟨_,rfl,⟨ja,jn,jq,rfl,hj⟩,hb3⟩))
  have HB5:=Lib.hid (HB4.out.trans (hb5.mono HB4.out.size))
  clear hb3 hb4 hb5 hj HGI HLE
  go_wp2
  go_loopw [37] (fun iv wr=>∃ (i:Nat),i≤yn∧iv=.int .i64 i∧Below w.heap.size w wr) (fun iv _=>yn-(intOf iv).toNat)
  case atStart=>exact⟨0,Nat.zero_le _,rfl,HB5.out⟩
  case round=>
    obtain⟨i,hi,rfl,hb⟩:=hrel
    by_cases hlt:i<yn
    · have hii:(i:Int)<(yn:Int):=by omega
      have hi0:(0:Int)≤(i:Int):=by omega
      have HBr:=Lib.hid hb
      obtain⟨X,hX⟩:=HP.out.r.get hlt
      have HXO:=Lib.hid (show Gr.rnRec.ok X from HP.out.r.okay hX)
      have HXM:=Lib.hid (List.mem_of_getElem? hX)
      obtain⟨ad,had,_⟩:=HP.out.r.2.2.2 i X hX
      obtain rfl:=Option.some.inj had
      have hl:=rn_lall (HP.out.below hb).r hX
      have HGD:=Lib.hid (HP.out.good HBW.out X HXM.out)
      have HON:=Lib.hid (Gr.one_there HND.out hX HGD.out.2.2)
      clear hX had hb
      go_upto_region 7 with(first
        | (refine wpList_store_mid rfl 50 (.tmp 7) (.tmp 40) rfl wr.heap.size 0 (Gr.rnCells X).toArray rfl rfl (Gr.rnRec.there wr 50 (by kernel_rfl) HXO.out) (Gr.rnRec.size_eq Gr.size_rn HXO.out) (Gr.rnRec.all_one X) ?_)
        | (refine wpList_load_run rfl 50 (.tmp 39) rfl _ _ rfl hl ?_))
      obtain⟨w1,hw1⟩:∃ u,u=(wr.alloc (.cells Gr.zRn 50)).setCells wr.heap.size 0 (Gr.rnCells X):=⟨_,rfl⟩
      obtain⟨hN1,hb1⟩:=Rec.new (R:=Gr.rnRec) (t:=X) (by kernel_rfl) HXO.out hw1
      rw[← hw1]
      obtain⟨gn,hgn⟩:∃ u,u=wr.heap.size:=⟨_,rfl⟩
      rw[← hgn] at hN1 ⊢
      have HN:=Lib.hid hN1
      have HB1:=Lib.hid (HBr.out.trans (hb1.mono HBr.out.size))
      obtain⟨D,hD⟩:∃ d,d=X.id:=⟨_,rfl⟩
      have HDL:=Lib.hid (show D.length=32 from hD▸HXO.out)
      have HDX:=Lib.hid hD
      have HLI:=Lib.hid (show ∀ w',Below w1.heap.size w1 w'→(Instr.loadAt 46 (.pointer (some ⟨gn,3,none⟩))).run Tryz.prog w'=.ok (.agg (blist D).toArray) w' from fun w' hb=>by
        rw[hD]
        exact Gr.load_mid (HN.out.under hb HN.out.lt) 3 (blist X.id) (fun j v hj=>by
          rw[List.getElem?_toArray]
          have:=Gr.rn_id (x:=X) j v hj
          rwa [show 2+1+j=3+j from by omega] at this) Tryz.underlying46 rfl (by rw[blist_length,show X.id.length=32 from HXO.out];kernel_rfl))
      have HLT:=Lib.hid (show ∀ w',Below w1.heap.size w1 w'→(Instr.loadAt 34 (.pointer (some ⟨gn,0,none⟩))).run Tryz.prog w'=.ok (txv X.v.a X.v.n X.v.q X.v.b X.v.m X.v.r X.v.t.firm) w' from fun w' hb=>Gr.rn_tx_at (HN.out.under hb HN.out.lt))
      have HGE:=Lib.hid (show Calls Tryz.prog 15 #[.pointer (some ⟨g,0,none⟩),.agg (blist D).toArray] w1 fun e w'=>∃ (xa:Option Addr) (xn xq:Nat) (xb:Option Addr) (xm xr:Nat),e=.returned (.tuple #[txv xa xn xq xb xm xr X.v.t.firm,.bool true])∧TxAt w' xa xn xq xb xm xr X.v.t∧Below w1.heap.size w1 w' from by
        obtain⟨x,hf,_,_,hg⟩:=HP.out.found HXM.out
        have h9:=gGet_any (HP.out.below HB1.out).ga D HDL.out
        unfold Gr.GetPost at h9
        rw[hD,hg,hf] at h9
        rw[hD]
        exact h9)
      obtain⟨F,hF⟩:∃ f,f=X.fee:=⟨_,rfl⟩
      obtain⟨V,hV⟩:∃ v,v=Tx.weight X.v.t:=⟨_,rfl⟩
      have HRA:=Lib.hid (show ∀ w',Below w.heap.size w w'→Calls Tryz.prog 13 #[.pointer (some ⟨g,0,none⟩),.slice (some ⟨w'.heap.size,0,none⟩) 1 1] (w'.alloc (.cells (blist D).toArray 46)) fun e w2=>e=.returned (.tuple #[.agg #[.int .i64 F,.int .i64 V],.nilIface])∧Below w'.heap.size w' w2 from fun w' hb=>by
        have ha:Below w'.heap.size w' (w'.alloc (.cells (blist D).toArray 46)):=(Below.refl _ _).alloc (Nat.le_refl _) _
        have h9:=gRate_any (HP.out.below (hb.trans (ha.mono hb.size))).ga HP.out.ok (some ⟨w'.heap.size,0,none⟩) 1 1 [D] (Gr.hs_fresh HDL.out) (by omega)
        rw[HP.out.sim.rate HP.out.ok [D],hD,HON.out,← hF,← hV,← hD] at h9
        exact h9.mono fun e w2 h=>⟨h.1,ha.trans (h.2.mono ha.size)⟩)
      have HRB:=Lib.hid (show ∀ w',Below w.heap.size w w'→Calls Tryz.prog 14 #[.slice (some y) yn yq,.slice (some ⟨w'.heap.size,0,none⟩) 1 1] (w'.alloc (.cells (blist D).toArray 46)) fun e w2=>e=.returned (.tuple #[.agg #[.int .i64 F,.int .i64 V],.int .i64 0])∧Below w'.heap.size w' w2 from fun w' hb=>by
        have ha:Below w'.heap.size w' (w'.alloc (.cells (blist D).toArray 46)):=(Below.refl _ _).alloc (Nat.le_refl _) _
        have hbb:=hb.trans (ha.mono hb.size)
        have h9:=rrate14_any (some y) yn yq L (some ⟨w'.heap.size,0,none⟩) 1 1 [D] (w'.alloc (.cells (blist D).toArray 46)) (HP.out.below hbb).r (Gr.hs_fresh HDL.out) ((HP.out.below hbb).good (HBW.out.trans (hbb.mono HBW.out.size))) HYN.out
        rw[hD,HON.out,← hF,← hV,← hD] at h9
        exact h9.mono fun e w2 h=>⟨h.1,ha.trans (h.2.mono ha.size)⟩)
      have lD1:=HLI.out w1 (Below.refl _ _)
      clear hw1 hb1 hgn hN1 hl hF hV hD
      go_upto_region 8 with(first
        | (go_at_call 15;refine HGE.out.mono ?_;rintro e w2 ⟨xa,xn,xq,xb,xm,xr,rfl,hx2,hb2⟩)
        | (refine wpList_load_run rfl 46 (.tmp 43) rfl _ _ rfl lD1 ?_))
      obtain⟨w3,hw3⟩:∃ u,u=w2.alloc (.cells #[.slice xa xn xq,.slice xb xm xr,.bool X.v.t.firm] 34):=⟨_,rfl⟩
      have hb3:Below w2.heap.size w2 w3:=by rw[hw3];exact(Below.refl _ _).alloc (Nat.le_refl _) _
      have hG3:Has w3 w2.heap.size 34 #[.slice xa xn xq,.slice xb xm xr,.bool X.v.t.firm]:=by rw[hw3];exact Has.fresh _ _ _
      rw[← hw3]
      obtain⟨gx,hgx⟩:∃ u,u=w2.heap.size:=⟨_,rfl⟩
      rw[← hgx] at hG3 ⊢
      have HG3:=Lib.hid hG3
      have HXT:=Lib.hid (hx2.below hb3)
      have H13:=Lib.hid (hb2.trans (hb3.mono hb2.size))
      have HB3:=Lib.hid (HB1.out.trans (H13.out.mono HB1.out.size))
      have lD3:=HLI.out w3 H13.out
      clear hw3 hb2 hb3 hgx hG3 hx2 lD1 HGE
      go_upto_region 9 with(first
        | (go_at_call 13;refine(HRA.out w3 HB3.out).mono ?_;rintro e w4 ⟨rfl,hb4⟩)
        | (refine wpList_build_row rfl (.tmp 51) 30 rfl 46 Tryz.underlying30 Gr.info_hs (by decide) (by decide) (blist D).toArray (by rw[List.size_toArray,blist_length,HDL.out];rfl) rfl ?_)
        | (refine wpList_load_run rfl 46 (.tmp 50) rfl _ _ rfl lD3 ?_))
      obtain⟨w5,hw5⟩:∃ u,u=w4.alloc (.cells #[.int .i64 F,.int .i64 V] 37):=⟨_,rfl⟩
      have hb5':Below w4.heap.size w4 w5:=by rw[hw5];exact(Below.refl _ _).alloc (Nat.le_refl _) _
      have hG5:Has w5 w4.heap.size 37 #[.int .i64 F,.int .i64 V]:=by rw[hw5];exact Has.fresh _ _ _
      rw[← hw5]
      obtain⟨gp,hgp⟩:∃ u,u=w4.heap.size:=⟨_,rfl⟩
      rw[← hgp] at hG5 ⊢
      have HG5:=Lib.hid hG5
      have H35:=Lib.hid (hb4.trans (hb5'.mono hb4.size))
      have H15:=Lib.hid (H13.out.trans (H35.out.mono H13.out.size))
      have HB5':=Lib.hid (HB3.out.trans (H35.out.mono HB3.out.size))
      have lD5:=HLI.out w5 H15.out
      clear hw5 hb4 hb5' hgp hG5 lD3 HRA
      go_upto_region 10 with(first
        | (go_at_call 14;refine(HRB.out w5 HB5'.out).mono ?_;rintro e w6 ⟨rfl,hb6⟩)
        | (refine wpList_build_row rfl (.tmp 59) 30 rfl 46 Tryz.underlying30 Gr.info_hs (by decide) (by decide) (blist D).toArray (by rw[List.size_toArray,blist_length,HDL.out];rfl) rfl ?_)
        | (refine wpList_load_run rfl 46 (.tmp 58) rfl _ _ rfl lD5 ?_))
      obtain⟨w7,hw7⟩:∃ u,u=w6.alloc (.cells #[.int .i64 F,.int .i64 V] 42):=⟨_,rfl⟩
      have hb7:Below w6.heap.size w6 w7:=by rw[hw7];exact(Below.refl _ _).alloc (Nat.le_refl _) _
      have hG7:Has w7 w6.heap.size 42 #[.int .i64 F,.int .i64 V]:=by rw[hw7];exact Has.fresh _ _ _
      rw[← hw7]
      obtain⟨gq,hgq⟩:∃ u,u=w6.heap.size:=⟨_,rfl⟩
      rw[← hgq] at hG7 ⊢
      have HG7:=Lib.hid hG7
      have H57:=Lib.hid (hb6.trans (hb7.mono hb6.size))
      have H17:=Lib.hid (H15.out.trans (H57.out.mono H15.out.size))
      have HB7:=Lib.hid (HB5'.out.trans (H57.out.mono HB5'.out.size))
      have H37:=Lib.hid (H35.out.trans (H57.out.mono H35.out.size))
      have lD7:=HLI.out w7 H17.out
      have HHA:=Lib.hid (show Calls Tryz.prog 38 #[.pointer (some ⟨g,0,none⟩),.agg (blist D).toArray] w7 fun e w'=>e=.returned (.bool true)∧Below w7.heap.size w7 w' from by
        obtain⟨x,hf,_,_,_⟩:=HP.out.found HXM.out
        have h9:=ghas_any (HP.out.below HB7.out).ga.has (HP.out.below HB7.out).ga.grp.map D HDL.out
        have h2:(Mp.look (Gr.ents M) D).isSome=true:=by rw[Gr.look_ents,HDX.out,hf];rfl
        rwa [h2] at h9)
      have HEQ:=Lib.hid (show ∀ w',Below w7.heap.size w7 w'→Calls Tryz.prog 17 #[txv xa xn xq xb xm xr X.v.t.firm,txv X.v.a X.v.n X.v.q X.v.b X.v.m X.v.r X.v.t.firm] w' fun e w2=>e=.returned (.bool true)∧Below w'.heap.size w' w2 from fun w' hb=>by
        have hbw:=HB7.out.trans (hb.mono HB7.out.size)
        have:=txeq_any xa xn xq xb xm xr X.v.t X.v.a X.v.n X.v.q X.v.b X.v.m X.v.r X.v.t w' ((HXT.out.below H37.out).below hb) (TxAt.below (HP.out.va X HXM.out) (HBW.out.trans (hbw.mono HBW.out.size)))
        rwa [decide_eq_true (rfl:X.v.t=X.v.t)] at this)
      have HLG:=Lib.hid (show ∀ w',Below w7.heap.size w7 w'→(Instr.loadAt 34 (.pointer (some ⟨gx,0,none⟩))).run Tryz.prog w'=.ok (txv xa xn xq xb xm xr X.v.t.firm) w' from fun w' hb=>((HG3.out.under H37.out HG3.out.lt).under hb (HG3.out.under H37.out HG3.out.lt).lt).load_agg (P:=Tryz.prog) (t:=34) Tryz.underlying34 rfl (by kernel_rfl))
      have HLP:=Lib.hid (show ∀ w',Below w7.heap.size w7 w'→(Instr.loadAt 37 (.pointer (some ⟨gp,0,none⟩))).run Tryz.prog w'=.ok (.agg #[.int .i64 F,.int .i64 V]) w' from fun w' hb=>((HG5.out.under H57.out HG5.out.lt).under hb (HG5.out.under H57.out HG5.out.lt).lt).load_agg (P:=Tryz.prog) (t:=37) Tryz.underlying37 rfl (by kernel_rfl))
      have HLQ:=Lib.hid (show ∀ w',Below w7.heap.size w7 w'→(Instr.loadAt 42 (.pointer (some ⟨gq,0,none⟩))).run Tryz.prog w'=.ok (.agg #[.int .i64 F,.int .i64 V]) w' from fun w' hb=>(HG7.out.under hb HG7.out.lt).load_agg (P:=Tryz.prog) (t:=42) Tryz.underlying42 rfl (by kernel_rfl))
      clear hw7 hb6 hb7 hgq hG7 lD5 HRB
      go_upto_region 12 with(first
        | (refine Gr.wpList_load_run_if (by rfl) 42 (.tmp 12) rfl _ _ rfl (HLQ.out w9 H79.out) ?_)
        | (refine Gr.wpList_load_run_if (by rfl) 37 (.tmp 10) rfl _ _ rfl (HLP.out w9 H79.out) ?_)
        | (go_at_call 17;refine(HEQ.out w8 hb8).mono ?_;rintro e w9 ⟨rfl,hb9⟩;have H79:=Lib.hid (hb8.trans (hb9.mono hb8.size)))
        | (refine Gr.wpList_load_run_if (by rfl) 34 (.tmp 75) rfl _ _ rfl (HLT.out w8 (H17.out.trans (hb8.mono H17.out.size))) ?_)
        | (refine Gr.wpList_load_run_if (by rfl) 34 (.tmp 8) rfl _ _ rfl (HLG.out w8 hb8) ?_)
        | (go_at_call 38;refine HHA.out.mono ?_;rintro e w8 ⟨rfl,hb8⟩)
        | (refine Gr.wpList_load_run_if (by rfl) 46 (.tmp 68) rfl _ _ rfl lD7 ?_))
      obtain⟨ws,hws⟩:∃ u,u=w9.drew:=⟨_,rfl⟩
      have H7s:=Lib.hid (show Below w7.heap.size w7 ws from by rw[hws];exact H79.out.drew)
      have H1s:=Lib.hid (H17.out.trans (H7s.out.mono H17.out.size))
      have HBs:=Lib.hid (HB7.out.trans (H7s.out.mono HB7.out.size))
      have lI:=fun(wq:World) (hSw:Held ws wq)=>HLI.out wq (H1s.out.trans (hSw.below.mono H1s.out.size))
      obtain⟨PI,hPI⟩:∃ l,l=Gr.rnear true L D:=⟨_,rfl⟩
      obtain⟨CI,hCI⟩:∃ l,l=Gr.rnear false L D:=⟨_,rfl⟩
      obtain⟨AI,hAI,KA,hKA⟩:=Gr.rall_ex true L [D]
      obtain⟨DI,hDI,KD,hKD⟩:=Gr.rall_ex false L [D]
      have HCA:=Lib.hid (show(∀ w',Below ws.heap.size ws w'→Calls Tryz.prog 19 #[.pointer (some ⟨g,0,none⟩),.agg (blist D).toArray] w' fun e w2=>∃ v,e=.returned v∧Gr.IdsV v PI w2∧Below w'.heap.size w' w2)∧(∀ w',Below ws.heap.size ws w'→Calls Tryz.prog 21 #[.pointer (some ⟨g,0,none⟩),.agg (blist D).toArray] w' fun e w2=>∃ v,e=.returned v∧Gr.IdsV v CI w2∧Below w'.heap.size w' w2) from⟨fun w' hb=>by
          refine(gParents_any (HP.out.below (HBs.out.trans (hb.mono HBs.out.size))).ga D HDL.out).mono ?_
          rintro e w2 ⟨v,G,rfl,ho,hw,hz,hb2⟩
          rw[HP.out.sim.nearL HP.out.ga hw hz,← hPI] at ho
          exact⟨v,rfl,Gr.IdsV.of ho,hb2⟩,fun w' hb=>by
          refine(gChildren_any (HP.out.below (HBs.out.trans (hb.mono HBs.out.size))).ga D HDL.out).mono ?_
          rintro e w2 ⟨v,G,rfl,ho,hw,hz,hb2⟩
          rw[HP.out.sim.nearL HP.out.ga hw hz,← hCI] at ho
          exact⟨v,rfl,Gr.IdsV.of ho,hb2⟩⟩)
      have HCB:=Lib.hid (show(∀ w',Below ws.heap.size ws w'→Calls Tryz.prog 20 #[.slice (some y) yn yq,.agg (blist D).toArray] w' fun e w2=>∃ v,e=.returned v∧Gr.IdsV v PI w2∧Below w'.heap.size w' w2)∧(∀ w',Below ws.heap.size ws w'→Calls Tryz.prog 22 #[.slice (some y) yn yq,.agg (blist D).toArray] w' fun e w2=>∃ v,e=.returned v∧Gr.IdsV v CI w2∧Below w'.heap.size w' w2) from⟨fun w' hb=>by
          have hbw:=HBs.out.trans (hb.mono HBs.out.size)
          refine(rparents14_any (some y) yn yq L D HDL.out w' (HP.out.below hbw).r ((HP.out.below hbw).vb (HBW.out.trans (hbw.mono HBW.out.size))) (by have:=HYN.out;omega) HND.out).mono ?_
          rintro e w2 ⟨v,rfl,ho,hb2⟩
          rw[← hPI] at ho
          exact⟨v,rfl,Gr.IdsV.of ho,hb2⟩,fun w' hb=>by
          have hbw:=HBs.out.trans (hb.mono HBs.out.size)
          refine(rchildren14_any (some y) yn yq L D HDL.out w' (HP.out.below hbw).r ((HP.out.below hbw).vb (HBW.out.trans (hbw.mono HBW.out.size))) (by have:=HYN.out;omega) HND.out).mono ?_
          rintro e w2 ⟨v,rfl,ho,hb2⟩
          rw[← hCI] at ho
          exact⟨v,rfl,Gr.IdsV.of ho,hb2⟩⟩)
      have HFA:=Lib.hid (show(∀ w' (pa:Option Addr) (pn pq:Nat),Below ws.heap.size ws w'→Recs Gr.hsRec w' pa pn [D]→Calls Tryz.prog 26 #[.pointer (some ⟨g,0,none⟩),.slice pa pn pq] w' fun e w2=>∃ v,e=.returned v∧Gr.IdsV v AI w2∧Below w'.heap.size w' w2)∧(∀ w' (pa:Option Addr) (pn pq:Nat),Below ws.heap.size ws w'→Recs Gr.hsRec w' pa pn [D]→Calls Tryz.prog 28 #[.pointer (some ⟨g,0,none⟩),.slice pa pn pq] w' fun e w2=>∃ v,e=.returned v∧Gr.IdsV v DI w2∧Below w'.heap.size w' w2) from⟨fun w' pa pn pq hb hr=>by
          refine(gAncestors_any (HP.out.below (HBs.out.trans (hb.mono HBs.out.size))).ga pa pn pq [D] hr (by have:=hr.1;simp at this;omega)).mono ?_
          rintro e w2 ⟨v,G,rfl,ho,hw,hz,hb2⟩
          rw[HP.out.sim.reached HP.out.ga hw hz hKA,hAI KA hKA] at ho
          exact⟨v,rfl,Gr.IdsV.of ho,hb2⟩,fun w' pa pn pq hb hr=>by
          refine(gDescendants_any (HP.out.below (HBs.out.trans (hb.mono HBs.out.size))).ga pa pn pq [D] hr (by have:=hr.1;simp at this;omega)).mono ?_
          rintro e w2 ⟨v,G,rfl,ho,hw,hz,hb2⟩
          rw[HP.out.sim.reached HP.out.ga hw hz hKD,hDI KD hKD] at ho
          exact⟨v,rfl,Gr.IdsV.of ho,hb2⟩⟩)
      have HFB:=Lib.hid (show(∀ w' (pa:Option Addr) (pn pq:Nat),Below ws.heap.size ws w'→Recs Gr.hsRec w' pa pn [D]→Calls Tryz.prog 27 #[.slice (some y) yn yq,.slice pa pn pq] w' fun e w2=>∃ v,e=.returned v∧Gr.IdsV v AI w2∧Below w'.heap.size w' w2)∧(∀ w' (pa:Option Addr) (pn pq:Nat),Below ws.heap.size ws w'→Recs Gr.hsRec w' pa pn [D]→Calls Tryz.prog 29 #[.slice (some y) yn yq,.slice pa pn pq] w' fun e w2=>∃ v,e=.returned v∧Gr.IdsV v DI w2∧Below w'.heap.size w' w2) from⟨fun w' pa pn pq hb hr=>by
          have hbw:=HBs.out.trans (hb.mono HBs.out.size)
          refine(ranc14_any (some y) yn yq L pa pn pq [D] w' (HP.out.below hbw).r hr ((HP.out.below hbw).vb (HBW.out.trans (hbw.mono HBW.out.size))) (by have:=HYN.out;omega) HND.out).mono ?_
          rintro e w2 ⟨v,K,rfl,ho,hk,hb2⟩
          rw[hAI K hk] at ho
          exact⟨v,rfl,Gr.IdsV.of ho,hb2⟩,fun w' pa pn pq hb hr=>by
          have hbw:=HBs.out.trans (hb.mono HBs.out.size)
          refine(rdesc14_any (some y) yn yq L pa pn pq [D] w' (HP.out.below hbw).r hr ((HP.out.below hbw).vb (HBW.out.trans (hbw.mono HBW.out.size))) (by have:=HYN.out;omega) HND.out).mono ?_
          rintro e w2 ⟨v,K,rfl,ho,hk,hb2⟩
          rw[hDI K hk] at ho
          exact⟨v,rfl,Gr.IdsV.of ho,hb2⟩⟩)
      clear hPI hCI hAI hDI hKA hKD KA KD hb8 hb9
      refine wp_region_held_drew (S:=Held ws) (by kernel_rfl) (by rw[hws];exact Held.refl _) (fun hHeld=>?_)
      rw[← hws] at hHeld ⊢
      clear hws
      refine tka (v:=?_) 0 89 rfl rfl hHeld (Or.inl ⟨by rfl,?_⟩) rfl ?_
      rotate_left
      · intro wq hSw
        go_simp
        try with_reducible rfl
      simp only[ts0,ts1]
      refine tka (v:=?_) 1 90 rfl rfl hHeld (Or.inl ⟨by rfl,?_⟩) rfl ?_
      rotate_left
      · intro wq hSw
        go_simp
        try with_reducible rfl
      simp only[ts0,ts1]
      refine tka 2 91 rfl rfl hHeld (yieldsIf_load_agg (by rfl) 46 (.tmp 90) rfl _ _ (by rfl) (fun wq hSw=>lI wq hSw)) rfl ?_
      simp only[ts0,ts1]
      refine tka (v:=?_) 4 93 rfl rfl hHeld (Or.inl ⟨by rfl,?_⟩) rfl ?_
      rotate_left
      · intro wq hSw
        go_simp
        try with_reducible rfl
      simp only[ts0,ts1]
      refine tka (v:=?_) 5 94 rfl rfl hHeld (Or.inl ⟨by rfl,?_⟩) rfl ?_
      rotate_left
      · intro wq hSw
        go_simp
        try with_reducible rfl
      simp only[ts0,ts1]
      refine tka 6 95 rfl rfl hHeld (yieldsIf_load_agg (by rfl) 46 (.tmp 94) rfl _ _ (by rfl) (fun wq hSw=>lI wq hSw)) rfl ?_
      simp only[ts0,ts1]
      refine wpAnyH_ready (rs:=[3]) (by kernel_rfl) (by simp) ?_
      refine AllReadyH.cons rfl (fun K hK=>?_) AllReadyH.nil
      go_simp
      go_at_call 19
      refine(HCA.out.1 _ hHeld.below).mono ?_
      rintro e k1m ⟨_,rfl,⟨ua,un,uq,rfl,hu⟩,hk1m⟩
      refine hK.out _ _ (hHeld.trans (Held.of hk1m)) (fun _=>?_)
      clear hK K
      try simp only[Act.put,List.setIfInBounds_toArray,ts0,ts1]
      replace hHeld:=hHeld.trans (Held.of hk1m)
      refine wpAnyH_ready (rs:=[7]) (by kernel_rfl) (by simp) ?_
      refine AllReadyH.cons rfl (fun K hK=>?_) AllReadyH.nil
      go_simp
      go_at_call 20
      refine(HCB.out.1 _ hHeld.below).mono ?_
      rintro e k1 ⟨_,rfl,⟨va,vn,vq,rfl,hv⟩,hk1⟩
      refine hK.out _ _ (hHeld.trans (Held.of hk1)) (fun _=>?_)
      clear hK K
      try simp only[Act.put,List.setIfInBounds_toArray,ts0,ts1]
      replace hHeld:=hHeld.trans (Held.of hk1)
      replace hu:=hu.below hk1
      clear hk1m
      refine wpAnyH_ready (rs:=[8]) (by kernel_rfl) (by simp) ?_
      refine AllReadyH.cons rfl (fun K hK=>?_) AllReadyH.nil
      go_simp
      go_at_call 18
      refine(Gr.hashes_same ua un uq va vn vq _ k1 hu hv).mono ?_
      rintro e k2 ⟨rfl,hk2⟩
      refine hK.out _ _ (hHeld.trans (Held.of hk2)) (fun _=>?_)
      clear hK K
      try simp only[Act.put,List.setIfInBounds_toArray,ts0,ts1]
      replace hHeld:=hHeld.trans (Held.of hk2)
      clear hu hv
      refine tka (v:=?_) 9 98 rfl rfl hHeld (Or.inl ⟨by rfl,?_⟩) rfl ?_
      rotate_left
      · intro wq hSw
        go_simp
        try with_reducible rfl
      simp only[ts0,ts1]
      refine tka (v:=?_) 10 99 rfl rfl hHeld (Or.inl ⟨by rfl,?_⟩) rfl ?_
      rotate_left
      · intro wq hSw
        go_simp
        try with_reducible rfl
      simp only[ts0,ts1]
      refine tka (v:=?_) 11 100 rfl rfl hHeld (Or.inl ⟨by rfl,?_⟩) rfl ?_
      rotate_left
      · intro wq hSw
        go_simp
        try with_reducible rfl
      simp only[ts0,ts1]
      refine tka (v:=?_) 12 101 rfl rfl hHeld (Or.inl ⟨by rfl,?_⟩) rfl ?_
      rotate_left
      · intro wq hSw
        go_simp
        try with_reducible rfl
      simp only[ts0,ts1]
      refine tka 13 102 rfl rfl hHeld (yieldsIf_load_agg (by rfl) 46 (.tmp 101) rfl _ _ (by rfl) (fun wq hSw=>lI wq hSw)) rfl ?_
      simp only[ts0,ts1]
      refine tka (v:=?_) 15 104 rfl rfl hHeld (Or.inl ⟨by rfl,?_⟩) rfl ?_
      rotate_left
      · intro wq hSw
        go_simp
        try with_reducible rfl
      simp only[ts0,ts1]
      refine tka (v:=?_) 16 105 rfl rfl hHeld (Or.inl ⟨by rfl,?_⟩) rfl ?_
      rotate_left
      · intro wq hSw
        go_simp
        try with_reducible rfl
      simp only[ts0,ts1]
      refine tka 17 106 rfl rfl hHeld (yieldsIf_load_agg (by rfl) 46 (.tmp 105) rfl _ _ (by rfl) (fun wq hSw=>lI wq hSw)) rfl ?_
      simp only[ts0,ts1]
      refine wpAnyH_ready (rs:=[14]) (by kernel_rfl) (by simp) ?_
      refine AllReadyH.cons rfl (fun K hK=>?_) AllReadyH.nil
      go_simp
      go_at_call 21
      refine(HCA.out.2 _ hHeld.below).mono ?_
      rintro e k3m ⟨_,rfl,⟨ua,un,uq,rfl,hu⟩,hk3m⟩
      refine hK.out _ _ (hHeld.trans (Held.of hk3m)) (fun _=>?_)
      clear hK K
      try simp only[Act.put,List.setIfInBounds_toArray,ts0,ts1]
      replace hHeld:=hHeld.trans (Held.of hk3m)
      refine wpAnyH_ready (rs:=[18]) (by kernel_rfl) (by simp) ?_
      refine AllReadyH.cons rfl (fun K hK=>?_) AllReadyH.nil
      go_simp
      go_at_call 22
      refine(HCB.out.2 _ hHeld.below).mono ?_
      rintro e k3 ⟨_,rfl,⟨va,vn,vq,rfl,hv⟩,hk3⟩
      refine hK.out _ _ (hHeld.trans (Held.of hk3)) (fun _=>?_)
      clear hK K
      try simp only[Act.put,List.setIfInBounds_toArray,ts0,ts1]
      replace hHeld:=hHeld.trans (Held.of hk3)
      replace hu:=hu.below hk3
      clear hk3m
      refine wpAnyH_ready (rs:=[19]) (by kernel_rfl) (by simp) ?_
      refine AllReadyH.cons rfl (fun K hK=>?_) AllReadyH.nil
      go_simp
      go_at_call 18
      refine(Gr.hashes_same ua un uq va vn vq _ k3 hu hv).mono ?_
      rintro e k4 ⟨rfl,hk4⟩
      refine hK.out _ _ (hHeld.trans (Held.of hk4)) (fun _=>?_)
      clear hK K
      try simp only[Act.put,List.setIfInBounds_toArray,ts0,ts1]
      replace hHeld:=hHeld.trans (Held.of hk4)
      clear hu hv
      refine tka (v:=?_) 20 109 rfl rfl hHeld (Or.inl ⟨by rfl,?_⟩) rfl ?_
      rotate_left
      · intro wq hSw
        go_simp
        try with_reducible rfl
      simp only[ts0,ts1]
      refine tka (v:=?_) 21 110 rfl rfl hHeld (Or.inl ⟨by rfl,?_⟩) rfl ?_
      rotate_left
      · intro wq hSw
        go_simp
        try with_reducible rfl
      simp only[ts0,ts1]
      refine tka (v:=?_) 22 111 rfl rfl hHeld (Or.inl ⟨by rfl,?_⟩) rfl ?_
      rotate_left
      · intro wq hSw
        go_simp
        try with_reducible rfl
      simp only[ts0,ts1]
      refine tka (v:=?_) 23 112 rfl rfl hHeld (Or.inl ⟨by rfl,?_⟩) rfl ?_
      rotate_left
      · intro wq hSw
        go_simp
        try with_reducible rfl
      simp only[ts0,ts1]
      refine tka (v:=?_) 24 113 rfl rfl hHeld (Or.inl ⟨by rfl,?_⟩) rfl ?_
      rotate_left
      · intro wq hSw
        go_simp
        try with_reducible rfl
      simp only[ts0,ts1]
      refine tka 25 114 rfl rfl hHeld (yieldsIf_load_agg (by rfl) 46 (.tmp 113) rfl _ _ (by rfl) (fun wq hSw=>lI wq hSw)) rfl ?_
      simp only[ts0,ts1]
      refine tka (v:=?_) 28 117 rfl rfl hHeld (Or.inl ⟨by rfl,?_⟩) rfl ?_
      rotate_left
      · intro wq hSw
        go_simp
        try with_reducible rfl
      simp only[ts0,ts1]
      refine tka (v:=?_) 29 118 rfl rfl hHeld (Or.inl ⟨by rfl,?_⟩) rfl ?_
      rotate_left
      · intro wq hSw
        go_simp
        try with_reducible rfl
      simp only[ts0,ts1]
      refine tka 30 119 rfl rfl hHeld (yieldsIf_load_agg (by rfl) 46 (.tmp 118) rfl _ _ (by rfl) (fun wq hSw=>lI wq hSw)) rfl ?_
      simp only[ts0,ts1]
      refine Gr.wpAnyH_three 26 31 27 115 120 116 rfl rfl rfl rfl rfl rfl (by decide) (by decide) (by decide) (by decide) (by kernel_rfl) (by kernel_rfl) (by kernel_rfl) (by kernel_rfl) (by kernel_rfl) (fun v w=>Gr.IdsV v [D] w) (fun v w=>Gr.IdsV v [D] w) (fun v w=>Gr.IdsV v AI w) Gr.IdsV.keep Gr.IdsV.keep Gr.IdsV.keep (fun w' hb'=>hHeld.trans (Held.of hb')) (by
        intro K hK
        refine Gr.step_build_row (by rfl) (.tmp 114) 30 rfl 46 Tryz.underlying30 Gr.info_hs (by decide) (by decide) (blist D).toArray (by rw[List.size_toArray,blist_length,HDL.out];rfl) (by rfl) ?_
        exact hK _ _ ⟨_,1,1,rfl,Gr.hs_fresh HDL.out⟩ ((Below.refl _ _).alloc (Nat.le_refl _) _)) (by
        intro _ w' _ K hK
        refine Gr.step_build_row (by rfl) (.tmp 114) 30 rfl 46 Tryz.underlying30 Gr.info_hs (by decide) (by decide) (blist D).toArray (by rw[List.size_toArray,blist_length,HDL.out];rfl) (by rfl) ?_
        exact hK _ _ ⟨_,1,1,rfl,Gr.hs_fresh HDL.out⟩ ((Below.refl _ _).alloc (Nat.le_refl _) _)) (by
        intro K hK
        refine Gr.step_build_row (by rfl) (.tmp 119) 30 rfl 46 Tryz.underlying30 Gr.info_hs (by decide) (by decide) (blist D).toArray (by rw[List.size_toArray,blist_length,HDL.out];rfl) (by rfl) ?_
        exact hK _ _ ⟨_,1,1,rfl,Gr.hs_fresh HDL.out⟩ ((Below.refl _ _).alloc (Nat.le_refl _) _)) (by
        intro _ w' _ K hK
        refine Gr.step_build_row (by rfl) (.tmp 119) 30 rfl 46 Tryz.underlying30 Gr.info_hs (by decide) (by decide) (blist D).toArray (by rw[List.size_toArray,blist_length,HDL.out];rfl) (by rfl) ?_
        exact hK _ _ ⟨_,1,1,rfl,Gr.hs_fresh HDL.out⟩ ((Below.refl _ _).alloc (Nat.le_refl _) _)) (by
        intro _ _ w' _ K hK
        refine Gr.step_build_row (by rfl) (.tmp 119) 30 rfl 46 Tryz.underlying30 Gr.info_hs (by decide) (by decide) (blist D).toArray (by rw[List.size_toArray,blist_length,HDL.out];rfl) (by rfl) ?_
        exact hK _ _ ⟨_,1,1,rfl,Gr.hs_fresh HDL.out⟩ ((Below.refl _ _).alloc (Nat.le_refl _) _)) (by
        rintro _ w' ⟨pa,pn,pq,rfl,hp'⟩ hb' K hK
        simp only[ts0,ts1]
        go_simp
        go_at_call 26
        refine(HFA.out.1 w' pa pn pq (hHeld.below.trans (hb'.mono hHeld.below.size)) hp').mono ?_
        rintro e w2 ⟨v,rfl,h,hb⟩
        exact hK _ _ h hb) (by
        rintro _ _ w' ⟨pa,pn,pq,rfl,hp'⟩ hb' K hK
        simp only[ts0,ts1]
        go_simp
        go_at_call 26
        refine(HFA.out.1 w' pa pn pq (hHeld.below.trans (hb'.mono hHeld.below.size)) hp').mono ?_
        rintro e w2 ⟨v,rfl,h,hb⟩
        exact hK _ _ h hb) ?_
      rintro _ _ _ k5m ⟨pa,pn,pq,rfl,hp'⟩ ⟨qa,qn,qq,rfl,hq'⟩ ⟨ua,un,uq,rfl,hu⟩ hk5m
      simp only[ts0,ts1]
      replace hHeld:=hHeld.trans (Held.of hk5m)
      refine wpAnyH_ready (rs:=[32]) (by kernel_rfl) (by simp) ?_
      refine AllReadyH.cons rfl (fun K hK=>?_) AllReadyH.nil
      go_simp
      go_at_call 27
      refine(HFB.out.1 _ qa qn qq hHeld.below hq').mono ?_
      rintro e k5 ⟨_,rfl,⟨va,vn,vq,rfl,hv⟩,hk5⟩
      refine hK.out _ _ (hHeld.trans (Held.of hk5)) (fun _=>?_)
      clear hK K
      try simp only[Act.put,List.setIfInBounds_toArray,ts0,ts1]
      replace hHeld:=hHeld.trans (Held.of hk5)
      replace hu:=hu.below hk5
      clear hk5m hp' hq'
      refine wpAnyH_ready (rs:=[33]) (by kernel_rfl) (by simp) ?_
      refine AllReadyH.cons rfl (fun K hK=>?_) AllReadyH.nil
      go_simp
      go_at_call 18
      refine(Gr.hashes_same ua un uq va vn vq _ k5 hu hv).mono ?_
      rintro e k6 ⟨rfl,hk6⟩
      refine hK.out _ _ (hHeld.trans (Held.of hk6)) (fun _=>?_)
      clear hK K
      try simp only[Act.put,List.setIfInBounds_toArray,ts0,ts1]
      replace hHeld:=hHeld.trans (Held.of hk6)
      clear hu hv
      refine tka (v:=?_) 34 123 rfl rfl hHeld (Or.inl ⟨by rfl,?_⟩) rfl ?_
      rotate_left
      · intro wq hSw
        go_simp
        try with_reducible rfl
      simp only[ts0,ts1]
      refine tka (v:=?_) 35 124 rfl rfl hHeld (Or.inl ⟨by rfl,?_⟩) rfl ?_
      rotate_left
      · intro wq hSw
        go_simp
        try with_reducible rfl
      simp only[ts0,ts1]
      refine tka (v:=?_) 36 125 rfl rfl hHeld (Or.inl ⟨by rfl,?_⟩) rfl ?_
      rotate_left
      · intro wq hSw
        go_simp
        try with_reducible rfl
      simp only[ts0,ts1]
      refine tka (v:=?_) 37 126 rfl rfl hHeld (Or.inl ⟨by rfl,?_⟩) rfl ?_
      rotate_left
      · intro wq hSw
        go_simp
        try with_reducible rfl
      simp only[ts0,ts1]
      refine tka (v:=?_) 38 127 rfl rfl hHeld (Or.inl ⟨by rfl,?_⟩) rfl ?_
      rotate_left
      · intro wq hSw
        go_simp
        try with_reducible rfl
      simp only[ts0,ts1]
      refine tka 39 128 rfl rfl hHeld (yieldsIf_load_agg (by rfl) 46 (.tmp 127) rfl _ _ (by rfl) (fun wq hSw=>lI wq hSw)) rfl ?_
      simp only[ts0,ts1]
      refine tka (v:=?_) 42 131 rfl rfl hHeld (Or.inl ⟨by rfl,?_⟩) rfl ?_
      rotate_left
      · intro wq hSw
        go_simp
        try with_reducible rfl
      simp only[ts0,ts1]
      refine tka (v:=?_) 43 132 rfl rfl hHeld (Or.inl ⟨by rfl,?_⟩) rfl ?_
      rotate_left
      · intro wq hSw
        go_simp
        try with_reducible rfl
      simp only[ts0,ts1]
      refine tka 44 133 rfl rfl hHeld (yieldsIf_load_agg (by rfl) 46 (.tmp 132) rfl _ _ (by rfl) (fun wq hSw=>lI wq hSw)) rfl ?_
      simp only[ts0,ts1]
      refine Gr.wpAnyH_three 40 45 41 129 134 130 rfl rfl rfl rfl rfl rfl (by decide) (by decide) (by decide) (by decide) (by kernel_rfl) (by kernel_rfl) (by kernel_rfl) (by kernel_rfl) (by kernel_rfl) (fun v w=>Gr.IdsV v [D] w) (fun v w=>Gr.IdsV v [D] w) (fun v w=>Gr.IdsV v DI w) Gr.IdsV.keep Gr.IdsV.keep Gr.IdsV.keep (fun w' hb'=>hHeld.trans (Held.of hb')) (by
        intro K hK
        refine Gr.step_build_row (by rfl) (.tmp 128) 30 rfl 46 Tryz.underlying30 Gr.info_hs (by decide) (by decide) (blist D).toArray (by rw[List.size_toArray,blist_length,HDL.out];rfl) (by rfl) ?_
        exact hK _ _ ⟨_,1,1,rfl,Gr.hs_fresh HDL.out⟩ ((Below.refl _ _).alloc (Nat.le_refl _) _)) (by
        intro _ w' _ K hK
        refine Gr.step_build_row (by rfl) (.tmp 128) 30 rfl 46 Tryz.underlying30 Gr.info_hs (by decide) (by decide) (blist D).toArray (by rw[List.size_toArray,blist_length,HDL.out];rfl) (by rfl) ?_
        exact hK _ _ ⟨_,1,1,rfl,Gr.hs_fresh HDL.out⟩ ((Below.refl _ _).alloc (Nat.le_refl _) _)) (by
        intro K hK
        refine Gr.step_build_row (by rfl) (.tmp 133) 30 rfl 46 Tryz.underlying30 Gr.info_hs (by decide) (by decide) (blist D).toArray (by rw[List.size_toArray,blist_length,HDL.out];rfl) (by rfl) ?_
        exact hK _ _ ⟨_,1,1,rfl,Gr.hs_fresh HDL.out⟩ ((Below.refl _ _).alloc (Nat.le_refl _) _)) (by
        intro _ w' _ K hK
        refine Gr.step_build_row (by rfl) (.tmp 133) 30 rfl 46 Tryz.underlying30 Gr.info_hs (by decide) (by decide) (blist D).toArray (by rw[List.size_toArray,blist_length,HDL.out];rfl) (by rfl) ?_
        exact hK _ _ ⟨_,1,1,rfl,Gr.hs_fresh HDL.out⟩ ((Below.refl _ _).alloc (Nat.le_refl _) _)) (by
        intro _ _ w' _ K hK
        refine Gr.step_build_row (by rfl) (.tmp 133) 30 rfl 46 Tryz.underlying30 Gr.info_hs (by decide) (by decide) (blist D).toArray (by rw[List.size_toArray,blist_length,HDL.out];rfl) (by rfl) ?_
        exact hK _ _ ⟨_,1,1,rfl,Gr.hs_fresh HDL.out⟩ ((Below.refl _ _).alloc (Nat.le_refl _) _)) (by
        rintro _ w' ⟨pa,pn,pq,rfl,hp'⟩ hb' K hK
        simp only[ts0,ts1]
        go_simp
        go_at_call 28
        refine(HFA.out.2 w' pa pn pq (hHeld.below.trans (hb'.mono hHeld.below.size)) hp').mono ?_
        rintro e w2 ⟨v,rfl,h,hb⟩
        exact hK _ _ h hb) (by
        rintro _ _ w' ⟨pa,pn,pq,rfl,hp'⟩ hb' K hK
        simp only[ts0,ts1]
        go_simp
        go_at_call 28
        refine(HFA.out.2 w' pa pn pq (hHeld.below.trans (hb'.mono hHeld.below.size)) hp').mono ?_
        rintro e w2 ⟨v,rfl,h,hb⟩
        exact hK _ _ h hb) ?_
      rintro _ _ _ k7m ⟨pa,pn,pq,rfl,hp'⟩ ⟨qa,qn,qq,rfl,hq'⟩ ⟨ua,un,uq,rfl,hu⟩ hk7m
      simp only[ts0,ts1]
      replace hHeld:=hHeld.trans (Held.of hk7m)
      refine wpAnyH_ready (rs:=[46]) (by kernel_rfl) (by simp) ?_
      refine AllReadyH.cons rfl (fun K hK=>?_) AllReadyH.nil
      go_simp
      go_at_call 29
      refine(HFB.out.2 _ qa qn qq hHeld.below hq').mono ?_
      rintro e k7 ⟨_,rfl,⟨va,vn,vq,rfl,hv⟩,hk7⟩
      refine hK.out _ _ (hHeld.trans (Held.of hk7)) (fun _=>?_)
      clear hK K
      try simp only[Act.put,List.setIfInBounds_toArray,ts0,ts1]
      replace hHeld:=hHeld.trans (Held.of hk7)
      replace hu:=hu.below hk7
      clear hk7m hp' hq'
      refine wpAnyH_ready (rs:=[47]) (by kernel_rfl) (by simp) ?_
      refine AllReadyH.cons rfl (fun K hK=>?_) AllReadyH.nil
      go_simp
      go_at_call 18
      refine(Gr.hashes_same ua un uq va vn vq _ k7 hu hv).mono ?_
      rintro e k8 ⟨rfl,hk8⟩
      refine hK.out _ _ (hHeld.trans (Held.of hk8)) (fun _=>?_)
      clear hK K
      try simp only[Act.put,List.setIfInBounds_toArray,ts0,ts1]
      replace hHeld:=hHeld.trans (Held.of hk8)
      clear hu hv
      refine tka (v:=?_) 48 137 rfl rfl hHeld (Or.inl ⟨by rfl,?_⟩) rfl ?_
      rotate_left
      · intro wq hSw
        go_simp
        try with_reducible rfl
      simp only[ts0,ts1]
      refine tka (v:=?_) 49 138 rfl rfl hHeld (Or.inl ⟨by rfl,?_⟩) rfl ?_
      rotate_left
      · intro wq hSw
        go_simp
        try with_reducible rfl
      simp only[ts0,ts1]
      refine wpAnyH_done (by kernel_rfl) ?_ _
      have H1z:=Lib.hid (H1s.out.trans (hHeld.below.mono H1s.out.size))
      have HBz:=Lib.hid (HBs.out.trans (hHeld.below.mono HBs.out.size))
      have hm30:X.v.m≤30:=by rw[← HGD.out.1.co.1];exact HGD.out.2.1.2.1
      have hn30:X.v.n≤30:=by rw[← HGD.out.1.sp.1];exact HGD.out.2.1.1
      have HCE:=Lib.hid (show ∀ w',Below w1.heap.size w1 w'→w'.cell? ⟨gn,0,none⟩=some (.slice X.v.a X.v.n X.v.q)∧w'.cell? ⟨gn,1,none⟩=some (.slice X.v.b X.v.m X.v.r) from fun w' hb=>⟨(HN.out.under hb HN.out.lt).cell_at rfl,(HN.out.under hb HN.out.lt).cell_at rfl⟩)
      have c1:=(HCE.out _ H1z.out).2
      clear hHeld lI HCA HCB HFA HFB
      go_wp2
      clear c1
      go_loopw [144] (fun iv wr=>∃ (k:Nat),k≤X.v.m+1∧iv=.int .i64 k∧Below w1.heap.size w1 wr∧Below w.heap.size w wr) (fun iv _=>X.v.m+1-(intOf iv).toNat)
      case atStart=>exact⟨0,Nat.zero_le _,rfl,H1z.out,HBz.out⟩
      case round=>
        obtain⟨k,hk,rfl,h1,hb⟩:=hrel
        have HK1:=Lib.hid h1
        have HKB:=Lib.hid hb
        clear h1 hb
        by_cases hlt:k<X.v.m+1
        · have hki:(k:Int)<(X.v.m:Int)+1:=by omega
          have hk0:(0:Int)≤(k:Int):=by omega
          have lDk:=HLI.out wr HK1.out
          obtain⟨co,hco⟩:∃ c,c=X.v.t.co[k]?:=⟨_,rfl⟩
          obtain⟨C,hC⟩:∃ c,c=co.getD ⟨0,0#64⟩:=⟨_,rfl⟩
          have HCO:=Lib.hid (show Calls Tryz.prog 35 #[.pointer (some ⟨g,0,none⟩),.agg (ptCells D (k:Int)).toArray] wr fun e w'=>e=.returned (.tuple #[.agg (coCells C).toArray,.bool co.isSome])∧Below wr.heap.size wr w' from by
            have h9:=gCoin_any (HP.out.below HKB.out).ga (D,(k:Int)) ⟨HDL.out,by constructor<;>(dsimp only;omega)⟩
            have e1:Gr.coinO M (D,(k:Int))=co:=by rw[HDX.out,hco];exact HP.out.coin HXM.out k
            unfold Gr.coinV at h9
            rw[e1,← hC] at h9
            exact h9)
          have HCK:=Lib.hid (show coRec.ok C from by
            rw[hC]
            cases hq:co with
            | none=>constructor<;>decide
            | some c=>rw[hco] at hq;exact HGD.out.1.co.okay hq)
          have HCC:=Lib.hid (And.intro hco hC)
          clear hC hco
          go_upto_region 18 with(first
            | (refine wpList_store_mid rfl 74 (.tmp 15) (.tmp 154) rfl w2c.heap.size 0 (coCells C).toArray rfl rfl (coRec.there w2c 74 (by kernel_rfl) HCK.out) (coRec.size_eq size_coin HCK.out) (coRec.all_one C) ?_)
            | (go_at_call 35;refine HCO.out.mono ?_;rintro e w2c ⟨rfl,hb2⟩)
            | (refine wpList_build_pt rfl (.tmp 150) (.tmp 151) rfl D (k:Int) rfl rfl rfl HDL.out ?_)
            | (refine wpList_load_run rfl 46 (.tmp 149) rfl _ _ rfl lDk ?_))
          obtain⟨w3c,hw3⟩:∃ u,u=(w2c.alloc (.cells #[.int .i64 0,.int .u64 0] 74)).setCells w2c.heap.size 0 (coCells C):=⟨_,rfl⟩
          obtain⟨hC3,hb3⟩:=Rec.new (R:=coRec) (t:=C) (by kernel_rfl) HCK.out hw3
          rw[← hw3]
          obtain⟨gk,hgk⟩:∃ u,u=w2c.heap.size:=⟨_,rfl⟩
          rw[← hgk] at hC3 ⊢
          obtain⟨ws,hws⟩:∃ u,u=w3c.drew:=⟨_,rfl⟩
          have HC3:=Lib.hid (show Has ws gk 74 (coCells C).toArray by rw[hws];exact hC3.draw)
          have Hrs:=Lib.hid (show Below wr.heap.size wr ws from by rw[hws];exact(hb2.trans (hb3.mono hb2.size)).drew)
          have HK1s:=Lib.hid (HK1.out.trans (Hrs.out.mono HK1.out.size))
          have HKBs:=Lib.hid (HKB.out.trans (Hrs.out.mono HKB.out.size))
          have lM:=fun(wq:World) (hSw:Held ws wq)=>(HCE.out wq (HK1s.out.trans (hSw.below.mono HK1s.out.size))).2
          have lC:=fun(wq:World) (hSw:Held ws wq)=>(HC3.out.under hSw.below HC3.out.lt).load_agg (P:=Tryz.prog) (t:=74) Tryz.underlying74 rfl (coRec.size_eq size_coin HCK.out)
          clear hw3 hb2 hb3 hgk hC3 lDk HCO
          by_cases hkm:k<X.v.m
          · have hkmi:(k:Int)<(X.v.m:Int):=by omega
            obtain⟨c,hc⟩:=HGD.out.1.co.get hkm
            obtain⟨cb,hcb,_⟩:=HGD.out.1.co.2.2.2 k c hc
            have HCB2:=Lib.hid hcb
            have HCQ:=Lib.hid (show co=some c∧C=c from by rw[HCC.out.2,HCC.out.1,hc];exact⟨rfl,rfl⟩)
            have lM2:=fun(wq:World) (hSw:Held ws wq)=>(show wq.cell? ⟨gn,1,none⟩=some (.slice (some cb) X.v.m X.v.r) by rw[← HCB2.out];exact lM wq hSw)
            have lK:=fun(wq:World) (hSw:Held ws wq)=>(show(Instr.loadAt 74 (.pointer (some (cb.add (k*2))))).run Tryz.prog wq=.ok (.agg (coCells C).toArray) wq from by
              have h1:=(TxAt.below (HP.out.va X HXM.out) (HBW.out.trans ((HKBs.out.trans (hSw.below.mono HKBs.out.size)).mono HBW.out.size))).co
              rw[HCB2.out] at h1
              rw[HCQ.out.2]
              exact coins_at h1 hc)
            have hcs:co.isSome=true:=by rw[HCQ.out.1];rfl
            have HCV:(coCells C).toArray=#[.int .i64 C.v,.int .u64 (nb64 C.lock)]:=rfl
            clear lM
            refine wp_region_held_drew (S:=Held ws) (by kernel_rfl) (by rw[hws];exact Held.refl _) (fun hHeld=>?_)
            rw[← hws] at hHeld ⊢
            clear hws
            refine tka (v:=?_) 0 156 rfl rfl hHeld (Or.inl ⟨by rfl,?_⟩) rfl ?_
            rotate_left
            · intro wq hSw
              go_simp
              try with_reducible rfl
            simp only[ts0,ts1]
            refine tka (v:=?_) 1 157 rfl rfl hHeld (Or.inl ⟨by rfl,?_⟩) rfl ?_
            rotate_left
            · intro wq hSw
              go_simp
              try with_reducible rfl
            simp only[ts0,ts1]
            refine tka (v:=?_) 2 158 rfl rfl hHeld (Or.inl ⟨by rfl,?_⟩) rfl ?_
            rotate_left
            · intro wq hSw
              go_simp
              try with_reducible rfl
            simp only[ts0,ts1]
            refine tka (v:=?_) 3 159 rfl rfl hHeld (Or.inl ⟨by rfl,?_⟩) rfl ?_
            rotate_left
            · intro wq hSw
              go_simp
              try with_reducible rfl
            simp only[ts0,ts1]
            refine tka (v:=?_) 4 160 rfl rfl hHeld (Or.inl ⟨by rfl,?_⟩) rfl ?_
            rotate_left
            · intro wq hSw
              have hst:=lM2 wq hSw
              go_simp
              try with_reducible rfl
            simp only[ts0,ts1]
            refine tka (v:=?_) 5 161 rfl rfl hHeld (Or.inl ⟨by rfl,?_⟩) rfl ?_
            rotate_left
            · intro wq hSw
              go_simp
              try with_reducible rfl
            simp only[ts0,ts1]
            refine tka (v:=?_) 6 162 rfl rfl hHeld (Or.inl ⟨by rfl,?_⟩) rfl ?_
            rotate_left
            · intro wq hSw
              go_simp
              try with_reducible rfl
            simp only[ts0,ts1]
            refine tka (v:=?_) 7 163 rfl rfl hHeld (Or.inl ⟨by rfl,?_⟩) rfl ?_
            rotate_left
            · intro wq hSw
              go_simp
              try with_reducible rfl
            simp only[ts0,ts1]
            refine tka (v:=?_) 8 164 rfl rfl hHeld (Or.inl ⟨by rfl,?_⟩) rfl ?_
            rotate_left
            · intro wq hSw
              go_simp
              try with_reducible rfl
            simp only[ts0,ts1]
            refine tka (v:=?_) 9 165 rfl rfl hHeld (Or.inl ⟨by rfl,?_⟩) rfl ?_
            rotate_left
            · intro wq hSw
              go_simp
              try with_reducible rfl
            simp only[ts0,ts1]
            refine tka (v:=?_) 10 166 rfl rfl hHeld (Or.inl ⟨by rfl,?_⟩) rfl ?_
            rotate_left
            · intro wq hSw
              go_simp
              try with_reducible rfl
            simp only[ts0,ts1]
            refine tka 11 167 rfl rfl hHeld (yieldsIf_load_agg (by rfl) 74 (.tmp 15) rfl _ _ (by rfl) (fun wq hSw=>lC wq hSw)) rfl ?_
            simp only[ts0,ts1]
            refine tka (v:=?_) 12 168 rfl rfl hHeld (Or.inl ⟨by rfl,?_⟩) rfl ?_
            rotate_left
            · intro wq hSw
              go_simp
              try with_reducible rfl
            simp only[ts0,ts1]
            refine tka (v:=?_) 13 169 rfl rfl hHeld (Or.inl ⟨by rfl,?_⟩) rfl ?_
            rotate_left
            · intro wq hSw
              go_simp
              try with_reducible rfl
            simp only[ts0,ts1]
            refine tka (v:=?_) 14 170 rfl rfl hHeld (Or.inl ⟨by rfl,?_⟩) rfl ?_
            rotate_left
            · intro wq hSw
              have hst:=lM2 wq hSw
              go_simp
              try with_reducible rfl
            simp only[ts0,ts1]
            refine tka (v:=?_) 15 171 rfl rfl hHeld (Or.inl ⟨by rfl,?_⟩) rfl ?_
            rotate_left
            · intro wq hSw
              go_simp
              try with_reducible rfl
            simp only[ts0,ts1]
            refine tka (v:=?_) 16 172 rfl rfl hHeld (Or.inl ⟨by rfl,?_⟩) rfl ?_
            rotate_left
            · intro wq hSw
              go_simp
              try with_reducible rfl
            simp only[ts0,ts1]
            refine tka 17 173 rfl rfl hHeld (yieldsIf_load_agg (by rfl) 74 (.tmp 172) rfl _ _ (by rfl) (fun wq hSw=>lK wq hSw)) rfl ?_
            simp only[ts0,ts1]
            refine tka (v:=.bool false) 18 174 rfl rfl hHeld (Or.inl ⟨by rfl,?_⟩) rfl ?_
            · intro wq hSw
              simp only[HCV]
              go_simp
              try with_reducible rfl
              skip
            simp only[ts0,ts1]
            refine tka (v:=?_) 19 175 rfl rfl hHeld (Or.inl ⟨by rfl,?_⟩) rfl ?_
            rotate_left
            · intro wq hSw
              go_simp
              try with_reducible rfl
            simp only[ts0,ts1]
            refine tka (v:=?_) 20 176 rfl rfl hHeld (Or.inl ⟨by rfl,?_⟩) rfl ?_
            rotate_left
            · intro wq hSw
              go_simp
              try with_reducible rfl
            simp only[ts0,ts1]
            refine wpAnyH_done (by kernel_rfl) ?_ _
            clear hHeld lM2 lC lK hcs hc hcb
            go_wp2
            go_roundw
            case rel=>exact⟨k+1,by omega,by go_num,HK1s.out,HKBs.out⟩
            case measure=>(simp[intOf];try omega)
          · have hkmi:¬ (k:Int)<(X.v.m:Int):=by omega
            have hcs:co.isSome=false:=by
              rw[HCC.out.1,List.getElem?_eq_none (by rw[HGD.out.1.co.1];omega)]
              rfl
            refine wp_region_held_drew (S:=Held ws) (by kernel_rfl) (by rw[hws];exact Held.refl _) (fun hHeld=>?_)
            rw[← hws] at hHeld ⊢
            clear hws
            refine tka (v:=?_) 0 156 rfl rfl hHeld (Or.inl ⟨by rfl,?_⟩) rfl ?_
            rotate_left
            · intro wq hSw
              go_simp
              try with_reducible rfl
            simp only[ts0,ts1]
            refine tka (v:=?_) 1 157 rfl rfl hHeld (Or.inl ⟨by rfl,?_⟩) rfl ?_
            rotate_left
            · intro wq hSw
              go_simp
              try with_reducible rfl
            simp only[ts0,ts1]
            refine tka (v:=?_) 2 158 rfl rfl hHeld (Or.inl ⟨by rfl,?_⟩) rfl ?_
            rotate_left
            · intro wq hSw
              go_simp
              try with_reducible rfl
            simp only[ts0,ts1]
            refine tka (v:=?_) 3 159 rfl rfl hHeld (Or.inl ⟨by rfl,?_⟩) rfl ?_
            rotate_left
            · intro wq hSw
              go_simp
              try with_reducible rfl
            simp only[ts0,ts1]
            refine tka (v:=?_) 4 160 rfl rfl hHeld (Or.inl ⟨by rfl,?_⟩) rfl ?_
            rotate_left
            · intro wq hSw
              have hst:=lM wq hSw
              go_simp
              try with_reducible rfl
            simp only[ts0,ts1]
            refine tka (v:=?_) 5 161 rfl rfl hHeld (Or.inl ⟨by rfl,?_⟩) rfl ?_
            rotate_left
            · intro wq hSw
              go_simp
              try with_reducible rfl
            simp only[ts0,ts1]
            refine tka (v:=?_) 6 162 rfl rfl hHeld (Or.inl ⟨by rfl,?_⟩) rfl ?_
            rotate_left
            · intro wq hSw
              go_simp
              try with_reducible rfl
            simp only[ts0,ts1]
            refine tka (v:=?_) 7 163 rfl rfl hHeld (Or.inl ⟨by rfl,?_⟩) rfl ?_
            rotate_left
            · intro wq hSw
              go_simp
              try with_reducible rfl
            simp only[ts0,ts1]
            refine tka (v:=?_) 8 164 rfl rfl hHeld (Or.inl ⟨by rfl,?_⟩) rfl ?_
            rotate_left
            · intro wq hSw
              go_simp
              try with_reducible rfl
            simp only[ts0,ts1]
            refine tka (v:=?_) 9 165 rfl rfl hHeld (Or.inl ⟨by rfl,?_⟩) rfl ?_
            rotate_left
            · intro wq hSw
              go_simp
              try with_reducible rfl
            simp only[ts0,ts1]
            refine tka (v:=?_) 10 166 rfl rfl hHeld (Or.inl ⟨by rfl,?_⟩) rfl ?_
            rotate_left
            · intro wq hSw
              go_simp
              try with_reducible rfl
            simp only[ts0,ts1]
            refine tka (v:=undef) 11 167 rfl rfl hHeld (Or.inr ⟨by rfl,rfl⟩) rfl ?_
            simp only[ts0,ts1]
            refine tka (v:=undef) 12 168 rfl rfl hHeld (Or.inr ⟨by rfl,rfl⟩) rfl ?_
            simp only[ts0,ts1]
            refine tka (v:=undef) 13 169 rfl rfl hHeld (Or.inr ⟨by rfl,rfl⟩) rfl ?_
            simp only[ts0,ts1]
            refine tka (v:=undef) 14 170 rfl rfl hHeld (Or.inr ⟨by rfl,rfl⟩) rfl ?_
            simp only[ts0,ts1]
            refine tka (v:=undef) 15 171 rfl rfl hHeld (Or.inr ⟨by rfl,rfl⟩) rfl ?_
            simp only[ts0,ts1]
            refine tka (v:=undef) 16 172 rfl rfl hHeld (Or.inr ⟨by rfl,rfl⟩) rfl ?_
            simp only[ts0,ts1]
            refine tka (v:=undef) 17 173 rfl rfl hHeld (Or.inr ⟨by rfl,rfl⟩) rfl ?_
            simp only[ts0,ts1]
            refine tka (v:=undef) 18 174 rfl rfl hHeld (Or.inr ⟨by rfl,rfl⟩) rfl ?_
            simp only[ts0,ts1]
            refine tka (v:=?_) 19 175 rfl rfl hHeld (Or.inl ⟨by rfl,?_⟩) rfl ?_
            rotate_left
            · intro wq hSw
              go_simp
              try with_reducible rfl
            simp only[ts0,ts1]
            refine tka (v:=?_) 20 176 rfl rfl hHeld (Or.inl ⟨by rfl,?_⟩) rfl ?_
            rotate_left
            · intro wq hSw
              go_simp
              try with_reducible rfl
            simp only[ts0,ts1]
            refine wpAnyH_done (by kernel_rfl) ?_ _
            clear hHeld lM lC hcs
            go_wp2
            go_roundw
            case rel=>exact⟨k+1,by omega,by go_num,HK1s.out,HKBs.out⟩
            case measure=>(simp[intOf];try omega)
        · have hki:¬ (k:Int)<(X.v.m:Int)+1:=by omega
          obtain⟨za,hza⟩:∃ z,z=X.v.a:=⟨_,rfl⟩
          have c0:=(HCE.out _ HK1.out).1
          rw[← hza] at c0
          have HZA:=Lib.hid hza
          clear hki hza
          rename World=>wK
          go_wp2
          clear c0
          go_loopw [182] (fun iv wr=>∃ (j:Nat),j≤X.v.n∧iv=.int .i64 j∧Below w1.heap.size w1 wr∧Below w.heap.size w wr) (fun iv _=>X.v.n-(intOf iv).toNat)
          case atStart=>exact⟨0,Nat.zero_le _,rfl,HK1.out,HKB.out⟩
          case round=>
            obtain⟨j,hj,rfl,h1,hb⟩:=hrel
            have HJ1:=Lib.hid h1
            have HJB:=Lib.hid hb
            clear h1 hb
            by_cases hjl:j<X.v.n
            · have hji:(j:Int)<(X.v.n:Int):=by omega
              have hj0:(0:Int)≤(j:Int):=by omega
              obtain⟨s,hs⟩:=HGD.out.1.sp.get hjl
              have HSO:=Lib.hid (HGD.out.1.sp.okay hs)
              have HSM:=Lib.hid (List.mem_of_getElem? hs)
              have hvW:=TxAt.below (HP.out.va X HXM.out) (HBW.out.trans (HJB.out.mono HBW.out.size))
              obtain⟨ys,hays,hy⟩:=spends_load hvW.sp hs
              obtain rfl:za=some ys:=HZA.out.trans hays
              clear hays hs hvW
              go_upto_region 24 with(first
                | (refine wpList_store_mid rfl 61 (.tmp 18) (.tmp 185) rfl wr.heap.size 0 (spCells s).toArray rfl rfl (spRec.there wr 61 (by kernel_rfl) HSO.out) (spRec.size_eq size_spend HSO.out) (spRec.all_one s) ?_)
                | (refine wpList_load_run rfl 61 (.tmp 184) rfl _ _ rfl hy ?_))
              obtain⟨w1s,hw1⟩:∃ u,u=(wr.alloc (.cells zSp 61)).setCells wr.heap.size 0 (spCells s):=⟨_,rfl⟩
              obtain⟨hG,hb1⟩:=Rec.new (R:=spRec) (by kernel_rfl) HSO.out hw1
              rw[← hw1]
              obtain⟨gs,hgs⟩:∃ u,u=wr.heap.size:=⟨_,rfl⟩
              rw[← hgs] at hG ⊢
              have lP1:=hG.spPoint HSO.out.1
              have HB1s:=Lib.hid (HJB.out.trans (hb1.mono HJB.out.size))
              have HSA:=Lib.hid (show Calls Tryz.prog 23 #[.pointer (some ⟨g,0,none⟩),.agg (ptCells s.h s.n).toArray] w1s fun e w'=>e=.returned (.tuple #[.agg (blist D).toArray,.bool true])∧Below w1s.heap.size w1s w' from by
                have h9:=gSpender_any (HP.out.below HB1s.out).ga (Gr.pt s) (Gr.pt_ok HSO.out)
                rw[(HP.out.spend HXM.out HSM.out).1,(HP.out.spend HXM.out HSM.out).2,← HDX.out] at h9
                exact h9)
              have H1s2:=Lib.hid (HJ1.out.trans (hb1.mono HJ1.out.size))
              clear hw1 hb1 hgs hG hy
              go_upto_region 25 with(first
                | (refine wpList_store_mid rfl 46 (.tmp 19) (.tmp 191) rfl w2s.heap.size 0 (blist D).toArray rfl rfl (Gr.hsRec.there w2s 46 (by kernel_rfl) HDL.out) (Gr.hsRec.size_eq Gr.size_hsr HDL.out) (Gr.hsRec.all_one D) ?_)
                | (go_at_call 23;refine HSA.out.mono ?_;rintro e w2s ⟨rfl,hb2⟩)
                | (refine wpList_load_run rfl 58 (.tmp 188) rfl _ _ rfl lP1 ?_))
              obtain⟨w3s,hw3⟩:∃ u,u=(w2s.alloc (.cells z32 46)).setCells w2s.heap.size 0 (blist D):=⟨_,rfl⟩
              obtain⟨hE3,hb3⟩:=Rec.new (R:=Gr.hsRec) (by kernel_rfl) HDL.out hw3
              rw[← hw3]
              obtain⟨g3,hg3⟩:∃ u,u=w2s.heap.size:=⟨_,rfl⟩
              rw[← hg3] at hE3 ⊢
              have H3s2:=Lib.hid (H1s2.out.trans ((hb2.trans (hb3.mono hb2.size)).mono H1s2.out.size))
              have HB3s:=Lib.hid (HB1s.out.trans ((hb2.trans (hb3.mono hb2.size)).mono HB1s.out.size))
              have lE1:=hE3.load_agg (P:=Tryz.prog) (t:=46) Tryz.underlying46 rfl (size_hs HDL.out)
              have lE2:=HLI.out w3s H3s2.out
              clear hw3 hb2 hb3 hg3 hE3 lP1 HSA
              go_wp2_with (first
                | (refine Gr.wpList_neq_if (b:=false) (by rfl) 46 5 46 32 (.tmp 196) (.tmp 198) rfl D D (by rfl) (by rfl) (by kernel_rfl) Tryz.underlying46 Tryz.underlying5 (by kernel_rfl) HDL.out HDL.out (Gr.neq_self D) ?_)
                | (refine Gr.wpList_load_run_if (by rfl) 46 (.tmp 19) rfl _ _ rfl lE1 ?_)
                | (refine Gr.wpList_load_run_if (by rfl) 46 (.tmp 197) rfl _ _ rfl lE2 ?_))
              go_roundw
              case rel=>exact⟨j+1,by omega,by go_num,H3s2.out,HB3s.out⟩
              case measure=>(simp[intOf];try omega)
            · have hji:¬ (j:Int)<(X.v.n:Int):=by omega
              go_wp2
              go_roundw
              case rel=>exact⟨i+1,by omega,by go_num,HJB.out⟩
              case measure=>(simp[intOf];try omega)
    · have hii:¬ (i:Int)<(yn:Int):=by omega
      go_wp2
      go_ret
      exact⟨rfl,hb⟩
end Go.Proofs.YtijemcfnlbapjaaGreatDoor
