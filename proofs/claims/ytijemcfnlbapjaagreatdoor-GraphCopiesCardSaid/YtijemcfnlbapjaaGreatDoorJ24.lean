/- package graph: Put (mkgrl.py) · A cell of a record written, in a slice of one's own. Nothing of the program. -/
import Derived.Test.YtijemcfnlbapjaaGreatDoorJ23
import Derived.Test.YtijemcfnlbapjaaGreatDoorJ07
import Derived.Test.YtijemcfnlbapjaaGreatDoorJ03
namespace Go.Proofs.YtijemcfnlbapjaaGreatDoor
open Go Go.RowKit Go.ChangeShapes Go.WideShapes
set_option maxRecDepth 100000 in
theorem gbuilt_nd32 (d0 d1 d2 d3 d4 d5 d6 d7 d8 d9 d10 d11 d12 d13 d14 d15 d16 d17 d18 d19 d20 d21 d22 d23 d24 d25 d26 d27 d28 d29 d30 d31:BitVec 8) (v0 v1 v2:Value) (f wt p:Int):Tryz.prog.built 106 [(0,.agg #[v0,v1,v2]),(1,.agg (blist [d0,d1,d2,d3,d4,d5,d6,d7,d8,d9,d10,d11,d12,d13,d14,d15,d16,d17,d18,d19,d20,d21,d22,d23,d24,d25,d26,d27,d28,d29,d30,d31]).toArray),(2,.int .i64 f),(3,.int .i64 wt),(4,.int .i64 p)]=some ([v0,v1,v2]++(blist [d0,d1,d2,d3,d4,d5,d6,d7,d8,d9,d10,d11,d12,d13,d14,d15,d16,d17,d18,d19,d20,d21,d22,d23,d24,d25,d26,d27,d28,d29,d30,d31]++[Value.int .i64 f,Value.int .i64 wt,Value.int .i64 p])).toArray:=by kernel_rfl
theorem gbuilt_nd:∀ (D:List (BitVec 8)),D.length=32→∀ (v0 v1 v2:Value) (f wt p:Int),Tryz.prog.built 106 [(0,.agg #[v0,v1,v2]),(1,.agg (blist D).toArray),(2,.int .i64 f),(3,.int .i64 wt),(4,.int .i64 p)]=some ([v0,v1,v2]++(blist D++[Value.int .i64 f,Value.int .i64 wt,Value.int .i64 p])).toArray
  | [d0,d1,d2,d3,d4,d5,d6,d7,d8,d9,d10,d11,d12,d13,d14,d15,d16,d17,d18,d19,d20,d21,d22,d23,d24,d25,d26,d27,d28,d29,d30,d31],_,v0,v1,v2,f,wt,p=>gbuilt_nd32 d0 d1 d2 d3 d4 d5 d6 d7 d8 d9 d10 d11 d12 d13 d14 d15 d16 d17 d18 d19 d20 d21 d22 d23 d24 d25 d26 d27 d28 d29 d30 d31 v0 v1 v2 f wt p
theorem yieldsIf_build_nd {ops:Array Oper} {S:World→Prop} {op:Oper} {a:Act} {C:Array Value} {v0 v1 v2:Value} {D:List (BitVec 8)} {f wt p:Int} (hw:Region.wanted op (yielded ops a.tmps)=true) (x0 x1 x2 x3 x4:Operand) (ho:op.op=.build 106 #[(0,x0),(1,x1),(2,x2),(3,x3),(4,x4)])
    (h0:a.eval x0=.agg #[v0,v1,v2]) (h1:a.eval x1=.agg (blist D).toArray) (h2:a.eval x2=.int .i64 f) (h3:a.eval x3=.int .i64 wt) (h4:a.eval x4=.int .i64 p) (hD:D.length=32) (hC:C=([v0,v1,v2]++(blist D++[Value.int .i64 f,Value.int .i64 wt,Value.int .i64 p])).toArray):YieldsIf Tryz.prog ops S op (.agg C) a:=
  .inl ⟨hw,fun w _=>by
    have hr:=run_build (P:=Tryz.prog) w 106 #[(0,.agg #[v0,v1,v2]),(1,.agg (blist D).toArray),(2,.int .i64 f),(3,.int .i64 wt),(4,.int .i64 p)] _ (gbuilt_nd D hD v0 v1 v2 f wt p)
    subst hC
    unfold execOp
    simp only[ho,List.map_toArray,List.map_cons,List.map_nil,h0,h1,h2,h3,h4,Sem.run_bind,Sem.run_pure,Result.andThen_ok,hr]⟩
namespace Gr
def putE (M:List Nd) (t:Tx.T) (fee:Int):Int:=
  if Tx.check t=0 then if Am.Good fee then if(find M (Tx.idOf false t)).isSome then 6 else if(t.sp.any fun s=>(cfl M (Tx.idOf false t) (pt s)).isSome) then 8 else 0 else 9 else Tx.check t
def PutPost (w0:World) (g bn bs:Nat) (M:List Nd) (nx:Nat) (t:Tx.T) (fee:Int) (e:Ending) (w':World):Prop:=
  ∃ z,e=.returned (errn z)∧z=putE M t fee∧Moved (fun j=>j=g∨j=bn∨j=bs) w0 w'∧
    ((z=0∧∃ x,At w' g bn bs (M++[x]) (nx+1)∧x.x.t=t∧x.id=Tx.idOf false t∧x.fee=fee∧x.wt=Tx.weight t∧x.pl=nx∧∀ j,x.F j→w0.heap.size≤j)∨(z≠0∧At w' g bn bs M nx))
end Gr
set_option maxRecDepth 100000 in
set_option maxHeartbeats 8000000 in
theorem gPut_any {w:World} {g bn bs:Nat} {M:List Gr.Nd} {nx:Nat} (h:Gr.At w g bn bs M nx) (hn1:nx+1≤1000) (a:Option Addr) (n q:Nat) (b:Option Addr) (m r:Nat) (t:Tx.T) (fee:Int) (ht:TxAt w a n q b m r t) (hs:Tx.Small t) (hK:KDg w) :
    Calls Tryz.prog 37 #[.pointer (some ⟨g,0,none⟩),txv a n q b m r t.firm,.int .i64 fee] w (Gr.PutPost w g bn bs M nx t fee):=by
  have hn6:n≤1000000000:=by have:=hs.1;have:=ht.sp.1;omega
  have hm6:m≤1000000:=by have:=hs.2.1;have:=ht.co.1;omega
  obtain⟨W1,hW1⟩:∃ x,x=w.alloc (.cells #[.slice a n q,.slice b m r,.bool t.firm] 34):=⟨_,rfl⟩
  have hB1:Below w.heap.size w W1:=by rw[hW1];exact(Below.refl _ _).alloc (Nat.le_refl _) _
  have hX:Has W1 w.heap.size 34 #[.slice a n q,.slice b m r,.bool t.firm]:=by rw[hW1];exact Has.fresh _ _ _
  have lX:=hX.load_agg (P:=Tryz.prog) (t:=34) Tryz.underlying34 rfl (by kernel_rfl)
  have HLX:=Lib.hid (fun(w':World) (hb:Below W1.heap.size W1 w')=>(hX.under hb hX.lt).load_agg (P:=Tryz.prog) (t:=34) Tryz.underlying34 rfl (by kernel_rfl))
  have HX:=Lib.hid hX
  obtain⟨c1,hc1⟩:∃ c,c=Tx.check t:=⟨_,rfl⟩
  have HC:=Lib.hid (show Calls Tryz.prog 73 #[txv a n q b m r t.firm] W1 fun e w'=>e=.returned (errn c1)∧Below W1.heap.size W1 w' from hc1▸pcheck_any a n q b m r t t.firm W1 (ht.below hB1) hm6)
  obtain⟨D,hDd⟩:∃ D,D=Tx.idOf false t:=⟨_,rfl⟩
  have HDD:=Lib.hid hDd
  have HDL:=Lib.hid (show D.length=32 by rw[hDd];exact Tx.idOf_len _ _)
  have HID:=Lib.hid (show ∀ W:World,Below w.heap.size w W→Calls Tryz.prog 42 #[txv a n q b m r t.firm] W fun e w'=>e=.returned (.agg (blist D).toArray)∧Below W.heap.size W w' from fun W hb=>hDd▸pid_any a n q b m r t t.firm rfl W (ht.below hb) hs (hK.below hb))
  have HCP:=Lib.hid (show ∀ W:World,Below w.heap.size w W→Calls Tryz.prog 57 #[txv a n q b m r t.firm] W (CopyPost n m t W) from fun W hb=>pcopy_any a n q b m r t t.firm rfl W (ht.below hb) hn6 (by omega))
  have HWT:=Lib.hid (show ∀ W:World,Below w.heap.size w W→Calls Tryz.prog 76 #[txv a n q b m r t.firm] W fun e w'=>e=.returned (.int .i64 (Tx.weight t))∧Below W.heap.size W w' from fun W hb=>pweight_any a n q b m r t t.firm rfl W (ht.below hb) hs)
  have HCO:=Lib.hid (show ∀ W:World,Below w.heap.size w W→Calls Tryz.prog 30 #[.pointer (some ⟨g,0,none⟩),txv a n q b m r t.firm] W (Gr.IdsPost M (fun z=>∃ s,s∈t.sp∧Gr.cfl M D (Gr.pt s)=some z) W) from fun W hb=>hDd▸gConflicts_any (h.below hb) a n q b m r t (ht.below hb) hs (hK.below hb))
  have HHA:=Lib.hid (show ∀ W:World,Below w.heap.size w W→Calls Tryz.prog 38 #[.pointer (some ⟨g,0,none⟩),.agg (blist D).toArray] W fun e w'=>e=.returned (.bool (Gr.find M D).isSome)∧Below W.heap.size W w' from fun W hb=>by
    have h1:=ghas_any (h.below hb).has (h.below hb).grp.map D HDL.out
    rw[Gr.look_ents,Option.isSome_map] at h1
    exact h1)
  obtain⟨Z,hZ⟩:∃ z,z=Gr.putE M t fee:=⟨_,rfl⟩
  have HH:=Lib.hid h
  have HSM:=Lib.hid hs
  have HN1:=Lib.hid hn1
  have HW:=Lib.hid hW1
  have HB1:=Lib.hid hB1
  unfold Gr.PutPost
  rw[← hZ]
  clear hW1 hX ht hs hK h hn6 hm6 hn1
  by_cases h0:c1=0
  · rw[h0,show errn 0=Value.nilIface from rfl] at HC
    have HC0:=Lib.hid (show Tx.check t=0 from hc1.symm.trans h0)
    obtain⟨gd,hgd⟩:∃ gd,gd=decide (Am.Good fee):=⟨_,rfl⟩
    have HGD:=Lib.hid (show gd=true↔Am.Good fee by rw[hgd];simp)
    clear h0 hc1 hgd hDd
    cases gd
    · have HZ:=Lib.hid (show Gr.putE M t fee=9 by unfold Gr.putE;rw[if_pos HC0.out,if_neg (fun e=>by cases HGD.out.2 e)])
      rw[HZ.out] at hZ
      subst hZ
      go_enter Tryz.func37,Tryz.ntmps37
      go_upto_region 1 with fail
      rw[← HW.out]
      go_upto_region 7 with(first
        | (refine wpList_store_mid rfl 46 (.tmp 8) (.tmp 18) rfl w9.heap.size 0 (blist D).toArray rfl rfl (Gr.hsRec.there w9 46 (by kernel_rfl) HDL.out) (Gr.hsRec.size_eq Gr.size_hsr HDL.out) (Gr.hsRec.all_one D) ?_)
        | (go_at_call 73;refine HC.out.mono ?_;rintro e w2 ⟨rfl,hb2⟩;have lX2:=HLX.out w2 hb2;have hT2:=HB1.out.trans (hb2.mono HB1.out.size))
        | (go_at_call 42;refine(HID.out w2 hT2).mono ?_;rintro e w9 ⟨rfl,hb9⟩)
        | (refine wpList_load_run rfl 34 (.tmp 4) rfl _ _ rfl lX2 ?_)
        | (refine wpList_load_run rfl 34 (.tmp 4) rfl _ _ rfl lX ?_))
      obtain⟨w3,hw3⟩:∃ u',u'=(w9.alloc (.cells z32 46)).setCells w9.heap.size 0 (blist D):=⟨_,rfl⟩
      obtain⟨hD3,hb3⟩:=Rec.new (R:=Gr.hsRec) (by kernel_rfl) HDL.out hw3
      rw[← hw3]
      have hW13:Below W1.heap.size W1 w3:=hb2.trans ((hb9.trans (hb3.mono hb9.size)).mono hb2.size)
      have hT3:Below w.heap.size w w3:=HB1.out.trans (hW13.mono HB1.out.size)
      obtain⟨g3,hg3⟩:∃ g,g=w9.heap.size:=⟨_,rfl⟩
      rw[← hg3] at hD3 ⊢
      have hg3l:w.heap.size≤g3:=by rw[hg3];exact(hT2.trans (hb9.mono hT2.size)).size
      have HT3:=Lib.hid hT3
      have HW13:=Lib.hid hW13
      have HD3:=Lib.hid hD3
      have lD3:=hD3.load_agg (P:=Tryz.prog) (t:=46) Tryz.underlying46 rfl (size_hs HDL.out)
      clear hw3 hb2 hb9 hb3 hg3 lX lX2 hT2
      have hA:=HH.out.below hT3
      go_wp2_with (go_at_call 74;refine(pgood_any fee false HGD.out _).mono ?_;rintro e w4 ⟨rfl,hw4⟩;subst hw4)
      go_ret
      exact⟨9,rfl,rfl,Moved.of_below hT3,.inr ⟨by decide,hA⟩⟩
    · have HG1:=Lib.hid (show Am.Good fee from HGD.out.1 rfl)
      clear HGD
      obtain⟨fd,hfd⟩:∃ fd,fd=(Gr.find M D).isSome:=⟨_,rfl⟩
      rw[← hfd] at HHA
      cases fd
      · have HFN:=Lib.hid (show Gr.find M D=none from Option.isNone_iff_eq_none.1 (by rw[← Option.not_isSome,← hfd];rfl))
        obtain⟨cd,hcd⟩:∃ cd,cd=t.sp.any fun s=>(Gr.cfl M D (Gr.pt s)).isSome:=⟨_,rfl⟩
        clear hfd
        cases cd
        · have HCA:=Lib.hid (show ∀ s,s∈t.sp→Gr.cfl M D (Gr.pt s)=none from fun s hs=>by
            have:=List.any_eq_false.1 hcd.symm s hs
            simpa using this)
          have HCN:=Lib.hid (show ∀ p,p∈t.sp.map (fun s=>(s.h,s.n))→Gr.spd M p=none from fun p hp=>by
            obtain⟨s,hs,rfl⟩:=List.mem_map.1 hp
            cases he:Gr.spd M (s.h,s.n) with
            | none=>rfl
            | some z=>
              have h1:=HCA.out s hs
              have h2:Gr.cfl M D (Gr.pt s)=some z:=Gr.cfl_some.2 ⟨he,fun e=>Gr.find_none.1 HFN.out z (Gr.spd_mem he).1 e⟩
              rw[h1] at h2
              cases h2)
          have HZ:=Lib.hid (show Gr.putE M t fee=0 by unfold Gr.putE;rw[if_pos HC0.out,if_pos HG1.out,← HDD.out,if_neg (by rw[HFN.out];decide),← hcd];rfl)
          rw[HZ.out] at hZ
          subst hZ
          clear hcd
          go_enter Tryz.func37,Tryz.ntmps37
          go_upto_region 1 with fail
          rw[← HW.out]
          go_upto_region 7 with(first
            | (refine wpList_store_mid rfl 46 (.tmp 8) (.tmp 18) rfl w9.heap.size 0 (blist D).toArray rfl rfl (Gr.hsRec.there w9 46 (by kernel_rfl) HDL.out) (Gr.hsRec.size_eq Gr.size_hsr HDL.out) (Gr.hsRec.all_one D) ?_)
            | (go_at_call 73;refine HC.out.mono ?_;rintro e w2 ⟨rfl,hb2⟩;have lX2:=HLX.out w2 hb2;have hT2:=HB1.out.trans (hb2.mono HB1.out.size))
            | (go_at_call 42;refine(HID.out w2 hT2).mono ?_;rintro e w9 ⟨rfl,hb9⟩)
            | (refine wpList_load_run rfl 34 (.tmp 4) rfl _ _ rfl lX2 ?_)
            | (refine wpList_load_run rfl 34 (.tmp 4) rfl _ _ rfl lX ?_))
          obtain⟨w3,hw3⟩:∃ u',u'=(w9.alloc (.cells z32 46)).setCells w9.heap.size 0 (blist D):=⟨_,rfl⟩
          obtain⟨hD3,hb3⟩:=Rec.new (R:=Gr.hsRec) (by kernel_rfl) HDL.out hw3
          rw[← hw3]
          have hW13:Below W1.heap.size W1 w3:=hb2.trans ((hb9.trans (hb3.mono hb9.size)).mono hb2.size)
          have hT3:Below w.heap.size w w3:=HB1.out.trans (hW13.mono HB1.out.size)
          obtain⟨g3,hg3⟩:∃ g,g=w9.heap.size:=⟨_,rfl⟩
          rw[← hg3] at hD3 ⊢
          have hg3l:w.heap.size≤g3:=by rw[hg3];exact(hT2.trans (hb9.mono hT2.size)).size
          have HT3:=Lib.hid hT3
          have HW13:=Lib.hid hW13
          have HD3:=Lib.hid hD3
          have lD3:=hD3.load_agg (P:=Tryz.prog) (t:=46) Tryz.underlying46 rfl (size_hs HDL.out)
          clear hw3 hb2 hb9 hb3 hg3 lX lX2 hT2
          have lX3:=HLX.out w3 hW13
          have hA3:=HH.out.below hT3
          go_upto_region 13 with(first
            | (go_at_call 30;refine(HCO.out _ (HT3.out.trans (hb4.mono HT3.out.size))).mono ?_;rintro e w5 ⟨v5,L5,rfl,ho5,hw5,hz5,hb5⟩;have hL5:L5=[]:=List.eq_nil_iff_forall_not_mem.2 (fun z hz=>by obtain⟨_,s,hs,hc⟩:=(hz5 z).1 hz;rw[HCA.out s hs] at hc;cases hc);subst hL5;obtain⟨a5,c5,rfl,hc5,h05,_,hr5⟩:=ho5.shape (K:=0) rfl)
            | (go_at_call 38;refine(HHA.out w3 HT3.out).mono ?_;rintro e w4 ⟨rfl,hb4⟩;have lX4:=HLX.out w4 (HW13.out.trans (hb4.mono HW13.out.size)))
            | (go_at_call 74;refine(pgood_any fee true ⟨fun _=>HG1.out,fun _=>rfl⟩ _).mono ?_;rintro e w4 ⟨rfl,hw4⟩;subst hw4)
            | (refine wpList_load_run rfl 34 (.tmp 4) rfl _ _ rfl lX4 ?_)
            | (refine wpList_load_run rfl 46 (.tmp 8) rfl _ _ rfl lD3 ?_))
          obtain⟨ws,hws⟩:∃ ww,ww=w5.drew:=⟨_,rfl⟩
          have hb35:=hb4.trans (hb5.mono hb4.size)
          have hBws:Below w.heap.size w ws:=by rw[hws];exact(HT3.out.trans (hb35.mono HT3.out.size)).drew
          have hXs:Has ws w.heap.size 34 #[.slice a n q,.slice b m r,.bool t.firm]:=by rw[hws];exact(HX.out.under (HW13.out.trans (hb35.mono HW13.out.size)) HX.out.lt).draw
          have hDs:Has ws g3 46 (blist D).toArray:=by rw[hws];exact(HD3.out.under hb35 HD3.out.lt).draw
          have hng:∀ j,w.heap.size≤j→¬ (j=g∨j=bn∨j=bs):=fun j hj e=>by
            rcases e with e | e | e
            · have:=HH.out.has.lt;omega
            · have:=HH.out.grp.map.lt;omega
            · obtain⟨S,hS,_⟩:=HH.out.sp
              have:=hS.lt;omega
          have HNG:=Lib.hid hng
          have HGL:=Lib.hid hg3l
          have lX:=fun(wq:World) (hSw:HeldM (fun j=>j=g∨j=bn∨j=bs) ws wq)=>(hXs.moved hSw.out (HNG.out _ (Nat.le_refl _))).load_agg (P:=Tryz.prog) (t:=34) Tryz.underlying34 rfl (by kernel_rfl)
          have lD:=fun(wq:World) (hSw:HeldM (fun j=>j=g∨j=bn∨j=bs) ws wq)=>(hDs.moved hSw.out (HNG.out _ HGL.out)).load_agg (P:=Tryz.prog) (t:=46) Tryz.underlying46 rfl (size_hs HDL.out)
          refine wp_region_held_drew (S:=HeldM (fun j=>j=g∨j=bn∨j=bs) ws) (by kernel_rfl) (by rw[hws];exact HeldM.refl _ _) (fun hHeld=>?_)
          rw[← hws] at hHeld ⊢
          clear hws hb35 hng hXs hDs hb4 hb5 ho5 hw5 hz5 hr5 lX3 lX4 lD3 hA3 hT3 hW13 hD3 hg3l
          refine tka (v:=?_) 0 36 rfl rfl hHeld (Or.inl ⟨by rfl,?_⟩) rfl ?_
          rotate_left
          · intro wq hSw
            go_simp
            try with_reducible rfl
          simp only[ts0,ts1]
          refine tka 1 37 rfl rfl hHeld (yieldsIf_load_agg (by rfl) 34 (.tmp 4) rfl _ _ (by rfl) (fun wq hSw=>lX wq hSw)) rfl ?_
          simp only[ts0,ts1]
          refine tka 3 39 rfl rfl hHeld (yieldsIf_load_agg (by rfl) 46 (.tmp 8) rfl _ _ (by rfl) (fun wq hSw=>lD wq hSw)) rfl ?_
          simp only[ts0,ts1]
          refine tka (v:=?_) 4 40 rfl rfl hHeld (Or.inl ⟨by rfl,?_⟩) rfl ?_
          rotate_left
          · intro wq hSw
            go_simp
            try with_reducible rfl
          simp only[ts0,ts1]
          refine tka 5 41 rfl rfl hHeld (yieldsIf_load_agg (by rfl) 34 (.tmp 4) rfl _ _ (by rfl) (fun wq hSw=>lX wq hSw)) rfl ?_
          simp only[ts0,ts1]
          refine tka (v:=?_) 7 43 rfl rfl hHeld (Or.inl ⟨by rfl,?_⟩) rfl ?_
          rotate_left
          · intro wq hSw
            go_simp
            try with_reducible rfl
          simp only[ts0,ts1]
          refine tka (v:=?_) 8 44 rfl rfl hHeld (Or.inl ⟨by rfl,?_⟩) rfl ?_
          rotate_left
          · intro wq hSw
            go_simp
            try with_reducible rfl
          simp only[ts0,ts1]
          refine tka (v:=?_) 9 45 rfl rfl hHeld (Or.inl ⟨by rfl,?_⟩) rfl ?_
          rotate_left
          · intro wq hSw
            go_simp
            try with_reducible rfl
          simp only[ts0,ts1]
          refine wpAnyH_ready (rs:=[2,10]) (by kernel_rfl) (by simp) ?_
          refine AllReadyH.cons rfl (fun K hK=>?_) (AllReadyH.cons rfl (fun K hK=>?_) AllReadyH.nil)
          · go_simp
            go_at_call 57
            refine(HCP.out ws hBws).mono ?_
            rintro e wc ⟨a',q',b',r',rfl,hto,hbc⟩
            refine hK.out _ _ (HeldM.of (Moved.of_below hbc)) (fun _=>?_)
            clear hK K
            try simp only[Act.put,List.setIfInBounds_toArray,ts0,ts1]
            refine heldM_grow (w1:=wc) (Moved.of_below hbc) ?_
            clear hHeld
            have hHeld:HeldM (fun j=>j=g∨j=bn∨j=bs) wc wc:=HeldM.refl _ _
            have hBwc:=hBws.trans (hbc.mono hBws.size)
            have hTO:=Lib.hid hto
            have hwcl:w.heap.size≤ws.heap.size:=hBws.size
            refine wpAnyH_ready (rs:=[6,10]) (by kernel_rfl) (by simp) ?_
            refine AllReadyH.cons rfl (fun K hK=>?_) (AllReadyH.cons rfl (fun K hK=>?_) AllReadyH.nil)
            · go_simp
              go_at_call 76
              refine(HWT.out wc hBwc).mono ?_
              rintro e wx ⟨rfl,hbx⟩
              refine hK.out _ _ (HeldM.of (Moved.of_below hbx)) (fun _=>?_)
              clear hK K
              try simp only[Act.put,List.setIfInBounds_toArray,ts0,ts1]
              refine heldM_grow (w1:=wx) (Moved.of_below hbx) ?_
              clear hHeld
              have hHeld:HeldM (fun j=>j=g∨j=bn∨j=bs) wx wx:=HeldM.refl _ _
              have hBwx:=hBwc.trans (hbx.mono hBwc.size)
              have hTX:=Lib.hid (hTO.out.below hbx)
              refine wpAnyH_ready (rs:=[10]) (by kernel_rfl) (by simp) ?_
              refine AllReadyH.cons rfl (fun K hK=>?_) AllReadyH.nil
              have c2:=(HH.out.below hBwx).has.cell_at (i:=2) (v:=.int .i64 nx) rfl
              go_simp
              refine hK.out _ _ hHeld (fun _=>?_)
              clear hK K c2
              try simp only[Act.put,List.setIfInBounds_toArray,ts0,ts1]
              obtain⟨x,hx⟩:∃ x:Gr.Nd,x=⟨⟨a',n,q',b',m,r',t⟩,D,fee,Tx.weight t,nx,wx.heap.size⟩:=⟨_,rfl⟩
              obtain⟨CX,hCX⟩:∃ c,c=x.cells.toArray:=⟨_,rfl⟩
              refine tka 11 47 rfl rfl hHeld (yieldsIf_build_nd (C:=CX) (by rfl) (.tmp 38) (.tmp 39) (.tmp 40) (.tmp 42) (.tmp 46) rfl (by rfl) (by rfl) (by rfl) (by rfl) (by rfl) HDL.out (by rw[hCX,hx];rfl)) rfl ?_
              simp only[ts0,ts1]
              have HXC:=Lib.hid (And.intro hx hCX)
              clear hx hCX
              refine wpAnyH_ready (rs:=[12]) (by kernel_rfl) (by simp) ?_
              refine AllReadyH.cons rfl (fun K hK=>?_) AllReadyH.nil
              go_simp
              obtain⟨wa,hwa⟩:∃ ww,ww=wx.alloc (.cells CX 106):=⟨_,rfl⟩
              obtain⟨ga,hga⟩:∃ u,u=wx.heap.size:=⟨_,rfl⟩
              rw[← hwa,← hga]
              have hHa:Has wa ga 106 CX:=by rw[hwa,hga];exact Has.fresh _ _ _
              have hba:Below wx.heap.size wx wa:=by rw[hwa];exact(Below.refl _ _).alloc (Nat.le_refl _) _
              refine hK.out _ _ (HeldM.of (Moved.of_below hba)) (fun _=>?_)
              clear hK K
              try simp only[Act.put,List.setIfInBounds_toArray,ts0,ts1]
              refine heldM_grow (w1:=wa) (Moved.of_below hba) ?_
              clear hHeld
              have hHeld:HeldM (fun j=>j=g∨j=bn∨j=bs) wa wa:=HeldM.refl _ _
              have hBwa:=hBwx.trans (hba.mono hBwx.size)
              obtain⟨hx,hCX⟩:=HXC.out
              have hxg:x.g=ga:=by rw[hx,hga]
              have hFx:∀ j,x.F j→w.heap.size≤j:=fun j hj=>by
                rcases hj with hj | hj | hj
                · rw[hj,hxg,hga];exact hBwx.size
                · rw[hx] at hj;exact Nat.le_trans hwcl (hTO.out.sp.lt j hj)
                · rw[hx] at hj;exact Nat.le_trans hwcl (hTO.out.co.lt j hj)
              have hNA:Gr.NdAt wa x:=by
                refine⟨by rw[hxg,← hCX];exact hHa,?_,by rw[hx];exact HDL.out,by rw[hx];exact HSM.out,by rw[hx];exact HC0.out⟩
                rw[hx]
                exact(hTX.out.below hba).low (Nat.zero_le _)
              have hlts:∀ j,j=g∨j=bn∨j=bs→j<w.heap.size:=fun j hj=>by
                rcases hj with e | e | e
                · rw[e];exact HH.out.has.lt
                · rw[e];exact HH.out.grp.map.lt
                · obtain⟨S,hS,_⟩:=HH.out.sp
                  rw[e];exact hS.lt
              have HAD:=Lib.hid (gadd_any (HH.out.below hBwa) x hNA (by rw[hx]) (by rw[hx];exact HFN.out) (fun p hp=>by rw[hx] at hp;exact HCN.out p hp) (fun j hj=>by
                have h1:=hFx j hj
                refine⟨fun e=>?_,fun e=>?_,fun e=>?_⟩
                · have:=hlts j (.inl e);omega
                · have:=hlts j (.inr (.inl e));omega
                · have:=hlts j (.inr (.inr e));omega) HN1.out)
              rw[hxg] at HAD
              have HXX:=Lib.hid (show x.x.t=t∧x.id=D∧x.fee=fee∧x.wt=Tx.weight t∧x.pl=nx from by rw[hx];exact⟨rfl,rfl,rfl,rfl,rfl⟩)
              have HFX:=Lib.hid hFx
              have HBA:=Lib.hid hBwa
              clear hwa hga hHa hba hxg hFx hNA hlts hCX hx
              refine wpAnyH_ready (rs:=[13]) (by kernel_rfl) (by simp) ?_
              refine AllReadyH.cons rfl (fun K hK=>?_) AllReadyH.nil
              go_simp
              go_at_call 75
              refine HAD.out.mono ?_
              rintro e w9 ⟨rfl,hA9,hmv9⟩
              refine hK.out _ _ (HeldM.of hmv9) (fun _=>?_)
              clear hK K hHeld
              try simp only[Act.put,List.setIfInBounds_toArray,ts0,ts1]
              refine wpAnyH_done (by kernel_rfl) ?_ _
              go_wp2
              go_ret
              exact⟨0,rfl,rfl,(Moved.of_below HBA.out).trans hmv9 (fun k hk=>.inl hk),.inl ⟨rfl,x,hA9,HXX.out.1,HXX.out.2.1.trans HDD.out,HXX.out.2.2.1,HXX.out.2.2.2.1,HXX.out.2.2.2.2,HFX.out⟩⟩
            · have c2:=(HH.out.below hBwc).has.cell_at (i:=2) (v:=.int .i64 nx) rfl
              go_simp
              refine hK.out _ _ hHeld (fun _=>?_)
              clear hK K c2
              try simp only[Act.put,List.setIfInBounds_toArray,ts0,ts1]
              refine wpAnyH_ready (rs:=[6]) (by kernel_rfl) (by simp) ?_
              refine AllReadyH.cons rfl (fun K hK=>?_) AllReadyH.nil
              go_simp
              go_at_call 76
              refine(HWT.out wc hBwc).mono ?_
              rintro e wx ⟨rfl,hbx⟩
              refine hK.out _ _ (HeldM.of (Moved.of_below hbx)) (fun _=>?_)
              clear hK K
              try simp only[Act.put,List.setIfInBounds_toArray,ts0,ts1]
              refine heldM_grow (w1:=wx) (Moved.of_below hbx) ?_
              clear hHeld
              have hHeld:HeldM (fun j=>j=g∨j=bn∨j=bs) wx wx:=HeldM.refl _ _
              have hBwx:=hBwc.trans (hbx.mono hBwc.size)
              have hTX:=Lib.hid (hTO.out.below hbx)
              obtain⟨x,hx⟩:∃ x:Gr.Nd,x=⟨⟨a',n,q',b',m,r',t⟩,D,fee,Tx.weight t,nx,wx.heap.size⟩:=⟨_,rfl⟩
              obtain⟨CX,hCX⟩:∃ c,c=x.cells.toArray:=⟨_,rfl⟩
              refine tka 11 47 rfl rfl hHeld (yieldsIf_build_nd (C:=CX) (by rfl) (.tmp 38) (.tmp 39) (.tmp 40) (.tmp 42) (.tmp 46) rfl (by rfl) (by rfl) (by rfl) (by rfl) (by rfl) HDL.out (by rw[hCX,hx];rfl)) rfl ?_
              simp only[ts0,ts1]
              have HXC:=Lib.hid (And.intro hx hCX)
              clear hx hCX
              refine wpAnyH_ready (rs:=[12]) (by kernel_rfl) (by simp) ?_
              refine AllReadyH.cons rfl (fun K hK=>?_) AllReadyH.nil
              go_simp
              obtain⟨wa,hwa⟩:∃ ww,ww=wx.alloc (.cells CX 106):=⟨_,rfl⟩
              obtain⟨ga,hga⟩:∃ u,u=wx.heap.size:=⟨_,rfl⟩
              rw[← hwa,← hga]
              have hHa:Has wa ga 106 CX:=by rw[hwa,hga];exact Has.fresh _ _ _
              have hba:Below wx.heap.size wx wa:=by rw[hwa];exact(Below.refl _ _).alloc (Nat.le_refl _) _
              refine hK.out _ _ (HeldM.of (Moved.of_below hba)) (fun _=>?_)
              clear hK K
              try simp only[Act.put,List.setIfInBounds_toArray,ts0,ts1]
              refine heldM_grow (w1:=wa) (Moved.of_below hba) ?_
              clear hHeld
              have hHeld:HeldM (fun j=>j=g∨j=bn∨j=bs) wa wa:=HeldM.refl _ _
              have hBwa:=hBwx.trans (hba.mono hBwx.size)
              obtain⟨hx,hCX⟩:=HXC.out
              have hxg:x.g=ga:=by rw[hx,hga]
              have hFx:∀ j,x.F j→w.heap.size≤j:=fun j hj=>by
                rcases hj with hj | hj | hj
                · rw[hj,hxg,hga];exact hBwx.size
                · rw[hx] at hj;exact Nat.le_trans hwcl (hTO.out.sp.lt j hj)
                · rw[hx] at hj;exact Nat.le_trans hwcl (hTO.out.co.lt j hj)
              have hNA:Gr.NdAt wa x:=by
                refine⟨by rw[hxg,← hCX];exact hHa,?_,by rw[hx];exact HDL.out,by rw[hx];exact HSM.out,by rw[hx];exact HC0.out⟩
                rw[hx]
                exact(hTX.out.below hba).low (Nat.zero_le _)
              have hlts:∀ j,j=g∨j=bn∨j=bs→j<w.heap.size:=fun j hj=>by
                rcases hj with e | e | e
                · rw[e];exact HH.out.has.lt
                · rw[e];exact HH.out.grp.map.lt
                · obtain⟨S,hS,_⟩:=HH.out.sp
                  rw[e];exact hS.lt
              have HAD:=Lib.hid (gadd_any (HH.out.below hBwa) x hNA (by rw[hx]) (by rw[hx];exact HFN.out) (fun p hp=>by rw[hx] at hp;exact HCN.out p hp) (fun j hj=>by
                have h1:=hFx j hj
                refine⟨fun e=>?_,fun e=>?_,fun e=>?_⟩
                · have:=hlts j (.inl e);omega
                · have:=hlts j (.inr (.inl e));omega
                · have:=hlts j (.inr (.inr e));omega) HN1.out)
              rw[hxg] at HAD
              have HXX:=Lib.hid (show x.x.t=t∧x.id=D∧x.fee=fee∧x.wt=Tx.weight t∧x.pl=nx from by rw[hx];exact⟨rfl,rfl,rfl,rfl,rfl⟩)
              have HFX:=Lib.hid hFx
              have HBA:=Lib.hid hBwa
              clear hwa hga hHa hba hxg hFx hNA hlts hCX hx
              refine wpAnyH_ready (rs:=[13]) (by kernel_rfl) (by simp) ?_
              refine AllReadyH.cons rfl (fun K hK=>?_) AllReadyH.nil
              go_simp
              go_at_call 75
              refine HAD.out.mono ?_
              rintro e w9 ⟨rfl,hA9,hmv9⟩
              refine hK.out _ _ (HeldM.of hmv9) (fun _=>?_)
              clear hK K hHeld
              try simp only[Act.put,List.setIfInBounds_toArray,ts0,ts1]
              refine wpAnyH_done (by kernel_rfl) ?_ _
              go_wp2
              go_ret
              exact⟨0,rfl,rfl,(Moved.of_below HBA.out).trans hmv9 (fun k hk=>.inl hk),.inl ⟨rfl,x,hA9,HXX.out.1,HXX.out.2.1.trans HDD.out,HXX.out.2.2.1,HXX.out.2.2.2.1,HXX.out.2.2.2.2,HFX.out⟩⟩
          · have c2:=(HH.out.below hBws).has.cell_at (i:=2) (v:=.int .i64 nx) rfl
            go_simp
            refine hK.out _ _ hHeld (fun _=>?_)
            clear hK K c2
            try simp only[Act.put,List.setIfInBounds_toArray,ts0,ts1]
            refine wpAnyH_ready (rs:=[2]) (by kernel_rfl) (by simp) ?_
            refine AllReadyH.cons rfl (fun K hK=>?_) AllReadyH.nil
            go_simp
            go_at_call 57
            refine(HCP.out ws hBws).mono ?_
            rintro e wc ⟨a',q',b',r',rfl,hto,hbc⟩
            refine hK.out _ _ (HeldM.of (Moved.of_below hbc)) (fun _=>?_)
            clear hK K
            try simp only[Act.put,List.setIfInBounds_toArray,ts0,ts1]
            refine heldM_grow (w1:=wc) (Moved.of_below hbc) ?_
            clear hHeld
            have hHeld:HeldM (fun j=>j=g∨j=bn∨j=bs) wc wc:=HeldM.refl _ _
            have hBwc:=hBws.trans (hbc.mono hBws.size)
            have hTO:=Lib.hid hto
            have hwcl:w.heap.size≤ws.heap.size:=hBws.size
            refine wpAnyH_ready (rs:=[6]) (by kernel_rfl) (by simp) ?_
            refine AllReadyH.cons rfl (fun K hK=>?_) AllReadyH.nil
            go_simp
            go_at_call 76
            refine(HWT.out wc hBwc).mono ?_
            rintro e wx ⟨rfl,hbx⟩
            refine hK.out _ _ (HeldM.of (Moved.of_below hbx)) (fun _=>?_)
            clear hK K
            try simp only[Act.put,List.setIfInBounds_toArray,ts0,ts1]
            refine heldM_grow (w1:=wx) (Moved.of_below hbx) ?_
            clear hHeld
            have hHeld:HeldM (fun j=>j=g∨j=bn∨j=bs) wx wx:=HeldM.refl _ _
            have hBwx:=hBwc.trans (hbx.mono hBwc.size)
            have hTX:=Lib.hid (hTO.out.below hbx)
            obtain⟨x,hx⟩:∃ x:Gr.Nd,x=⟨⟨a',n,q',b',m,r',t⟩,D,fee,Tx.weight t,nx,wx.heap.size⟩:=⟨_,rfl⟩
            obtain⟨CX,hCX⟩:∃ c,c=x.cells.toArray:=⟨_,rfl⟩
            refine tka 11 47 rfl rfl hHeld (yieldsIf_build_nd (C:=CX) (by rfl) (.tmp 38) (.tmp 39) (.tmp 40) (.tmp 42) (.tmp 46) rfl (by rfl) (by rfl) (by rfl) (by rfl) (by rfl) HDL.out (by rw[hCX,hx];rfl)) rfl ?_
            simp only[ts0,ts1]
            have HXC:=Lib.hid (And.intro hx hCX)
            clear hx hCX
            refine wpAnyH_ready (rs:=[12]) (by kernel_rfl) (by simp) ?_
            refine AllReadyH.cons rfl (fun K hK=>?_) AllReadyH.nil
            go_simp
            obtain⟨wa,hwa⟩:∃ ww,ww=wx.alloc (.cells CX 106):=⟨_,rfl⟩
            obtain⟨ga,hga⟩:∃ u,u=wx.heap.size:=⟨_,rfl⟩
            rw[← hwa,← hga]
            have hHa:Has wa ga 106 CX:=by rw[hwa,hga];exact Has.fresh _ _ _
            have hba:Below wx.heap.size wx wa:=by rw[hwa];exact(Below.refl _ _).alloc (Nat.le_refl _) _
            refine hK.out _ _ (HeldM.of (Moved.of_below hba)) (fun _=>?_)
            clear hK K
            try simp only[Act.put,List.setIfInBounds_toArray,ts0,ts1]
            refine heldM_grow (w1:=wa) (Moved.of_below hba) ?_
            clear hHeld
            have hHeld:HeldM (fun j=>j=g∨j=bn∨j=bs) wa wa:=HeldM.refl _ _
            have hBwa:=hBwx.trans (hba.mono hBwx.size)
            obtain⟨hx,hCX⟩:=HXC.out
            have hxg:x.g=ga:=by rw[hx,hga]
            have hFx:∀ j,x.F j→w.heap.size≤j:=fun j hj=>by
              rcases hj with hj | hj | hj
              · rw[hj,hxg,hga];exact hBwx.size
              · rw[hx] at hj;exact Nat.le_trans hwcl (hTO.out.sp.lt j hj)
              · rw[hx] at hj;exact Nat.le_trans hwcl (hTO.out.co.lt j hj)
            have hNA:Gr.NdAt wa x:=by
              refine⟨by rw[hxg,← hCX];exact hHa,?_,by rw[hx];exact HDL.out,by rw[hx];exact HSM.out,by rw[hx];exact HC0.out⟩
              rw[hx]
              exact(hTX.out.below hba).low (Nat.zero_le _)
            have hlts:∀ j,j=g∨j=bn∨j=bs→j<w.heap.size:=fun j hj=>by
              rcases hj with e | e | e
              · rw[e];exact HH.out.has.lt
              · rw[e];exact HH.out.grp.map.lt
              · obtain⟨S,hS,_⟩:=HH.out.sp
                rw[e];exact hS.lt
            have HAD:=Lib.hid (gadd_any (HH.out.below hBwa) x hNA (by rw[hx]) (by rw[hx];exact HFN.out) (fun p hp=>by rw[hx] at hp;exact HCN.out p hp) (fun j hj=>by
              have h1:=hFx j hj
              refine⟨fun e=>?_,fun e=>?_,fun e=>?_⟩
              · have:=hlts j (.inl e);omega
              · have:=hlts j (.inr (.inl e));omega
              · have:=hlts j (.inr (.inr e));omega) HN1.out)
            rw[hxg] at HAD
            have HXX:=Lib.hid (show x.x.t=t∧x.id=D∧x.fee=fee∧x.wt=Tx.weight t∧x.pl=nx from by rw[hx];exact⟨rfl,rfl,rfl,rfl,rfl⟩)
            have HFX:=Lib.hid hFx
            have HBA:=Lib.hid hBwa
            clear hwa hga hHa hba hxg hFx hNA hlts hCX hx
            refine wpAnyH_ready (rs:=[13]) (by kernel_rfl) (by simp) ?_
            refine AllReadyH.cons rfl (fun K hK=>?_) AllReadyH.nil
            go_simp
            go_at_call 75
            refine HAD.out.mono ?_
            rintro e w9 ⟨rfl,hA9,hmv9⟩
            refine hK.out _ _ (HeldM.of hmv9) (fun _=>?_)
            clear hK K hHeld
            try simp only[Act.put,List.setIfInBounds_toArray,ts0,ts1]
            refine wpAnyH_done (by kernel_rfl) ?_ _
            go_wp2
            go_ret
            exact⟨0,rfl,rfl,(Moved.of_below HBA.out).trans hmv9 (fun k hk=>.inl hk),.inl ⟨rfl,x,hA9,HXX.out.1,HXX.out.2.1.trans HDD.out,HXX.out.2.2.1,HXX.out.2.2.2.1,HXX.out.2.2.2.2,HFX.out⟩⟩
        · have HZ:=Lib.hid (show Gr.putE M t fee=8 by unfold Gr.putE;rw[if_pos HC0.out,if_pos HG1.out,← HDD.out,if_neg (by rw[HFN.out];decide),← hcd];rfl)
          have HCY:=Lib.hid (show ∃ s z,s∈t.sp∧Gr.cfl M D (Gr.pt s)=some z by
            obtain⟨s,hs,h1⟩:=List.any_eq_true.1 hcd.symm
            obtain⟨z,hz⟩:=Option.isSome_iff_exists.1 h1
            exact⟨s,z,hs,hz⟩)
          rw[HZ.out] at hZ
          subst hZ
          clear hcd
          go_enter Tryz.func37,Tryz.ntmps37
          go_upto_region 1 with fail
          rw[← HW.out]
          go_upto_region 7 with(first
            | (refine wpList_store_mid rfl 46 (.tmp 8) (.tmp 18) rfl w9.heap.size 0 (blist D).toArray rfl rfl (Gr.hsRec.there w9 46 (by kernel_rfl) HDL.out) (Gr.hsRec.size_eq Gr.size_hsr HDL.out) (Gr.hsRec.all_one D) ?_)
            | (go_at_call 73;refine HC.out.mono ?_;rintro e w2 ⟨rfl,hb2⟩;have lX2:=HLX.out w2 hb2;have hT2:=HB1.out.trans (hb2.mono HB1.out.size))
            | (go_at_call 42;refine(HID.out w2 hT2).mono ?_;rintro e w9 ⟨rfl,hb9⟩)
            | (refine wpList_load_run rfl 34 (.tmp 4) rfl _ _ rfl lX2 ?_)
            | (refine wpList_load_run rfl 34 (.tmp 4) rfl _ _ rfl lX ?_))
          obtain⟨w3,hw3⟩:∃ u',u'=(w9.alloc (.cells z32 46)).setCells w9.heap.size 0 (blist D):=⟨_,rfl⟩
          obtain⟨hD3,hb3⟩:=Rec.new (R:=Gr.hsRec) (by kernel_rfl) HDL.out hw3
          rw[← hw3]
          have hW13:Below W1.heap.size W1 w3:=hb2.trans ((hb9.trans (hb3.mono hb9.size)).mono hb2.size)
          have hT3:Below w.heap.size w w3:=HB1.out.trans (hW13.mono HB1.out.size)
          obtain⟨g3,hg3⟩:∃ g,g=w9.heap.size:=⟨_,rfl⟩
          rw[← hg3] at hD3 ⊢
          have hg3l:w.heap.size≤g3:=by rw[hg3];exact(hT2.trans (hb9.mono hT2.size)).size
          have HT3:=Lib.hid hT3
          have HW13:=Lib.hid hW13
          have HD3:=Lib.hid hD3
          have lD3:=hD3.load_agg (P:=Tryz.prog) (t:=46) Tryz.underlying46 rfl (size_hs HDL.out)
          clear hw3 hb2 hb9 hb3 hg3 lX lX2 hT2
          have lX3:=HLX.out w3 hW13
          go_wp2_with (first
            | (go_at_call 30;refine(HCO.out _ (HT3.out.trans (hb4.mono HT3.out.size))).mono ?_;rintro e w5 ⟨v5,L5,rfl,ho5,hw5,hz5,hb5⟩;obtain⟨l5,hl5⟩:∃ k,L5.length=k+1:=(by obtain⟨s,z,hs,hc⟩:=HCY.out;have hz:=(hz5 z).2 ⟨(Gr.spd_mem (Gr.cfl_some.1 hc).1).1,s,hs,hc⟩;exact⟨L5.length-1,by have:=List.length_pos_of_mem hz;omega⟩);obtain⟨a5,c5,rfl,hc5,h05,_,hr5⟩:=ho5.shape (K:=l5+1) (by rw[List.length_map];exact hl5);have hgt5:(0:Int)<((l5+1:Nat):Int):=(by omega))
            | (go_at_call 38;refine(HHA.out w3 HT3.out).mono ?_;rintro e w4 ⟨rfl,hb4⟩;have lX4:=HLX.out w4 (HW13.out.trans (hb4.mono HW13.out.size)))
            | (go_at_call 74;refine(pgood_any fee true ⟨fun _=>HG1.out,fun _=>rfl⟩ _).mono ?_;rintro e w4 ⟨rfl,hw4⟩;subst hw4)
            | (refine wpList_load_run rfl 34 (.tmp 4) rfl _ _ rfl lX4 ?_)
            | (refine wpList_load_run rfl 46 (.tmp 8) rfl _ _ rfl lD3 ?_))
          have hb5w:Below w.heap.size w w5:=HT3.out.trans ((hb4.trans (hb5.mono hb4.size)).mono HT3.out.size)
          go_ret
          exact⟨8,rfl,rfl,Moved.of_below hb5w,.inr ⟨by decide,HH.out.below hb5w⟩⟩
      · have HZ:=Lib.hid (show Gr.putE M t fee=6 by unfold Gr.putE;rw[if_pos HC0.out,if_pos HG1.out,← HDD.out,if_pos (by rw[← hfd])])
        rw[HZ.out] at hZ
        subst hZ
        clear hfd
        go_enter Tryz.func37,Tryz.ntmps37
        go_upto_region 1 with fail
        rw[← HW.out]
        go_upto_region 7 with(first
          | (refine wpList_store_mid rfl 46 (.tmp 8) (.tmp 18) rfl w9.heap.size 0 (blist D).toArray rfl rfl (Gr.hsRec.there w9 46 (by kernel_rfl) HDL.out) (Gr.hsRec.size_eq Gr.size_hsr HDL.out) (Gr.hsRec.all_one D) ?_)
          | (go_at_call 73;refine HC.out.mono ?_;rintro e w2 ⟨rfl,hb2⟩;have lX2:=HLX.out w2 hb2;have hT2:=HB1.out.trans (hb2.mono HB1.out.size))
          | (go_at_call 42;refine(HID.out w2 hT2).mono ?_;rintro e w9 ⟨rfl,hb9⟩)
          | (refine wpList_load_run rfl 34 (.tmp 4) rfl _ _ rfl lX2 ?_)
          | (refine wpList_load_run rfl 34 (.tmp 4) rfl _ _ rfl lX ?_))
        obtain⟨w3,hw3⟩:∃ u',u'=(w9.alloc (.cells z32 46)).setCells w9.heap.size 0 (blist D):=⟨_,rfl⟩
        obtain⟨hD3,hb3⟩:=Rec.new (R:=Gr.hsRec) (by kernel_rfl) HDL.out hw3
        rw[← hw3]
        have hW13:Below W1.heap.size W1 w3:=hb2.trans ((hb9.trans (hb3.mono hb9.size)).mono hb2.size)
        have hT3:Below w.heap.size w w3:=HB1.out.trans (hW13.mono HB1.out.size)
        obtain⟨g3,hg3⟩:∃ g,g=w9.heap.size:=⟨_,rfl⟩
        rw[← hg3] at hD3 ⊢
        have hg3l:w.heap.size≤g3:=by rw[hg3];exact(hT2.trans (hb9.mono hT2.size)).size
        have HT3:=Lib.hid hT3
        have HW13:=Lib.hid hW13
        have HD3:=Lib.hid hD3
        have lD3:=hD3.load_agg (P:=Tryz.prog) (t:=46) Tryz.underlying46 rfl (size_hs HDL.out)
        clear hw3 hb2 hb9 hb3 hg3 lX lX2 hT2
        go_wp2_with (first
          | (go_at_call 38;refine(HHA.out w3 HT3.out).mono ?_;rintro e w4 ⟨rfl,hb4⟩)
          | (go_at_call 74;refine(pgood_any fee true ⟨fun _=>HG1.out,fun _=>rfl⟩ _).mono ?_;rintro e w4 ⟨rfl,hw4⟩;subst hw4)
          | (refine wpList_load_run rfl 46 (.tmp 8) rfl _ _ rfl lD3 ?_))
        have hb4w:Below w.heap.size w w4:=HT3.out.trans (hb4.mono HT3.out.size)
        go_ret
        exact⟨6,rfl,rfl,Moved.of_below hb4w,.inr ⟨by decide,HH.out.below hb4w⟩⟩
  · have HZ:=Lib.hid (show Gr.putE M t fee=c1 by unfold Gr.putE;rw[← hc1,if_neg h0])
    rw[HZ.out] at hZ
    subst hZ
    rw[show errn Z=erro Z from if_neg h0] at HC
    have HE:=Lib.hid (show errn Z=erro Z from if_neg h0)
    have HN0:=Lib.hid h0
    clear hc1 h0 hDd
    go_enter Tryz.func37,Tryz.ntmps37
    go_upto_region 1 with fail
    rw[← HW.out]
    go_wp2_with (first
      | (go_at_call 73;refine HC.out.mono ?_;rintro e w2 ⟨rfl,hb2⟩)
      | (refine wpList_load_run rfl 34 (.tmp 4) rfl _ _ rfl lX ?_))
    have hT2:=HB1.out.trans (hb2.mono HB1.out.size)
    go_ret
    exact⟨Z,congrArg Ending.returned HE.out.symm,rfl,Moved.of_below hT2,.inr ⟨HN0.out,HH.out.below hT2⟩⟩
end Go.Proofs.YtijemcfnlbapjaaGreatDoor
namespace Go.Proofs.YtijemcfnlbapjaaGreatDoor
open Go Go.RowKit Go.ChangeShapes Go.WideShapes
section
variable {α:Type} {R:Rec α}
end
theorem ownr_block {α:Type} {R:Rec α} {T:TypeId} {B k:Nat} {w:World} {v:Value} {L:List α} (h:OwnR R T B w v L) (hk:v.ownBlock=some k):∃ cs,Has w k T cs:=by
  rcases h.2.2 with⟨rfl,_⟩ | ⟨j,cap,cur,rfl,_,h2,_⟩
  · cases hk
  · have e:j=k:=by simpa [Value.ownBlock] using hk
    subst e
    exact⟨cur,h2⟩
theorem results_cellslot {P:Program} {fn:Func} {p q:Tmp} {ty:TypeId} (h:fn.results=#[.cell p ty,.tmp q]) (tmps:Array Value) (w:World) (g:Nat) (hp:tmps.getD p undef=.pointer (some ⟨g,0,none⟩))
    (v u:Value) (hv:(loadVar ty ⟨g,0,none⟩).run P w=.ok v w) (hu:tmps.getD q undef=u):(results fn tmps).run P w=.ok (.tuple #[v,u]) w:=by
  rw[Array.getD_eq_getD_getElem?] at hp hu
  simp only[results,h]
  simp[hp,hu,hv,asAddr]
end Go.Proofs.YtijemcfnlbapjaaGreatDoor
