/- the reference 14: Put (mkgrz.py) · pure: parents, children, what is reached: a graph beside the reference's list (by hand) -/
import Derived.Test.YtijemcfnlbapjaaGreatDoorJ28
namespace Go.Proofs.YtijemcfnlbapjaaGreatDoor
open Go Go.RowKit Go.ChangeShapes Go.WideShapes
theorem Gr.built_rn32 (d0 d1 d2 d3 d4 d5 d6 d7 d8 d9 d10 d11 d12 d13 d14 d15 d16 d17 d18 d19 d20 d21 d22 d23 d24 d25 d26 d27 d28 d29 d30 d31:BitVec 8) (v0 v1 v2:Value) (f:Int):Tryz.prog.built 50 [(0,.agg #[v0,v1,v2]),(1,.agg (blist [d0,d1,d2,d3,d4,d5,d6,d7,d8,d9,d10,d11,d12,d13,d14,d15,d16,d17,d18,d19,d20,d21,d22,d23,d24,d25,d26,d27,d28,d29,d30,d31]).toArray),(2,.int .i64 f)]=some ([v0,v1,v2]++(blist [d0,d1,d2,d3,d4,d5,d6,d7,d8,d9,d10,d11,d12,d13,d14,d15,d16,d17,d18,d19,d20,d21,d22,d23,d24,d25,d26,d27,d28,d29,d30,d31]++[Value.int .i64 f])).toArray:=by kernel_rfl
theorem Gr.built_rn:∀ (D:List (BitVec 8)),D.length=32→∀ (v0 v1 v2:Value) (f:Int),Tryz.prog.built 50 [(0,.agg #[v0,v1,v2]),(1,.agg (blist D).toArray),(2,.int .i64 f)]=some ([v0,v1,v2]++(blist D++[Value.int .i64 f])).toArray
  | [d0,d1,d2,d3,d4,d5,d6,d7,d8,d9,d10,d11,d12,d13,d14,d15,d16,d17,d18,d19,d20,d21,d22,d23,d24,d25,d26,d27,d28,d29,d30,d31],_,v0,v1,v2,f=>Gr.built_rn32 d0 d1 d2 d3 d4 d5 d6 d7 d8 d9 d10 d11 d12 d13 d14 d15 d16 d17 d18 d19 d20 d21 d22 d23 d24 d25 d26 d27 d28 d29 d30 d31 v0 v1 v2 f
theorem Gr.yieldsIf_build_rn {ops:Array Oper} {S:World→Prop} {op:Oper} {a:Act} {C:Array Value} {v0 v1 v2:Value} {D:List (BitVec 8)} {f:Int} (hw:Region.wanted op (yielded ops a.tmps)=true) (x0 x1 x2:Operand) (ho:op.op=.build 50 #[(0,x0),(1,x1),(2,x2)])
    (h0:a.eval x0=.agg #[v0,v1,v2]) (h1:a.eval x1=.agg (blist D).toArray) (h2:a.eval x2=.int .i64 f) (hD:D.length=32) (hC:C=([v0,v1,v2]++(blist D++[Value.int .i64 f])).toArray):YieldsIf Tryz.prog ops S op (.agg C) a:=
  .inl ⟨hw,fun w _=>by
    have hr:=run_build (P:=Tryz.prog) w 50 #[(0,.agg #[v0,v1,v2]),(1,.agg (blist D).toArray),(2,.int .i64 f)] _ (Gr.built_rn D hD v0 v1 v2 f)
    subst hC
    unfold execOp
    simp only[ho,List.map_toArray,List.map_cons,List.map_nil,h0,h1,h2,Sem.run_bind,Sem.run_pure,Result.andThen_ok,hr]⟩
theorem Gr.step_build_row {P:Program} {w:World} {ops:Array Oper} {o:Oper} {a:Act} {K:Act→World→Prop} {Q:Exit→Act→World→Prop} {E:Prop} (hwt:Region.wanted o (yielded ops a.tmps)=true) (x:Operand) (t:TypeId) (ho:o.op=.buildSlice t 1 #[(0,x)])
    (T:TypeId) {z:Array Value} {k by_:Nat} (ht:P.underlying t=some (.slice T)) (hi:(P.info? T).map (fun i=>(i.zero,i.size,i.bytes))=some (some (.agg z),k,by_)) (hk:0<k) (hk2:k≤16777216) (cs:Array Value) (hc:cs.size=k) (hx:a.eval x=.agg cs)
    (h:K (a.put o.dst (.slice (some ⟨w.heap.size,0,none⟩) 1 1)) (w.alloc (.cells cs T))):if Region.wanted o (yielded ops a.tmps)=true then Oper.wp P o a w K Q else E:=by
  rw[if_pos hwt]
  have hr:=run_build_row (P:=P) ht hi hk hk2 cs hc w
  unfold Oper.wp execOp
  simp only[ho,List.map_toArray,List.map_cons,List.map_nil,hx,Sem.run_bind,Sem.run_pure,Result.andThen_ok,hr]
  exact h
theorem Gr.step_build_at {P:Program} {w:World} {ops:Array Oper} {o:Oper} {l:List Value} {ds:List _} {K:Act→World→Prop} {Q:Exit→Act→World→Prop} {E:Prop} (d:Nat) (hd:o.dst=some d) (hwt:Region.wanted o (yielded ops (⟨l.toArray,ds⟩:Act).tmps)=true) (x:Operand) (t:TypeId) (ho:o.op=.buildSlice t 1 #[(0,x)])
    (T:TypeId) {z:Array Value} {k by_:Nat} (ht:P.underlying t=some (.slice T)) (hi:(P.info? T).map (fun i=>(i.zero,i.size,i.bytes))=some (some (.agg z),k,by_)) (hk:0<k) (hk2:k≤16777216) (cs:Array Value) (hc:cs.size=k) (hx:(⟨l.toArray,ds⟩:Act).eval x=.agg cs)
    (h:K ⟨(l.set d (.slice (some ⟨w.heap.size,0,none⟩) 1 1)).toArray,ds⟩ (w.alloc (.cells cs T))):if Region.wanted o (yielded ops (⟨l.toArray,ds⟩:Act).tmps)=true then Oper.wp P o ⟨l.toArray,ds⟩ w K Q else E:=
  Gr.step_build_row hwt x t ho T ht hi hk hk2 cs hc hx (by rw[hd,put_dst rfl];exact h)
theorem Gr.step_append_at {α:Type} {R:Rec α} {P:Program} {w:World} {ops:Array Oper} {o:Oper} {l:List Value} {ds:List _} {K:Act→World→Prop} {Q:Exit→Act→World→Prop} {E:Prop} (d:Nat) (hd:o.dst=some d) (hwt:Region.wanted o (yielded ops (⟨l.toArray,ds⟩:Act).tmps)=true) (s x:Operand) (t:TypeId)
    (ho:o.op=.call { callee:=.builtin .append,args:=#[s,x],argTypes:=#[t,t] })
    (T:TypeId) (ht:P.underlying t=some (.slice T)) {z:Value} {by_:Nat} (hinfo:(P.info? T).map (fun i=>(i.zero,i.size,i.bytes))=some (some z,R.k,by_)) (hzk:z.cells.size=R.k) (hby:by_≤128)
    (B:Nat) (v:Value) (L:List α) (hs:(⟨l.toArray,ds⟩:Act).eval s=v) (hown:OwnR R T B w v L) (ad:Option Addr) (m c:Nat) (M:List α) (hx:(⟨l.toArray,ds⟩:Act).eval x=.slice ad m c) (hw:Recs R w ad m M) (hc:ad=none→c=0)
    (h63:L.length+m≤1099511627776) (hbase:B≤w.heap.size)
    (h:∀ v' w',OwnR R T B w' v' (L++M)→w.grownBy w' v.ownBlock→Lies w v v'→K ⟨(l.set d v').toArray,ds⟩ w'):if Region.wanted o (yielded ops (⟨l.toArray,ds⟩:Act).tmps)=true then Oper.wp P o ⟨l.toArray,ds⟩ w K Q else E:=
  step_append_recs hwt s x t ho T ht hinfo hzk hby B v L hs hown ad m c M hx hw hc h63 hbase (fun v' w' h1 h2 h3=>by rw[hd,put_dst rfl];exact h v' w' h1 h2 h3)
theorem Gr.rn_recs {w:World} {g:Nat} {x:Gr.Rn} (hx:Gr.rnRec.ok x) (h:Has w g 50 (Gr.rnCells x).toArray):Recs Gr.rnRec w (some ⟨g,0,none⟩) 1 [x]:=
  recs_fresh (R:=Gr.rnRec) (L:=[x]) (fun q hq=>by rw[List.mem_singleton.1 hq];exact hx) h (by show 1≤maxLen;unfold maxLen;omega) (fun j u hj=>by
    have e:Gr.rnRec.row [x]=Gr.rnCells x:=by show Gr.rnRec.cells x++[]=_;rw[List.append_nil];rfl
    rw[e] at hj
    rw[← Array.getElem?_toList]
    exact hj)
set_option maxRecDepth 100000 in
set_option maxHeartbeats 8000000 in
theorem rput14_any (a:Option Addr) (n q:Nat) (L:List Gr.Rn) (b:Option Addr) (m r:Nat) (c:Option Addr) (k l:Nat) (t:Tx.T) (fee:Int) (w:World) (h:Recs Gr.rnRec w a n L) (haq:a=none→q=0) (hv:∀ x,x∈L→x.v.At w) (hn:n≤1000000) (ht:TxAt w b m r c k l t) (hs:Tx.Small t) (hK:Tab32 w 1 Dg.kL) :
    Calls Tryz.prog 46 #[.slice a n q,txv b m r c k l t.firm,.int .i64 fee] w fun e w'=>∃ v,e=.returned (.tuple #[v,.int .i64 (Gr.rputE L t fee)])∧(Gr.rputE L t fee=0→OwnR Gr.rnRec 50 w.heap.size w' v (L++[⟨⟨b,m,r,c,k,l,t⟩,Tx.idOf false t,fee⟩]))∧(¬ Gr.rputE L t fee=0→v=.slice a n q)∧Below w.heap.size w w':=by
  obtain⟨W1,hW1⟩:∃ x,x=w.alloc (.cells #[.slice b m r,.slice c k l,.bool t.firm] 34):=⟨_,rfl⟩
  have hB1:Below w.heap.size w W1:=by rw[hW1];exact(Below.refl _ _).alloc (Nat.le_refl _) _
  have hX:Has W1 w.heap.size 34 #[.slice b m r,.slice c k l,.bool t.firm]:=by rw[hW1];exact Has.fresh _ _ _
  have HLX:=Lib.hid (fun(w':World) (hb:Below W1.heap.size W1 w')=>(hX.under hb hX.lt).load_agg (P:=Tryz.prog) (t:=34) Tryz.underlying34 rfl (by kernel_rfl))
  have lX:=HLX.out W1 (Below.refl _ _)
  obtain⟨D,hDd⟩:∃ D,D=Tx.idOf false t:=⟨_,rfl⟩
  obtain⟨c1,hc1⟩:∃ c,c=Tx.check t:=⟨_,rfl⟩
  have HDL:=Lib.hid (show D.length=32 by rw[hDd];exact Tx.idOf_len _ _)
  have HC:=Lib.hid (show Calls Tryz.prog 81 #[txv b m r c k l t.firm] W1 fun e w'=>e=.returned (.int .i64 c1)∧Below W1.heap.size W1 w' from hc1▸rcheck_any b m r c k l t W1 (ht.below hB1))
  have HI:=Lib.hid (show ∀ W,Below w.heap.size w W→Calls Tryz.prog 68 #[txv b m r c k l t.firm] W fun e w'=>e=.returned (.agg (blist D).toArray)∧Below W.heap.size W w' from fun W hb=>hDd▸rid_any b m r c k l t W (ht.below hb) hs (hK.below hb))
  obtain⟨fd,hfd⟩:∃ x,x=decide (∃ x,x∈L∧x.id=D):=⟨_,rfl⟩
  have HHA:=Lib.hid (show ∀ W,Below w.heap.size w W→Calls Tryz.prog 52 #[.slice a n q,.agg (blist D).toArray] W fun e w'=>e=.returned (.bool fd)∧Below W.heap.size W w' from fun W hb=>hfd▸rhas14_any a n q L D HDL.out W (h.below hb))
  obtain⟨CL,hCL⟩:∃ x,x=Gr.rconf L t:=⟨_,rfl⟩
  have HCO:=Lib.hid (show ∀ W,Below w.heap.size w W→Calls Tryz.prog 31 #[.slice a n q,txv b m r c k l t.firm] W fun e w'=>∃ v,e=.returned v∧OwnR Gr.hsRec 46 W.heap.size w' v CL∧Below W.heap.size W w' from fun W hb=>hCL▸rconf14_any a n q L b m r c k l t W (h.below hb) (fun x hx=>TxAt.below (hv x hx) hb) hn (ht.below hb) hs (hK.below hb))
  obtain⟨X,hXX⟩:∃ X:Gr.Rn,X=⟨⟨b,m,r,c,k,l,t⟩,D,fee⟩:=⟨_,rfl⟩
  have HX:=Lib.hid hXX
  have HXO:=Lib.hid (show Gr.rnRec.ok X by rw[hXX];exact HDL.out)
  obtain⟨Z,hZ⟩:∃ z,z=Gr.rputE L t fee:=⟨_,rfl⟩
  rw[← hZ,← hDd,← hXX]
  have HZZ:=Lib.hid (show Z=if c1=0 then if Am.Good fee then if fd=true then 6 else if 0<CL.length then 8 else 0 else 9 else c1 by rw[hZ,Gr.rputE,← hc1,← hDd,← hfd,← hCL])
  have HHC:=Lib.hid haq
  have HH:=Lib.hid h
  have HN:=Lib.hid hn
  have HW:=Lib.hid hW1
  have HB1:=Lib.hid hB1
  clear hW1 hX ht hs hK h hDd hc1 hfd hCL hv hn hB1 hXX hZ haq
  go_enter Tryz.func46,Tryz.ntmps46
  go_upto_region 1 with fail
  rw[← HW.out]
  by_cases h0:c1=0
  · have HC0:=Lib.hid h0
    subst h0
    by_cases hg:Am.Good fee
    · have HG:=Lib.hid hg
      clear hg
      go_upto_region 7 with(first
        | (refine wpList_store_mid rfl 46 (.tmp 9) (.tmp 21) rfl w3.heap.size 0 (blist D).toArray rfl rfl (Gr.hsRec.there w3 46 (by kernel_rfl) HDL.out) (Gr.hsRec.size_eq Gr.size_hsr HDL.out) (Gr.hsRec.all_one D) ?_)
        | (go_at_call 68;refine(HI.out w2 (HB1.out.trans (hb2.mono HB1.out.size))).mono ?_;rintro e w3 ⟨rfl,hb3⟩)
        | (go_at_call 55;(with_reducible refine(agood_any fee true ⟨fun _=>HG.out,fun _=>rfl⟩ _).mono ?_);rintro e w8 ⟨rfl,rfl⟩)
        | (go_at_call 81;refine HC.out.mono ?_;rintro e w2 ⟨rfl,hb2⟩;have lX2:=HLX.out w2 hb2)
        | (refine wpList_load_run rfl 34 (.tmp 4) rfl _ _ rfl lX2 ?_)
        | (refine wpList_load_run rfl 34 (.tmp 4) rfl _ _ rfl lX ?_))
      obtain⟨w4,hw4⟩:∃ u',u'=(w3.alloc (.cells z32 46)).setCells w3.heap.size 0 (blist D):=⟨_,rfl⟩
      obtain⟨hD4,hb4⟩:=Rec.new (R:=Gr.hsRec) (by kernel_rfl) HDL.out hw4
      rw[← hw4]
      obtain⟨g4,hg4⟩:∃ g,g=w3.heap.size:=⟨_,rfl⟩
      rw[← hg4] at hD4 ⊢
      have hB14:Below W1.heap.size W1 w4:=hb2.trans ((hb3.trans (hb4.mono hb3.size)).mono hb2.size)
      have HB4:=Lib.hid (HB1.out.trans (hB14.mono HB1.out.size))
      have HB14:=Lib.hid hB14
      have HD4:=Lib.hid hD4
      have HLD:=Lib.hid (fun(w':World) (hb:Below w4.heap.size w4 w')=>(hD4.under hb hD4.lt).load_agg (P:=Tryz.prog) (t:=46) Tryz.underlying46 rfl (Gr.hsRec.size_eq Gr.size_hsr HDL.out))
      have lD:=HLD.out w4 (Below.refl _ _)
      clear hw4 hb2 hb3 hb4 hg4 hD4 hB14 lX lX2
      cases fd
      · go_upto_region 9 with(first
          | (go_at_call 52;refine(HHA.out w4 HB4.out).mono ?_;rintro e w6 ⟨rfl,hb6⟩;have lX6:=HLX.out w6 (HB14.out.trans (hb6.mono HB14.out.size));have hB6:=HB4.out.trans (hb6.mono HB4.out.size))
          | (refine wpList_load_run rfl 46 (.tmp 9) rfl _ _ rfl lD ?_))
        obtain⟨cn,hcn⟩:∃ x,x=CL.length:=⟨_,rfl⟩
        have HCN:=Lib.hid hcn
        by_cases hc0:0<cn
        · have HZ:=Lib.hid (show Z=8 by rw[HZZ.out,if_pos HC0.out,if_pos HG.out,if_neg (by decide),if_pos (by omega)])
          have hci:(0:Int)<(cn:Int):=by omega
          clear hcn hc0
          go_wp2_with (first
            | (go_at_call 31;refine(HCO.out w6 hB6).mono ?_;rintro e w7 ⟨v7,rfl,ho7,hb7⟩;obtain⟨a7,c7,rfl,_⟩:=ho7.shape (K:=cn) HCN.out.symm)
            | (refine wpList_load_run rfl 34 (.tmp 4) rfl _ _ rfl lX6 ?_))
          go_ret2
          exact⟨_,by rw[HZ.out];rfl,fun e=>absurd (HZ.out.symm.trans e) (by decide),fun _=>rfl,hB6.trans (hb7.mono hB6.size)⟩
        · have HZ:=Lib.hid (show Z=0 by rw[HZZ.out,if_pos HC0.out,if_pos HG.out,if_neg (by decide),if_neg (by omega)])
          have hci:¬ (0:Int)<(cn:Int):=by omega
          clear hcn hc0
          go_upto_region 11 with(first
            | (go_at_call 31;refine(HCO.out w6 hB6).mono ?_;rintro e w7 ⟨v7,rfl,ho7,hb7⟩;obtain⟨a7,c7,rfl,_⟩:=ho7.shape (K:=cn) HCN.out.symm)
            | (refine wpList_load_run rfl 34 (.tmp 4) rfl _ _ rfl lX6 ?_))
          obtain⟨ws,hws⟩:∃ u,u=w7.drew:=⟨_,rfl⟩
          have hb4s:Below w4.heap.size w4 ws:=by rw[hws];exact(hb6.trans (hb7.mono hb6.size)).drew
          have HB5:=Lib.hid (HB4.out.trans (hb4s.mono HB4.out.size))
          replace HH:=Lib.hid (HH.out.below HB5.out)
          have lX:=fun(wq:World) (hSw:Held ws wq)=>HLX.out wq (HB14.out.trans ((hb4s.trans (hSw.below.mono hb4s.size)).mono HB14.out.size))
          have lD:=fun(wq:World) (hSw:Held ws wq)=>HLD.out wq (hb4s.trans (hSw.below.mono hb4s.size))
          have hbws:Below ws.heap.size ws ws:=Below.refl _ _
          refine wp_region_held_drew (S:=Held ws) (by kernel_rfl) (by rw[hws];exact Held.refl _) (fun hHeld=>?_)
          rw[← hws] at hHeld ⊢
          clear hws hb6 hb7 hb4s lX6 hB6 ho7
          refine tka (v:=?_) 1 33 rfl rfl hHeld (Or.inl ⟨by rfl,?_⟩) rfl ?_
          rotate_left
          · intro wq hSw
            go_simp
            try with_reducible rfl
          simp only[ts0,ts1]
          refine tka 3 35 rfl rfl hHeld (yieldsIf_load_agg (by rfl) 34 (.tmp 4) rfl _ _ (by rfl) (fun wq hSw=>lX wq hSw)) rfl ?_
          simp only[ts0,ts1]
          refine tka 4 36 rfl rfl hHeld (yieldsIf_load_agg (by rfl) 46 (.tmp 9) rfl _ _ (by rfl) (fun wq hSw=>lD wq hSw)) rfl ?_
          simp only[ts0,ts1]
          refine tka (v:=?_) 5 37 rfl rfl hHeld (Or.inl ⟨by rfl,?_⟩) rfl ?_
          rotate_left
          · intro wq hSw
            go_simp
            try with_reducible rfl
          simp only[ts0,ts1]
          refine tka 6 38 rfl rfl hHeld (Gr.yieldsIf_build_rn (C:=(Gr.rnCells X).toArray) (by rfl) (.tmp 35) (.tmp 36) (.tmp 37) rfl (by rfl) (by rfl) (by rfl) HDL.out (by rw[HX.out];rfl)) rfl ?_
          simp only[ts0,ts1]
          clear lX lD
          refine wpAnyH_ready (rs:=[0,7]) (by kernel_rfl) (by simp) ?_
          refine AllReadyH.cons rfl (fun K hK=>?_) (AllReadyH.cons rfl (fun K hK=>?_) AllReadyH.nil)
          · go_simp
            obtain⟨k1,hYk1⟩:∃ x,x=ws.alloc (.cells #[] 50):=⟨_,rfl⟩
            obtain⟨ge,hge⟩:∃ x,x=ws.heap.size:=⟨_,rfl⟩
            rw[← hYk1,← hge]
            have hnk1:Below ws.heap.size ws k1:=by rw[hYk1];exact(Below.refl _ _).alloc (Nat.le_refl _) _
            have hbk1:Below ws.heap.size ws k1:=hbws.trans (hnk1.mono hbws.size)
            have hO:OwnR Gr.rnRec 50 ws.heap.size k1 (.slice (some ⟨ge,0,none⟩) 0 0) []:=OwnR.empty (by rw[hge];exact hbws.size) (by rw[hYk1,hge];exact Has.fresh _ _ _)
            have hgs:ge<k1.heap.size:=by rw[hYk1,hge];simp
            clear hYk1 hnk1
            refine hK.out _ _ (Held.of hbk1) (fun _=>?_)
            clear hK K
            try simp only[Act.put]
            try simp only[List.setIfInBounds_toArray]
            try simp only[ts0,ts1]
            replace hHeld:=Held.of hbk1
            refine wpAnyH_ready (rs:=[2,7]) (by kernel_rfl) (by simp) ?_
            refine AllReadyH.cons rfl (fun K hK=>?_) (AllReadyH.cons rfl (fun K hK=>?_) AllReadyH.nil)
            · refine Gr.step_append_at (R:=Gr.rnRec) 34 rfl (by rfl) (.tmp 32) (.tmp 33) 27 rfl 50 Tryz.underlying27 Gr.info_rn (by kernel_rfl) (by decide) ws.heap.size _ [] (by first | rfl | simp[Act.eval]) hO a n q L (by first | rfl | simp[Act.eval]) (HH.out.below hbk1) HHC.out (by have:=HN.out;simp;omega) hbk1.size ?_
              intro v1 k2 hok2 hgk2 hlk2
              have hbk2:Below ws.heap.size ws k2:=below_own_recs hbk1 hgk2 hO.lt
              replace hO:=hok2
              clear hok2 hgk2 hlk2
              refine hK.out _ _ (Held.of hbk2) (fun _=>?_)
              clear hK K
              try simp only[Act.put]
              try simp only[List.setIfInBounds_toArray]
              try simp only[ts0,ts1]
              replace hHeld:=Held.of hbk2
              refine wpAnyH_ready (rs:=[7]) (by kernel_rfl) (by simp) ?_
              refine AllReadyH.cons rfl (fun K hK=>?_) AllReadyH.nil
              refine Gr.step_build_at 39 rfl (by rfl) (.tmp 38) 27 rfl 50 Tryz.underlying27 Gr.info_rn (by decide) (by decide) (Gr.rnCells X).toArray (by rw[List.size_toArray];exact Gr.rnRec.len X HXO.out) (by first | rfl | simp[Act.eval]) ?_
              obtain⟨k3,hYk3⟩:∃ x,x=k2.alloc (.cells (Gr.rnCells X).toArray 50):=⟨_,rfl⟩
              obtain⟨gb,hgb⟩:∃ x,x=k2.heap.size:=⟨_,rfl⟩
              rw[← hYk3,← hgb]
              have hnk3:Below k2.heap.size k2 k3:=by rw[hYk3];exact(Below.refl _ _).alloc (Nat.le_refl _) _
              have hbk3:Below ws.heap.size ws k3:=hbk2.trans (hnk3.mono hbk2.size)
              have hH:Has k3 gb 50 (Gr.rnCells X).toArray:=by rw[hYk3,hgb];exact Has.fresh _ _ _
              replace hO:=hO.below hnk3
              clear hYk3 hnk3
              refine hK.out _ _ (Held.of hbk3) (fun _=>?_)
              clear hK K
              try simp only[Act.put]
              try simp only[List.setIfInBounds_toArray]
              try simp only[ts0,ts1]
              replace hHeld:=Held.of hbk3
              refine wpAnyH_ready (rs:=[8]) (by kernel_rfl) (by simp) ?_
              refine AllReadyH.cons rfl (fun K hK=>?_) AllReadyH.nil
              refine Gr.step_append_at (R:=Gr.rnRec) 40 rfl (by rfl) (.tmp 34) (.tmp 39) 27 rfl 50 Tryz.underlying27 Gr.info_rn (by kernel_rfl) (by decide) ws.heap.size _ _ (by first | rfl | simp[Act.eval]) hO (some ⟨gb,0,none⟩) 1 1 [X] (by first | rfl | simp[Act.eval]) (Gr.rn_recs HXO.out hH) (fun e=>by cases e) (by have:=HN.out;have:=HH.out.1;simp;omega) hbk3.size ?_
              intro v2 k4 hok4 hgk4 hlk4
              have hbk4:Below ws.heap.size ws k4:=below_own_recs hbk3 hgk4 hO.lt
              replace hO:=hok4
              clear hok4 hgk4 hlk4
              refine hK.out _ _ (Held.of hbk4) (fun _=>?_)
              clear hK K
              try simp only[Act.put]
              try simp only[List.setIfInBounds_toArray]
              try simp only[ts0,ts1]
              replace hHeld:=Held.of hbk4
              refine tka (v:=?_) 9 6 rfl rfl hHeld (Or.inl ⟨by rfl,?_⟩) rfl ?_
              rotate_left
              · intro wq hSw
                go_simp
                try with_reducible rfl
              try simp only[ts0,ts1]
              refine tka (v:=?_) 10 7 rfl rfl hHeld (Or.inl ⟨by rfl,?_⟩) rfl ?_
              rotate_left
              · intro wq hSw
                go_simp
                try with_reducible rfl
              try simp only[ts0,ts1]
              refine wpAnyH_done (by kernel_rfl) ?_ _
              have HO:=Lib.hid hO
              have HB4:=Lib.hid (HB5.out.trans (hbk4.mono HB5.out.size))
              clear hO hH hHeld hbk4
              go_wp2
              go_ret2
              exact⟨v2,by rw[HZ.out];rfl,fun _=>HO.out.low HB5.out.size,fun e=>absurd HZ.out e,HB4.out⟩
            · refine Gr.step_build_at 39 rfl (by rfl) (.tmp 38) 27 rfl 50 Tryz.underlying27 Gr.info_rn (by decide) (by decide) (Gr.rnCells X).toArray (by rw[List.size_toArray];exact Gr.rnRec.len X HXO.out) (by first | rfl | simp[Act.eval]) ?_
              obtain⟨k2,hYk2⟩:∃ x,x=k1.alloc (.cells (Gr.rnCells X).toArray 50):=⟨_,rfl⟩
              obtain⟨gb,hgb⟩:∃ x,x=k1.heap.size:=⟨_,rfl⟩
              rw[← hYk2,← hgb]
              have hnk2:Below k1.heap.size k1 k2:=by rw[hYk2];exact(Below.refl _ _).alloc (Nat.le_refl _) _
              have hbk2:Below ws.heap.size ws k2:=hbk1.trans (hnk2.mono hbk1.size)
              have hH:Has k2 gb 50 (Gr.rnCells X).toArray:=by rw[hYk2,hgb];exact Has.fresh _ _ _
              replace hO:=hO.below hnk2
              have hne:¬ ge=gb:=by omega
              clear hYk2 hnk2
              refine hK.out _ _ (Held.of hbk2) (fun _=>?_)
              clear hK K
              try simp only[Act.put]
              try simp only[List.setIfInBounds_toArray]
              try simp only[ts0,ts1]
              replace hHeld:=Held.of hbk2
              refine wpAnyH_ready (rs:=[2]) (by kernel_rfl) (by simp) ?_
              refine AllReadyH.cons rfl (fun K hK=>?_) AllReadyH.nil
              refine Gr.step_append_at (R:=Gr.rnRec) 34 rfl (by rfl) (.tmp 32) (.tmp 33) 27 rfl 50 Tryz.underlying27 Gr.info_rn (by kernel_rfl) (by decide) ws.heap.size _ [] (by first | rfl | simp[Act.eval]) hO a n q L (by first | rfl | simp[Act.eval]) (HH.out.below hbk2) HHC.out (by have:=HN.out;simp;omega) hbk2.size ?_
              intro v1 k3 hok3 hgk3 hlk3
              have hbk3:Below ws.heap.size ws k3:=below_own_recs hbk2 hgk3 hO.lt
              replace hH:=hH.moved (Moved.of_grown (F:=fun j=>(Value.slice (some ⟨ge,0,none⟩) 0 0).ownBlock=some j) hgk3 (fun j e=>e)) (fun e=>by have e2:some ge=some gb:=e;exact hne (Option.some.inj e2))
              replace hO:=hok3
              clear hok3 hgk3 hlk3
              refine hK.out _ _ (Held.of hbk3) (fun _=>?_)
              clear hK K
              try simp only[Act.put]
              try simp only[List.setIfInBounds_toArray]
              try simp only[ts0,ts1]
              replace hHeld:=Held.of hbk3
              refine wpAnyH_ready (rs:=[8]) (by kernel_rfl) (by simp) ?_
              refine AllReadyH.cons rfl (fun K hK=>?_) AllReadyH.nil
              refine Gr.step_append_at (R:=Gr.rnRec) 40 rfl (by rfl) (.tmp 34) (.tmp 39) 27 rfl 50 Tryz.underlying27 Gr.info_rn (by kernel_rfl) (by decide) ws.heap.size _ _ (by first | rfl | simp[Act.eval]) hO (some ⟨gb,0,none⟩) 1 1 [X] (by first | rfl | simp[Act.eval]) (Gr.rn_recs HXO.out hH) (fun e=>by cases e) (by have:=HN.out;have:=HH.out.1;simp;omega) hbk3.size ?_
              intro v2 k4 hok4 hgk4 hlk4
              have hbk4:Below ws.heap.size ws k4:=below_own_recs hbk3 hgk4 hO.lt
              replace hO:=hok4
              clear hok4 hgk4 hlk4
              refine hK.out _ _ (Held.of hbk4) (fun _=>?_)
              clear hK K
              try simp only[Act.put]
              try simp only[List.setIfInBounds_toArray]
              try simp only[ts0,ts1]
              replace hHeld:=Held.of hbk4
              refine tka (v:=?_) 9 6 rfl rfl hHeld (Or.inl ⟨by rfl,?_⟩) rfl ?_
              rotate_left
              · intro wq hSw
                go_simp
                try with_reducible rfl
              try simp only[ts0,ts1]
              refine tka (v:=?_) 10 7 rfl rfl hHeld (Or.inl ⟨by rfl,?_⟩) rfl ?_
              rotate_left
              · intro wq hSw
                go_simp
                try with_reducible rfl
              try simp only[ts0,ts1]
              refine wpAnyH_done (by kernel_rfl) ?_ _
              have HO:=Lib.hid hO
              have HB4:=Lib.hid (HB5.out.trans (hbk4.mono HB5.out.size))
              clear hO hH hHeld hbk4
              go_wp2
              go_ret2
              exact⟨v2,by rw[HZ.out];rfl,fun _=>HO.out.low HB5.out.size,fun e=>absurd HZ.out e,HB4.out⟩
          · refine Gr.step_build_at 39 rfl (by rfl) (.tmp 38) 27 rfl 50 Tryz.underlying27 Gr.info_rn (by decide) (by decide) (Gr.rnCells X).toArray (by rw[List.size_toArray];exact Gr.rnRec.len X HXO.out) (by first | rfl | simp[Act.eval]) ?_
            obtain⟨k1,hYk1⟩:∃ x,x=ws.alloc (.cells (Gr.rnCells X).toArray 50):=⟨_,rfl⟩
            obtain⟨gb,hgb⟩:∃ x,x=ws.heap.size:=⟨_,rfl⟩
            rw[← hYk1,← hgb]
            have hnk1:Below ws.heap.size ws k1:=by rw[hYk1];exact(Below.refl _ _).alloc (Nat.le_refl _) _
            have hbk1:Below ws.heap.size ws k1:=hbws.trans (hnk1.mono hbws.size)
            have hH:Has k1 gb 50 (Gr.rnCells X).toArray:=by rw[hYk1,hgb];exact Has.fresh _ _ _
            have hgbs:gb<k1.heap.size:=hH.lt
            clear hYk1 hnk1
            refine hK.out _ _ (Held.of hbk1) (fun _=>?_)
            clear hK K
            try simp only[Act.put]
            try simp only[List.setIfInBounds_toArray]
            try simp only[ts0,ts1]
            replace hHeld:=Held.of hbk1
            refine wpAnyH_ready (rs:=[0]) (by kernel_rfl) (by simp) ?_
            refine AllReadyH.cons rfl (fun K hK=>?_) AllReadyH.nil
            go_simp
            obtain⟨k2,hYk2⟩:∃ x,x=k1.alloc (.cells #[] 50):=⟨_,rfl⟩
            obtain⟨ge,hge⟩:∃ x,x=k1.heap.size:=⟨_,rfl⟩
            rw[← hYk2,← hge]
            have hnk2:Below k1.heap.size k1 k2:=by rw[hYk2];exact(Below.refl _ _).alloc (Nat.le_refl _) _
            have hbk2:Below ws.heap.size ws k2:=hbk1.trans (hnk2.mono hbk1.size)
            have hO:OwnR Gr.rnRec 50 ws.heap.size k2 (.slice (some ⟨ge,0,none⟩) 0 0) []:=OwnR.empty (by rw[hge];exact hbk1.size) (by rw[hYk2,hge];exact Has.fresh _ _ _)
            have hgs:ge<k2.heap.size:=by rw[hYk2,hge];simp
            replace hH:=hH.under hnk2 hH.lt
            have hne:¬ ge=gb:=by omega
            clear hYk2 hnk2
            refine hK.out _ _ (Held.of hbk2) (fun _=>?_)
            clear hK K
            try simp only[Act.put]
            try simp only[List.setIfInBounds_toArray]
            try simp only[ts0,ts1]
            replace hHeld:=Held.of hbk2
            refine wpAnyH_ready (rs:=[2]) (by kernel_rfl) (by simp) ?_
            refine AllReadyH.cons rfl (fun K hK=>?_) AllReadyH.nil
            refine Gr.step_append_at (R:=Gr.rnRec) 34 rfl (by rfl) (.tmp 32) (.tmp 33) 27 rfl 50 Tryz.underlying27 Gr.info_rn (by kernel_rfl) (by decide) ws.heap.size _ [] (by first | rfl | simp[Act.eval]) hO a n q L (by first | rfl | simp[Act.eval]) (HH.out.below hbk2) HHC.out (by have:=HN.out;simp;omega) hbk2.size ?_
            intro v1 k3 hok3 hgk3 hlk3
            have hbk3:Below ws.heap.size ws k3:=below_own_recs hbk2 hgk3 hO.lt
            replace hH:=hH.moved (Moved.of_grown (F:=fun j=>(Value.slice (some ⟨ge,0,none⟩) 0 0).ownBlock=some j) hgk3 (fun j e=>e)) (fun e=>by have e2:some ge=some gb:=e;exact hne (Option.some.inj e2))
            replace hO:=hok3
            clear hok3 hgk3 hlk3
            refine hK.out _ _ (Held.of hbk3) (fun _=>?_)
            clear hK K
            try simp only[Act.put]
            try simp only[List.setIfInBounds_toArray]
            try simp only[ts0,ts1]
            replace hHeld:=Held.of hbk3
            refine wpAnyH_ready (rs:=[8]) (by kernel_rfl) (by simp) ?_
            refine AllReadyH.cons rfl (fun K hK=>?_) AllReadyH.nil
            refine Gr.step_append_at (R:=Gr.rnRec) 40 rfl (by rfl) (.tmp 34) (.tmp 39) 27 rfl 50 Tryz.underlying27 Gr.info_rn (by kernel_rfl) (by decide) ws.heap.size _ _ (by first | rfl | simp[Act.eval]) hO (some ⟨gb,0,none⟩) 1 1 [X] (by first | rfl | simp[Act.eval]) (Gr.rn_recs HXO.out hH) (fun e=>by cases e) (by have:=HN.out;have:=HH.out.1;simp;omega) hbk3.size ?_
            intro v2 k4 hok4 hgk4 hlk4
            have hbk4:Below ws.heap.size ws k4:=below_own_recs hbk3 hgk4 hO.lt
            replace hO:=hok4
            clear hok4 hgk4 hlk4
            refine hK.out _ _ (Held.of hbk4) (fun _=>?_)
            clear hK K
            try simp only[Act.put]
            try simp only[List.setIfInBounds_toArray]
            try simp only[ts0,ts1]
            replace hHeld:=Held.of hbk4
            refine tka (v:=?_) 9 6 rfl rfl hHeld (Or.inl ⟨by rfl,?_⟩) rfl ?_
            rotate_left
            · intro wq hSw
              go_simp
              try with_reducible rfl
            try simp only[ts0,ts1]
            refine tka (v:=?_) 10 7 rfl rfl hHeld (Or.inl ⟨by rfl,?_⟩) rfl ?_
            rotate_left
            · intro wq hSw
              go_simp
              try with_reducible rfl
            try simp only[ts0,ts1]
            refine wpAnyH_done (by kernel_rfl) ?_ _
            have HO:=Lib.hid hO
            have HB4:=Lib.hid (HB5.out.trans (hbk4.mono HB5.out.size))
            clear hO hH hHeld hbk4
            go_wp2
            go_ret2
            exact⟨v2,by rw[HZ.out];rfl,fun _=>HO.out.low HB5.out.size,fun e=>absurd HZ.out e,HB4.out⟩
      · have HZ:=Lib.hid (show Z=6 by rw[HZZ.out,if_pos HC0.out,if_pos HG.out,if_pos rfl])
        go_wp2_with (first
          | (go_at_call 52;refine(HHA.out w4 HB4.out).mono ?_;rintro e w6 ⟨rfl,hb6⟩;have hB6:=HB4.out.trans (hb6.mono HB4.out.size))
          | (refine wpList_load_run rfl 46 (.tmp 9) rfl _ _ rfl lD ?_))
        go_ret2
        exact⟨_,by rw[HZ.out];rfl,fun e=>absurd (HZ.out.symm.trans e) (by decide),fun _=>rfl,hB6⟩
    · have HG:=Lib.hid hg
      have HZ:=Lib.hid (show Z=9 by rw[HZZ.out,if_pos HC0.out,if_neg hg])
      clear hg
      go_wp2_with (first
        | (go_at_call 55;(with_reducible refine(agood_any fee false ⟨fun e=>absurd e Bool.false_ne_true,fun e=>absurd e HG.out⟩ _).mono ?_);rintro e w8 ⟨rfl,rfl⟩)
        | (go_at_call 81;refine HC.out.mono ?_;rintro e w2 ⟨rfl,hb2⟩)
        | (refine wpList_load_run rfl 34 (.tmp 4) rfl _ _ rfl lX ?_))
      go_ret2
      exact⟨_,by rw[HZ.out];rfl,fun e=>absurd (HZ.out.symm.trans e) (by decide),fun _=>rfl,HB1.out.trans (hb2.mono HB1.out.size)⟩
  · have HZ:=Lib.hid (show Z=c1 by rw[HZZ.out,if_neg h0])
    have H0:=Lib.hid h0
    go_wp2_with (first
      | (go_at_call 81;refine HC.out.mono ?_;rintro e w2 ⟨rfl,hb2⟩)
      | (refine wpList_load_run rfl 34 (.tmp 4) rfl _ _ rfl lX ?_))
    go_ret2
    exact⟨_,by rw[HZ.out];rfl,fun e=>absurd (HZ.out.symm.trans e) H0.out,fun _=>rfl,HB1.out.trans (hb2.mono HB1.out.size)⟩
end Go.Proofs.YtijemcfnlbapjaaGreatDoor
namespace Go.Proofs.YtijemcfnlbapjaaGreatDoor
open Go Go.RowKit
namespace Gr
abbrev Key:=Tx.T×List (BitVec 8)×Int
def spends (t:Tx.T) (id:List (BitVec 8)) (c:Nat):Bool:=t.sp.any fun s=>decide (s.h=id∧0≤s.n∧s.n<(c:Int))
def kn (up:Bool) (k k':Key):Bool:=if up then spends k.1 k'.2.1 k'.1.co.length else spends k'.1 k.2.1 k.1.co.length
def rfnd (L:List Rn) (id:List (BitVec 8)):Option Rn:=L.find? fun x=>decide (id=x.id)
def rnear (up:Bool) (L:List Rn) (id:List (BitVec 8)):List (List (BitVec 8)):=
  match rfnd L id with
  | none=>[]
  | some x=>(L.filter fun k=>kn up x.key k.key).map (·.id)
inductive RReach (up:Bool) (L:List Rn) (I:List (List (BitVec 8))):List (BitVec 8)→Prop
  | base {a:List (BitVec 8)} : a∈L.map (·.id)→a∈I→RReach up L I a
  | step {a b:List (BitVec 8)} : RReach up L I a→b∈rnear up L a→RReach up L I b
section
variable {w:World} {g bn bs:Nat} {M:List Nd} {nx:Nat} {L:List Rn} {up:Bool} {I:List (List (BitVec 8))}
theorem Sim.ids (h:Sim M L):M.map (·.id)=L.map (·.id):=by
  have h2:=congrArg (List.map (fun k:Key=>k.2.1)) (show M.map Nd.key=L.map Rn.key from h)
  rw[List.map_map,List.map_map] at h2
  exact h2
theorem find_is (hi:∀ x y,x∈M→y∈M→x.id=y.id→x=y) {x:Nd} {id:List (BitVec 8)} : find M id=some x↔x∈M∧x.id=id:=by
  refine⟨find_mem,fun⟨hx,e⟩=>?_⟩
  cases hf:find M id with
  | none=>exact absurd e (find_none.1 hf x hx)
  | some y=>
    obtain⟨hy,e2⟩:=find_mem hf
    rw[hi y x hy hx (e2.trans e.symm)]
theorem near_up (h:At w g bn bs M nx) {x z:Nd} (hz:z∈M):z∈near true M x↔spends x.x.t z.id z.x.t.co.length=true:=by
  have hm:z.x.m=z.x.t.co.length:=(h.grp.nd z hz).at.co.1.symm
  have e:near true M x=x.pts.filterMap (maker M):=rfl
  rw[e,List.mem_filterMap]
  unfold spends
  rw[List.any_eq_true]
  constructor
  · rintro ⟨p,hp,hq⟩
    obtain⟨s,hs,rfl⟩:=List.mem_map.1 hp
    obtain⟨h1,h2,h3⟩:=maker_some.1 hq
    refine⟨s,hs,decide_eq_true ⟨(find_mem h1).2.symm,h2,?_⟩⟩
    rw[← hm]
    exact h3
  · rintro ⟨s,hs,hd⟩
    obtain⟨h1,h2,h3⟩:=of_decide_eq_true hd
    rw[← hm] at h3
    exact⟨(s.h,s.n),List.mem_map.2 ⟨s,hs,rfl⟩,maker_some.2 ⟨(find_is h.grp.inj).2 ⟨hz,h1.symm⟩,h2,h3⟩⟩
theorem near_dn (h:At w g bn bs M nx) {x z:Nd} (hx:x∈M) (hz:z∈M):z∈near false M x↔spends z.x.t x.id x.x.t.co.length=true:=by
  have hm:x.x.m=x.x.t.co.length:=(h.grp.nd x hx).at.co.1.symm
  have e:near false M x=((List.range x.x.m).map fun(i:Nat)=>(x.id,(i:Int))).filterMap (spd M):=rfl
  rw[e,List.mem_filterMap]
  unfold spends
  rw[List.any_eq_true]
  constructor
  · rintro ⟨p,hp,hq⟩
    obtain⟨i,hi,rfl⟩:=List.mem_map.1 hp
    have hi:=List.mem_range.1 hi
    obtain⟨s,hs,e⟩:=List.mem_map.1 (spd_mem hq).2
    have e1:s.h=x.id:=congrArg Prod.fst e
    have e2:s.n=(i:Int):=congrArg Prod.snd e
    exact⟨s,hs,decide_eq_true ⟨e1,by omega,by omega⟩⟩
  · rintro ⟨s,hs,hd⟩
    obtain⟨h1,h2,h3⟩:=of_decide_eq_true hd
    obtain⟨i,hi⟩:∃ i:Nat,s.n=(i:Int):=⟨s.n.toNat,by omega⟩
    refine⟨(x.id,(i:Int)),List.mem_map.2 ⟨i,List.mem_range.2 (by omega),rfl⟩,?_⟩
    have hp:(x.id,(i:Int))∈z.pts:=List.mem_map.2 ⟨s,hs,by rw[h1,hi]⟩
    exact spd_uniq hz hp (fun y hy hy2=>h.dis y z _ hy hz hy2 hp)
theorem near_kn (h:At w g bn bs M nx) {x z:Nd} (hx:x∈M) (hz:z∈M):z∈near up M x↔kn up x.key z.key=true:=by
  cases up
  · exact near_dn h hx hz
  · exact near_up h hz
theorem Sim.fnd (h:Sim M L) (id:List (BitVec 8)):(Gr.find M id).map Nd.key=(rfnd L id).map Rn.key:=h.find fun k=>decide (id=k.2.1)
theorem Sim.rnear (h:Sim M L) (hA:At w g bn bs M nx) {x:Nd} (hx:x∈M):Gr.rnear up L x.id=(M.filter fun z=>kn up x.key z.key).map (·.id):=by
  have h1:=h.fnd x.id
  rw[(find_is hA.grp.inj).2 ⟨hx,rfl⟩] at h1
  cases hr:rfnd L x.id with
  | none=>rw[hr] at h1;cases h1
  | some y=>
    rw[hr] at h1
    have e:x.key=y.key:=Option.some.inj h1
    have h2:=(h.keep fun k=>kn up x.key k).ids
    unfold Gr.rnear
    rw[hr]
    show(L.filter fun k=>kn up y.key k.key).map (·.id)=_
    rw[← e]
    exact h2.symm
theorem Sim.nearL (h:Sim M L) (hA:At w g bn bs M nx) {id:List (BitVec 8)} {G:List Nd} (hG:G.Pairwise (fun x y=>x.pl<y.pl)) (hm:∀ z,z∈G↔z∈M∧∃ x,Gr.find M id=some x∧z∈near up M x):G.map (·.id)=Gr.rnear up L id:=by
  cases hf:Gr.find M id with
  | none=>
    have h1:=h.fnd id
    rw[hf] at h1
    cases hr:rfnd L id with
    | some y=>rw[hr] at h1;cases h1
    | none=>
      have e:G=[]:=List.eq_nil_iff_forall_not_mem.2 fun z hz=>by
        obtain⟨_,x,hx,_⟩:=(hm z).1 hz
        rw[hf] at hx
        cases hx
      rw[e]
      unfold Gr.rnear
      rw[hr]
      rfl
  | some x=>
    obtain⟨hx,e⟩:=find_mem hf
    subst e
    rw[h.rnear hA hx]
    congr 1
    refine sorted_eq hG (List.Pairwise.filter _ hA.ord) fun z=>?_
    rw[hm,List.mem_filter]
    refine and_congr_right fun hz=>?_
    rw[← near_kn hA hx hz]
    constructor
    · rintro ⟨y,hy,hn⟩
      rw[hf] at hy
      rw[Option.some.inj hy]
      exact hn
    · exact fun hn=>⟨x,hf,hn⟩
theorem Sim.reach1 (h:Sim M L) (hA:At w g bn bs M nx) {z:Nd} (hr:Reach up M I z):RReach up L I z.id:=by
  induction hr with
  | base hz hi=>exact .base (by rw[← h.ids];exact List.mem_map.2 ⟨_,hz,rfl⟩) hi
  | step hx hn ih=>
    have hz:=near_mem hn
    refine .step ih ?_
    rw[h.rnear hA hx.mem]
    exact List.mem_map.2 ⟨_,List.mem_filter.2 ⟨hz,(near_kn hA hx.mem hz).1 hn⟩,rfl⟩
theorem Sim.reach2 (h:Sim M L) (hA:At w g bn bs M nx) {id:List (BitVec 8)} (hr:RReach up L I id):∃ z,z∈M∧z.id=id∧Reach up M I z:=by
  induction hr with
  | base ha hi=>
    rw[← h.ids] at ha
    obtain⟨z,hz,rfl⟩:=List.mem_map.1 ha
    exact⟨z,hz,rfl,.base hz hi⟩
  | step _ hn ih=>
    obtain⟨x,hx,rfl,hrx⟩:=ih
    rw[h.rnear hA hx] at hn
    obtain⟨z,hz,rfl⟩:=List.mem_map.1 hn
    obtain⟨hz,hk⟩:=List.mem_filter.1 hz
    exact⟨z,hz,rfl,.step hrx ((near_kn hA hx hz).2 hk)⟩
theorem Sim.reach (h:Sim M L) (hA:At w g bn bs M nx) {z:Nd} (hz:z∈M):Reach up M I z↔RReach up L I z.id:=by
  refine⟨h.reach1 hA,fun hr=>?_⟩
  obtain⟨y,hy,e,hry⟩:=h.reach2 hA hr
  rw[hA.grp.inj z y hz hy e.symm]
  exact hry
theorem Sim.those (h:Sim M L) (ho:M.Pairwise (fun x y=>x.pl<y.pl)) {G:List Nd} (hG:G.Pairwise (fun x y=>x.pl<y.pl)) (P:Key→Bool) (hm:∀ z,z∈G↔z∈M∧P z.key=true):G.map (·.id)=(L.filter fun x=>P x.key).map (·.id):=by
  have e:G=M.filter (P∘Nd.key):=sorted_eq hG (List.Pairwise.filter _ ho) fun z=>by rw[hm,List.mem_filter];rfl
  rw[e]
  exact(h.keep P).ids
theorem Sim.reached (h:Sim M L) (hA:At w g bn bs M nx) {G:List Nd} (hG:G.Pairwise (fun x y=>x.pl<y.pl)) (hm:∀ z,z∈G↔z∈M∧Reach up M I z) {K:List (List (BitVec 8))} (hK:∀ id,id∈K↔RReach up L I id):G.map (·.id)=(L.filter fun x=>decide (x.id∈K)).map (·.id):=
  h.those hA.ord hG (fun k=>decide (k.2.1∈K)) fun z=>by
    rw[hm]
    refine and_congr_right fun hz=>?_
    rw[h.reach hA hz,← hK]
    exact(decide_eq_true_iff (p:=z.id∈K)).symm
theorem Sim.allids (h:Sim M L) (ho:M.Pairwise (fun x y=>x.pl<y.pl)) {G:List Nd} (hG:G.Pairwise (fun x y=>x.pl<y.pl)) (hm:∀ z,z∈G↔z∈M∧True):G.map (·.id)=L.map (·.id):=by
  rw[← h.ids]
  congr 1
  exact sorted_eq hG ho fun z=>by rw[hm,and_true]
end
end Gr
end Go.Proofs.YtijemcfnlbapjaaGreatDoor
