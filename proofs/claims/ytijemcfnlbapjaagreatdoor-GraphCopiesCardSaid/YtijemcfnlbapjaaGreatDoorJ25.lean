/- package graph: Remove (mkgrm.py) · Acts and lists of transactions, as arguments of the laws of coins · law 14: acts as arguments; long (mkgro.py) -/
import Derived.Test.YtijemcfnlbapjaaGreatDoorJ24
import Derived.Test.YtijemcfnlbapjaaGreatDoorJ04
import Derived.Deep.RegionLaw
namespace Go.Proofs.YtijemcfnlbapjaaGreatDoor
open Go Go.RowKit Go.ChangeShapes Go.WideShapes
theorem Gr.info_tx:(Tryz.prog.info? 34).map (fun i=>(i.zero,i.size,i.bytes))=some (some (.agg zTx),vRec.k,56):=by kernel_rfl
theorem Gr.recs_one' {α:Type} {R:Rec α} {T:TypeId} {w:World} {x:α} (hx:R.ok x) {cs:Array Value} (hcs:cs=(R.cells x).toArray):Recs R (w.alloc (.cells cs T)) (some ⟨w.heap.size,0,none⟩) 1 [x]:=
  recs_fresh (R:=R) (L:=[x]) (fun t ht=>by rw[List.mem_singleton.1 ht];exact hx) (Has.fresh _ _ _) (by show 1≤maxLen;unfold maxLen;omega) (fun j u hj=>by
    rw[hcs,List.getElem?_toArray]
    simpa [Rec.row] using hj)
theorem Gr.txown_moved {B:Nat} {G:Nat→Prop} {w w':World} {a b:Option Addr} {n q m r:Nat} {t:Tx.T} (h:TxOwn B w a n q b m r t) (hm:Moved G w w') (h1:∀ j,(Value.slice a n q).ownBlock=some j→¬ G j) (h2:∀ j,(Value.slice b m r).ownBlock=some j→¬ G j):TxOwn B w' a n q b m r t:=⟨h.sp.moved hm h1,h.co.moved hm h2⟩
abbrev Gr.VOwn (B:Nat) (w:World) (x:Tx.V):Prop:=TxOwn B w x.a x.n x.q x.b x.m x.r x.t
structure Gr.TxsOwn (B:Nat) (w:World) (v:Value) (vs:List Tx.V):Prop where
  o:OwnR vRec 34 B w v vs
  ts:∀ x,x∈vs→Gr.VOwn B w x
section
variable {B:Nat} {w w':World} {v:Value} {vs:List Tx.V}
theorem Gr.TxsOwn.nil (B:Nat) (w:World):Gr.TxsOwn B w (.slice none 0 0) []:=⟨OwnR.nil _ _ _ _,(fun _ h=>by cases h)⟩
theorem Gr.TxsOwn.below (h:Gr.TxsOwn B w v vs) (hb:Below w.heap.size w w'):Gr.TxsOwn B w' v vs:=⟨h.o.below hb,fun x hx=>(h.ts x hx).below hb⟩
theorem Gr.TxsOwn.low {D:Nat} (h:Gr.TxsOwn B w v vs) (hD:D≤B):Gr.TxsOwn D w v vs:=⟨h.o.low hD,fun x hx=>(h.ts x hx).low hD⟩
theorem Gr.TxsOwn.moved {G:Nat→Prop} (h:Gr.TxsOwn B w v vs) (hm:Moved G w w') (hG:∀ j,G j→j<w.heap.size→j<B):Gr.TxsOwn B w' v vs:=
  ⟨h.o.moved hm (fun j hj e=>by have:=h.o.lt_size j hj;have:=hG j e this.2;omega),
    fun x hx=>Gr.txown_moved (h.ts x hx) hm (fun j hj e=>by have:=(h.ts x hx).sp.lt_size j hj;have:=hG j e this.2;omega) (fun j hj e=>by have:=(h.ts x hx).co.lt_size j hj;have:=hG j e this.2;omega)⟩
theorem Gr.TxsOwn.push {x:Tx.V} {v':Value} (h:Gr.TxsOwn B w v vs) (hx:Gr.VOwn B w x) (hg:w.grownBy w' v.ownBlock) (ho:OwnR vRec 34 B w' v' (vs++[x])):Gr.TxsOwn B w' v' (vs++[x]):=by
  have hm:Moved (fun j=>v.ownBlock=some j) w w':=Moved.of_grown hg (fun k e=>e)
  have hat:∀ y:Tx.V,Gr.VOwn B w y→Gr.VOwn B w' y:=fun y hy=>Gr.txown_moved hy hm (fun j hj e=>by
    obtain⟨c1,h1⟩:=ownr_block hy.sp hj
    obtain⟨c2,h2⟩:=ownr_block h.o e
    exact Has.ne_type h1 h2 (by decide) rfl) (fun j hj e=>by
    obtain⟨c1,h1⟩:=ownr_block hy.co hj
    obtain⟨c2,h2⟩:=ownr_block h.o e
    exact Has.ne_type h1 h2 (by decide) rfl)
  exact⟨ho,fun y hy=>(List.mem_append.1 hy).elim (fun hy=>hat y (h.ts y hy)) (fun hy=>by rw[List.mem_singleton.1 hy];exact hat x hx)⟩
theorem Gr.TxsOwn.shape {K:Nat} (h:Gr.TxsOwn B w v vs) (hK:vs.length=K):∃ a c,v=.slice a K c∧K≤c∧(a=none→c=0)∧Txs w a K vs:=by
  obtain⟨a,c,e,hc,h0,_,hr⟩:=h.o.shape hK
  exact⟨a,c,e,hc,h0,hr,fun x hx=>(h.ts x hx).at⟩
end
namespace Gr
def rest (M:List Nd) (I:List (List (BitVec 8))):List Nd:=M.filter fun y=>decide (y.id∉I)
theorem rest_nil (M:List Nd):rest M []=M:=List.filter_eq_self.2 fun y _=>decide_eq_true (by simp)
theorem less_rest (M:List Nd) (I:List (List (BitVec 8))) (x:Nd):less (rest M I) x=rest M (I++[x.id]):=by
  unfold less rest
  rw[List.filter_filter]
  congr 1
  funext y
  rw[Bool.eq_iff_iff]
  simp only[Bool.and_eq_true,decide_eq_true_eq,List.mem_append,List.mem_singleton,not_or,ne_eq]
  exact And.comm
theorem rest_mem {M:List Nd} {I:List (List (BitVec 8))} {y:Nd} : y∈rest M I↔y∈M∧y.id∉I:=by
  unfold rest
  rw[List.mem_filter,decide_eq_true_eq]
def RemPost (w0:World) (g bn bs:Nat) (M:List Nd) (nx:Nat) (I:List (List (BitVec 8))) (e:Ending) (w':World):Prop:=
  ∃ (v:Value) (vs:List Tx.V) (L:List Nd),e=.returned v∧TxsOwn w0.heap.size w' v vs∧vs.map (·.t)=L.map (·.x.t)∧L.Pairwise (fun x y=>x.pl<y.pl)∧(∀ z,z∈L↔z∈M∧z.id∈I)∧At w' g bn bs (rest M I) nx∧Moved (fun j=>j=g∨j=bn∨j=bs) w0 w'
end Gr
set_option maxRecDepth 100000 in
set_option maxHeartbeats 8000000 in
theorem gRemove_any {w:World} {g bn bs:Nat} {M:List Gr.Nd} {nx:Nat} (h:Gr.At w g bn bs M nx) (a:Option Addr) (n q:Nat) (I:List (List (BitVec 8))) (hI:Recs Gr.hsRec w a n I) (hn:n≤1000) :
    Calls Tryz.prog 40 #[.pointer (some ⟨g,0,none⟩),.slice a n q] w (Gr.RemPost w g bn bs M nx I):=by
  have HH:=Lib.hid h
  have HF:=Lib.hid (show ∀ j,j=g∨j=bn∨j=bs→j<w.heap.size from fun j hj=>by
    rcases hj with e | e | e
    · rw[e];exact h.has.lt
    · rw[e];exact h.grp.map.lt
    · obtain⟨S,hS,_⟩:=h.sp
      rw[e];exact hS.lt)
  have HS:=Lib.hid (gsome_any h.has h.grp a n q I hI (by omega) h.grp.inj)
  unfold Gr.RemPost
  clear h hI
  go_enter Tryz.func40,Tryz.ntmps40
  go_wp2_with (first
    | (go_at_call 50;refine HS.out.mono ?_;rintro e w2 ⟨b2,L2,rfl,hlb2,hg2,hz2,hn2,hb2⟩;have HO:=Lib.hid (ginorder_any hg2 (by omega) (Gr.pls_of (fun x y hx hy=>(HH.out).pl_inj x y ((hz2 x).1 hx).1 ((hz2 y).1 hy).1) hg2)))
    | (go_at_call 77;refine HO.out.mono ?_;rintro e w3 ⟨v3,L,rfl,ho3,hp3,hw3,hb3⟩;obtain⟨a1,c1,rfl,hs1⟩:=Gr.own_shape ho3;obtain⟨m,hm⟩:∃ m,m=L.length:=⟨_,rfl⟩;rw[← hm];have HM:=Lib.hid hm;clear hm))
  have hB3:Below w.heap.size w w3:=hb2.trans (hb3.mono hb2.size)
  have hmx:m≤9223372036854775807:=by rw[HM.out,hp3.length_eq];omega
  have HM1:=Lib.hid (show m≤1000 by rw[HM.out,hp3.length_eq];omega)
  have HL:=Lib.hid (show ∀ z,z∈L↔z∈M∧z.id∈I from fun z=>by rw[hp3.mem_iff,hz2])
  have HW:=Lib.hid hw3
  have HO3:=Lib.hid (ho3.low hb2.size)
  have HA3:=Lib.hid (HH.out.below hB3)
  have HB3:=Lib.hid hB3
  have HT0:RowKit.Hid (Gr.TxsOwn w3.heap.size w3 (.slice none 0 0) []):=Lib.hid (Gr.TxsOwn.nil _ _)
  clear hp3 hw3 ho3 hb2 hb3 hz2 hg2 hn2 hs1 hB3 HS HO
  go_loopw [5,13] (fun sv iv wr=>∃ (i:Nat) (ov:Value) (vs:List Tx.V),i≤m∧iv=.int .i64 i∧ov=sv∧RowKit.Hid (Gr.TxsOwn w3.heap.size wr ov vs)∧RowKit.Hid (vs.map (·.t)=(L.take i).map (·.x.t))∧RowKit.Hid (Gr.At wr g bn bs (Gr.rest M ((L.take i).map (·.id))) nx)∧RowKit.Hid (Moved (fun j=>j=g∨j=bn∨j=bs) w3 wr)) (fun _ iv _=>m-(intOf iv).toNat)
  case atStart=>exact⟨0,_,[],Nat.zero_le _,rfl,rfl,HT0,Lib.hid (by simp),Lib.hid (by rw[List.take_zero,List.map_nil,Gr.rest_nil];exact HA3.out),Lib.hid (Moved.refl _ _)⟩
  case round=>
    clear HT0
    obtain⟨i,ov,vs,hi,rfl,rfl,HT,HV,HA,HMR⟩:=hrel
    by_cases hlt:i<m
    · have hii:(i:Int)<(m:Int):=by omega
      have hi0:(0:Int)≤(i:Int):=by omega
      obtain⟨y,hy⟩:∃ y,L[i]? = some y:=⟨_,List.getElem?_eq_getElem (by have:=HM.out;omega)⟩
      obtain⟨a5,c5,he5,hs5⟩:=Gr.own_shape (HO3.out.moved HMR.out (fun k hk e=>by have:=HO3.out.lt k hk;have:=HF.out k e;omega))
      injection he5 with he6 he7 he8
      subst he6
      obtain⟨gl,rfl,hgB,hgl,hcell⟩:=hs5 i y hy
      have hyL:=List.mem_of_getElem? hy
      have hyM:=((HL.out y).1 hyL).1
      have hT:L.take (i+1)=L.take i++[y]:=by
        obtain⟨h2,h3⟩:=List.getElem?_eq_some_iff.1 hy
        rw[List.take_succ_eq_append_getElem h2,h3]
      have HTT:=Lib.hid hT
      have hyr:y∈Gr.rest M ((L.take i).map (·.id)):=Gr.rest_mem.2 ⟨hyM,fun e=>by
        obtain⟨z,hz,e⟩:=List.mem_map.1 e
        obtain⟨j,hj,rfl⟩:=List.mem_iff_getElem.1 hz
        rw[List.length_take] at hj
        rw[List.getElem_take] at e
        have hzy:=HH.out.grp.inj _ y ((HL.out _).1 (List.getElem_mem (by omega))).1 hyM e
        obtain⟨h2,h3⟩:=List.getElem?_eq_some_iff.1 hy
        have:=List.pairwise_iff_getElem.1 HW.out j i (by omega) h2 (by omega)
        rw[hzy,h3] at this
        omega⟩
      have HD:=Lib.hid (gdrop_any HA.out y hyr)
      rw[Gr.less_rest] at HD
      have HYM:=Lib.hid hyM
      have HI:=Lib.hid (show(L.take (i+1)).map (·.id)=(L.take i).map (·.id)++[y.id] by rw[hT,List.map_append];rfl)
      have HVL:=Lib.hid (show vs.length=i by have:=congrArg List.length HV.out;rw[List.length_map,List.length_map,List.length_take] at this;have:=HM.out;omega)
      obtain⟨ya,hya⟩:∃ u,u=y.x:=⟨_,rfl⟩
      have HYA:=Lib.hid hya
      have hws:w3.heap.size≤wr.heap.size:=HMR.out.size
      clear hy hyL hyM hyr hT hs5 hgB he7 he8 hya
      go_wp2_with (first
        | (at_builtin;refine wpList_append_recs (R:=vRec) rfl (.tmp 20) (.tmp 26) 82 rfl 34 Tryz.underlying82 Gr.info_tx rfl (by decide) w3.heap.size ov vs rfl (HT6.out.o.below ((Below.refl _ _).alloc (Nat.le_refl _) _)) (some ⟨w6.heap.size,0,none⟩) 1 1 [⟨a',ya.n,q',b',ya.m,r',ya.t⟩] rfl (Gr.recs_one' trivial rfl) (fun e=>by cases e) (by rw[HVL.out];have:=HM1.out;omega) (by have:=HS6.out;simp;omega) ?_;intro v' w7 ho' hg' hl')
        | (refine wpList_build_row rfl (.tmp 25) 82 rfl 34 Tryz.underlying82 Gr.info_tx (by decide) (by decide) #[.slice a' ya.n q',.slice b' ya.m r',.bool ya.t.firm] rfl rfl ?_)
        | (go_at_call 78;refine HD.out.mono ?_;rintro e w5 ⟨rfl,hA5,hm5⟩;have HA5:=Lib.hid hA5;have HM5:=Lib.hid (HMR.out.trans hm5 (fun k hk=>.inl hk));have HT5:=Lib.hid (HT.out.moved hm5 (fun j hj _=>Nat.lt_of_lt_of_le (HF.out j hj) HB3.out.size));have hN5:=(HA3.out.grp.nd y HYM.out).moved HM5.out (fun j hj e=>by have:=HH.out.fr y HYM.out j hj;rcases e with e | e | e<;>omega);have ltx:=hN5.ltx;rw[← HYA.out] at ltx;have HCP:=Lib.hid (pcopy_any y.x.a y.x.n y.x.q y.x.b y.x.m y.x.r y.x.t y.x.t.firm rfl w5 hN5.at (by have:=hN5.sm.1;have:=hN5.at.sp.1;omega) (by have:=hN5.sm.2.1;have:=hN5.at.co.1;omega));rw[← HYA.out] at HCP;have HS5:=Lib.hid (show w3.heap.size≤w5.heap.size by have:=hm5.size;omega);clear hA5 hm5 hN5)
        | (go_at_call 57;refine HCP.out.mono ?_;rintro e w6 ⟨a',q',b',r',rfl,hto,hbc⟩;have HT6:=Lib.hid (HT5.out.below hbc);have HTO:=Lib.hid (hto.low HS5.out);have HBC:=Lib.hid hbc;have HS6:=Lib.hid (show w3.heap.size≤w6.heap.size by have:=hbc.size;have:=HS5.out;omega);clear hto hbc)
        | (refine wpList_load_run rfl 34 (.tmp 23) rfl _ _ rfl ltx ?_))
      have hal:Below w6.heap.size w6 (w6.alloc (.cells #[.slice a' ya.n q',.slice b' ya.m r',.bool ya.t.firm] 34)):=(Below.refl _ _).alloc (Nat.le_refl _) _
      have hb67:Below w3.heap.size w6 w7:=(hal.mono HS6.out).grown hg' (by have:=HS6.out;simp;omega) HT6.out.o.lt
      have HT7:=Lib.hid (Gr.TxsOwn.push (x:=⟨a',ya.n,q',b',ya.m,r',ya.t⟩) (HT6.out.below hal) (HTO.out.below hal) hg' ho')
      have HA7:=Lib.hid (show Gr.At w7 g bn bs (Gr.rest M ((L.take (i+1)).map (·.id))) nx by
        rw[HI.out]
        refine(HA5.out.below HBC.out).moved (moved_below hb67) (fun j hj=>?_)
        have hlt3:=HB3.out.size
        refine⟨fun e=>?_,fun e=>?_,fun e=>?_,fun x hx e=>?_⟩
        · have:=HF.out j (.inl e);omega
        · have:=HF.out j (.inr (.inl e));omega
        · have:=HF.out j (.inr (.inr e));omega
        · have:=(HH.out.grp.nd x (Gr.rest_mem.1 hx).1).lt e;omega)
      have HM7:=Lib.hid (show Moved (fun j=>j=g∨j=bn∨j=bs) w3 w7 from(HM5.out.then HBC.out).trans (moved_below hb67) (fun k hk=>.inr hk))
      have HV7:=Lib.hid (show(vs++[(⟨a',ya.n,q',b',ya.m,r',ya.t⟩:Tx.V)]).map (·.t)=(L.take (i+1)).map (·.x.t) by rw[HTT.out,List.map_append,List.map_append,HV.out,HYA.out];rfl)
      clear ho' hg' hl' hal hb67 ltx hcell
      go_roundw
      case rel=>exact⟨i+1,v',_,by omega,by go_num,rfl,HT7,HV7,HA7,HM7⟩
      case measure=>(simp[intOf];try omega)
    · have hii:¬ (i:Int)<(m:Int):=by omega
      obtain rfl:i=m:=by omega
      have hT:L.take i=L:=List.take_of_length_le (by rw[HM.out];exact Nat.le_refl _)
      have HVV:=Lib.hid (show vs.map (·.t)=L.map (·.x.t) by rw[HV.out,hT])
      have HAA:=Lib.hid (show Gr.At wr g bn bs (Gr.rest M I) nx by
        have h1:=HA.out
        rw[hT] at h1
        have e:Gr.rest M (L.map (·.id))=Gr.rest M I:=by
          unfold Gr.rest
          apply List.filter_congr
          intro y hy
          rw[Bool.eq_iff_iff,decide_eq_true_eq,decide_eq_true_eq]
          refine not_congr ⟨fun e=>?_,fun e=>List.mem_map.2 ⟨y,(HL.out y).2 ⟨hy,e⟩,rfl⟩⟩
          obtain⟨z,hz,e⟩:=List.mem_map.1 e
          rw[← e]
          exact((HL.out z).1 hz).2
        rw[e] at h1
        exact h1)
      clear hT
      go_wp2
      go_ret
      exact⟨ov,rfl,vs,HT.out.low HB3.out.size,L,HVV.out,HW.out,HL.out,HAA.out,(Moved.of_below HB3.out).trans HMR.out (fun k hk=>.inl hk)⟩
end Go.Proofs.YtijemcfnlbapjaaGreatDoor
namespace Go.Proofs.YtijemcfnlbapjaaGreatDoor
open Go Go.RowKit Go.ChangeShapes Go.WideShapes
section
variable {H:Type} {enc:TypeId×Value→H} {W:World}
set_option maxRecDepth 100000 in
theorem open_txv {fuel:Nat} {cs:List Value} {x:DataW H×List MemPlace} (h:DataW.trod enc Tryz.prog W 0 (fun _=>true) true fuel 34 cs=some x):∃ v:Tx.V,cs=vCells v∧v.At W:=by
  obtain⟨xs,k,_,_,hlen,hxl,hg⟩:=DataW.trod_struct Tryz.underlying34 h
  have hl:cs.length=3:=hlen.trans (by kernel_rfl)
  have hx3:xs.length=3:=hxl
  have c0:Tryz.prog.cellsOf 31=1:=by kernel_rfl
  have c1:Tryz.prog.cellsOf 32=1:=by kernel_rfl
  have c2:Tryz.prog.cellsOf 4=1:=by kernel_rfl
  have g0:DataW.trod enc Tryz.prog W 0 (fun _=>true) true k 31 ((cs.drop 0).take (Tryz.prog.cellsOf 31))=xs[0]?:=hg 0 _ rfl
  have g1:DataW.trod enc Tryz.prog W 0 (fun _=>true) true k 32 ((cs.drop 1).take (Tryz.prog.cellsOf 32))=xs[1]?:=hg 1 _ rfl
  have g2:DataW.trod enc Tryz.prog W 0 (fun _=>true) true k 4 ((cs.drop 2).take (Tryz.prog.cellsOf 4))=xs[2]?:=hg 2 _ rfl
  rw[List.getElem?_eq_getElem (by omega)] at g0 g1 g2
  rw[c0] at g0
  rw[c1] at g1
  rw[c2] at g2
  match cs,hl with
  | [d0,d1,d2],_=>
    have t0:DataW.trod enc Tryz.prog W 0 (fun _=>true) true k 31 [d0]=some _:=g0
    have t1:DataW.trod enc Tryz.prog W 0 (fun _=>true) true k 32 [d1]=some _:=g1
    have t2:DataW.trod enc Tryz.prog W 0 (fun _=>true) true k 4 [d2]=some _:=g2
    obtain⟨a,n,q,L,rfl,hL,hnq,hq0⟩:=open_recs (R:=spRec) Tryz.underlying31 (by kernel_rfl) open_spend t0
    obtain⟨b,m,r,M,rfl,hM,hmr,hr0⟩:=open_recs (R:=coRec) Tryz.underlying32 (by kernel_rfl) open_coin t1
    obtain⟨f,hc,_⟩:=DataW.trod_bool Tryz.underlying4 t2
    obtain⟨rfl,_⟩:=List.cons.inj hc
    exact⟨⟨a,n,q,b,m,r,⟨L,M,f⟩⟩,rfl,hL,hM,hnq,hmr,hq0,hr0⟩
end
namespace Cs
structure Ac where
  kind:Int
  p:Pt
  c:Tx.Co
  v:Tx.V
  sa:Option Addr
  sn:Nat
  sq:Nat
  sp:List Tx.Co
end Cs
def acCells (x:Cs.Ac):List Value:=[.int .i64 x.kind]++(ptCells x.p.1 x.p.2++(coCells x.c++(vCells x.v++[.slice x.sa x.sn x.sq])))
structure Cs.Ac.At (W:World) (x:Cs.Ac):Prop where
  kind:-9223372036854775808≤x.kind∧x.kind<9223372036854775808
  pt:Cs.ptOk x.p
  co:Tx.CoOk x.c
  tx:x.v.At W
  sp:Recs coRec W x.sa x.sn x.sp
  sq:x.sn≤x.sq∧(x.sa=none→x.sq=0)
section
variable {H:Type} {enc:TypeId×Value→H} {W:World}
end
section
variable {H:Type} {enc:TypeId×Value→H} {W:World} {base:Nat} {v:Value} {d:DataW H} {p:List MemPlace}
end
end Go.Proofs.YtijemcfnlbapjaaGreatDoor
namespace Go.Proofs.YtijemcfnlbapjaaGreatDoor
open Go Go.RowKit Go.ChangeShapes Go.WideShapes
namespace Gr
structure Ac where
  v:Tx.V
  fee:Int
  a:Option Addr
  n:Nat
  q:Nat
  ids:List (List (BitVec 8))
def acCells (x:Ac):List Value:=vCells x.v++[.int .i64 x.fee,.slice x.a x.n x.q]
structure Ac.At (W:World) (x:Ac):Prop where
  v:x.v.At W
  fee:-9223372036854775808≤x.fee∧x.fee<9223372036854775808
  ids:Recs hsRec W x.a x.n x.ids
  nq:x.n≤x.q∧(x.a=none→x.q=0)
theorem Ac.At.below {w w':World} {x:Ac} (h:x.At w) (hb:Below w.heap.size w w'):x.At w':=⟨TxAt.below h.v hb,h.fee,h.ids.below hb,h.nq⟩
def acIn14 (W:World):Rec Ac where
  k:=5
  cells:=acCells
  ok:=fun x=>x.At W
  pos:=by omega
  len t _:=rfl
  one x v hv:=by
    unfold acCells at hv
    rcases List.mem_append.1 hv with h | h
    · exact vRec.one x.v v h
    · simp at h
      rcases h with rfl | rfl<;>rfl
abbrev zAc14:Array Value:=#[.slice none 0 0,.slice none 0 0,.bool false,.int .i64 0,.slice none 0 0]
theorem size_ac14 (W:World):(Tryz.prog.info? 88).map (·.size)=some (acIn14 W).k:=by kernel_rfl
section
variable {H:Type} {enc:TypeId×Value→H} {W:World}
theorem open_hs {fuel:Nat} {cs:List Value} {x:DataW H×List MemPlace} (h:DataW.trod enc Tryz.prog W 0 (fun _=>true) true fuel 46 cs=some x):∃ l,cs=hsRec.cells l∧hsRec.ok l:=
  open_bytes32 Tryz.underlying46 Tryz.underlying5 (by kernel_rfl) (by kernel_rfl) h
set_option maxRecDepth 100000 in
theorem open_ac14 {fuel:Nat} {cs:List Value} {x:DataW H×List MemPlace} (h:DataW.trod enc Tryz.prog W 0 (fun _=>true) true fuel 88 cs=some x):∃ t:Ac,cs=acCells t∧t.At W:=by
  obtain⟨xs,m,_,_,hlen,hxl,hg⟩:=DataW.trod_struct Tryz.underlying88 h
  have hl:cs.length=5:=hlen.trans (by kernel_rfl)
  have hx3:xs.length=3:=hxl
  have c0:Tryz.prog.cellsOf 34=3:=by kernel_rfl
  have c1:Tryz.prog.cellsOf 3=1:=by kernel_rfl
  have c2:Tryz.prog.cellsOf 30=1:=by kernel_rfl
  have g0:DataW.trod enc Tryz.prog W 0 (fun _=>true) true m 34 ((cs.drop 0).take (Tryz.prog.cellsOf 34))=xs[0]?:=hg 0 _ rfl
  have g1:DataW.trod enc Tryz.prog W 0 (fun _=>true) true m 3 ((cs.drop 3).take (Tryz.prog.cellsOf 3))=xs[1]?:=hg 1 _ rfl
  have g2:DataW.trod enc Tryz.prog W 0 (fun _=>true) true m 30 ((cs.drop 4).take (Tryz.prog.cellsOf 30))=xs[2]?:=hg 2 _ rfl
  rw[List.getElem?_eq_getElem (by omega)] at g0 g1 g2
  rw[c0] at g0
  rw[c1] at g1
  rw[c2] at g2
  obtain⟨v,e0,hv⟩:=open_txv g0
  obtain⟨z1,e1,_,b1⟩:=DataW.trod_int Tryz.underlying3 g1
  have h4:∃ d,(cs.drop 4).take 1=[d]:=⟨cs[4]'(by omega),by rw[List.drop_eq_getElem_cons (by omega)];rfl⟩
  obtain⟨d,e4⟩:=h4
  rw[e4] at g2
  obtain⟨a,n,q,L,rfl,hL,hnq,h0⟩:=open_recs (R:=hsRec) Tryz.underlying30 (by kernel_rfl) open_hs g2
  have k1:=bounds_i64 b1
  refine⟨⟨v,z1,a,n,q,L⟩,?_,⟨hv,by dsimp only;omega,hL,hnq,h0⟩⟩
  have s0:cs=cs.take 3++cs.drop 3:=(List.take_append_drop 3 cs).symm
  have s1:cs.drop 3=(cs.drop 3).take 1++cs.drop 4:=by rw[← List.drop_drop (i:=1) (j:=3)];exact(List.take_append_drop 1 _).symm
  have s2:cs.drop 4=[.slice a n q]:=by rw[← e4];exact(List.take_of_length_le (by rw[List.length_drop];omega)).symm
  rw[s0,s1,s2,e1,show cs.take 3=vCells v from e0]
  rfl
end
section
variable {H:Type} {enc:TypeId×Value→H} {W:World} {base:Nat} {v:Value} {d:DataW H} {p:List MemPlace}
set_option maxRecDepth 100000 in
theorem arg_acts14 (o:Value.okWide Tryz.prog W .any base 22 v) (h:DataW.Trod enc Tryz.prog W 0 (fun _=>true) true 22 v d p) :
    ∃ (a:Option Addr) (n c:Nat) (L:List Ac),v=.slice a n c∧Recs (acIn14 W) W a n L∧n≤c∧(a=none→c=0):=by
  obtain⟨a,n,c,rfl⟩:=okWide_slice Tryz.underlying22 o
  obtain⟨fuel,hf⟩:=h
  obtain⟨a',n',c',L,e,hL,hnc,h0⟩:=open_recs (R:=acIn14 W) Tryz.underlying22 (by kernel_rfl) open_ac14 hf
  have e2:Value.slice a n c=Value.slice a' n' c':=by
    have e3:(Value.slice a n c).cells.toList=[Value.slice a n c]:=rfl
    first
      | exact e
      | (rw[e3] at e;exact(List.cons.inj e).1)
  injection e2 with e4 e5 e6
  subst e4
  subst e5
  subst e6
  exact⟨a,n,c,L,rfl,hL,hnc,h0⟩
end
def Fine (L:List Ac):Prop:=L.length≤31∧∀ x,x∈L→Tx.Small x.v.t∧x.n≤30
def NotLong (L:List Ac) (z:Bool):Prop:=z=false→Fine L
def Long14Post (L:List Ac) (w0:World) (e:Ending) (w':World):Prop:=∃ z,e=.returned (.bool z)∧NotLong L z∧Below w0.heap.size w0 w'
theorem ac_tx {w:World} {g:Nat} {x:Ac} (h:Has w g 88 (acCells x).toArray):(Instr.loadAt 34 (.pointer (some ⟨g,0,none⟩))).run Tryz.prog w=.ok (txv x.v.a x.v.n x.v.q x.v.b x.v.m x.v.r x.v.t.firm) w:=
  Gr.load_mid h 0 (vCells x.v) (fun j v hj=>by
    rw[Nat.zero_add,List.getElem?_toArray]
    unfold acCells
    rw[List.getElem?_append_left (List.getElem?_eq_some_iff.1 hj).1]
    exact hj) Tryz.underlying34 rfl (by kernel_rfl)
theorem ac_ids {w:World} {g:Nat} {x:Ac} (h:Has w g 88 (acCells x).toArray):w.cell? ⟨g,4,none⟩=some (.slice x.a x.n x.q):=h.cell_at rfl
theorem ac_fee {w:World} {g:Nat} {x:Ac} (h:Has w g 88 (acCells x).toArray):w.cell? ⟨g,3,none⟩=some (.int .i64 x.fee):=h.cell_at rfl
theorem tx_one {w:World} {v:Tx.V} (h:v.At w):Txs (w.alloc (.cells #[.slice v.a v.n v.q,.slice v.b v.m v.r,.bool v.t.firm] 34)) (some ⟨w.heap.size,0,none⟩) 1 [v]:=
  ⟨Gr.recs_one' (R:=vRec) (T:=34) trivial rfl,fun x hx=>by
    rw[List.mem_singleton.1 hx]
    exact TxAt.below h ((Below.refl _ _).alloc (Nat.le_refl _) _)⟩
end Gr
set_option maxRecDepth 100000 in
set_option maxHeartbeats 8000000 in
theorem glong_any {W:World} (b:Option Addr) (m r:Nat) (K:List Gr.Ac) (w:World) (h:Recs (Gr.acIn14 W) w b m K) (hW:Below W.heap.size W w) :
    Calls Tryz.prog 8 #[.slice b m r] w (Gr.Long14Post K w):=by
  have HH:=Lib.hid h
  have HW:=Lib.hid hW
  have hmmx:m≤9223372036854775807:=h.2.1
  clear h hW
  unfold Gr.Long14Post
  go_enter Tryz.func8,Tryz.ntmps8
  go_wp2
  go_loopw [7] (fun iv wr=>∃ (i:Nat),i≤m∧i≤31∧iv=.int .i64 i∧RowKit.Hid (∀ (j:Nat) (x:Gr.Ac),j<i→K[j]? = some x→Tx.Small x.v.t∧x.n≤30)∧Below w.heap.size w wr) (fun iv _=>m-(intOf iv).toNat)
  case atStart=>exact⟨0,Nat.zero_le _,by omega,rfl,Lib.hid (fun j x hj=>by omega),Below.refl _ _⟩
  case round=>
    obtain⟨i,hi,hi31,rfl,HA,hb⟩:=hrel
    by_cases hlt:i<m
    · have hii:(i:Int)<(m:Int):=by omega
      have hi0:(0:Int)≤(i:Int):=by omega
      obtain⟨x,hx⟩:=HH.out.get hlt
      have hok:x.At W:=HH.out.okay hx
      obtain⟨y,rfl,_⟩:=HH.out.2.2.2 i x hx
      have hy:(Instr.loadAt 88 (.pointer (some (y.add (i*5))))).run Tryz.prog wr=.ok (.agg (Gr.acCells x).toArray) wr:=(HH.out.below hb).load_at (P:=Tryz.prog) Tryz.underlying88 rfl (Gr.size_ac14 W) hx
      have HX:=Lib.hid hx
      have HOW:=Lib.hid hok
      have hxn:x.n≤9223372036854775807:=hok.ids.2.1
      clear hx hok
      go_upto_region 4 with(first
        | (refine wpList_store_mid rfl 88 (.tmp 4) (.tmp 11) rfl wr.heap.size 0 (Gr.acCells x).toArray rfl rfl ((Gr.acIn14 W).there wr 88 (by kernel_rfl) HOW.out) ((Gr.acIn14 W).size_eq (Gr.size_ac14 W) HOW.out) ((Gr.acIn14 W).all_one x) ?_)
        | (refine wpList_load_run rfl 88 (.tmp 10) rfl _ _ rfl hy ?_))
      obtain⟨w5,hw5⟩:∃ u,u=(wr.alloc (.cells Gr.zAc14 88)).setCells wr.heap.size 0 (Gr.acCells x):=⟨_,rfl⟩
      obtain⟨hG,hb5⟩:=Rec.new (R:=Gr.acIn14 W) (by kernel_rfl) HOW.out hw5
      rw[← hw5]
      clear hw5 hy
      obtain⟨g4,hg4⟩:∃ g,g=wr.heap.size:=⟨_,rfl⟩
      rw[← hg4] at hG ⊢
      have hB5:=hb.trans (hb5.mono hb.size)
      have HAT:=Lib.hid (HOW.out.below (HW.out.trans (hB5.mono HW.out.size)))
      have d0:w5.cell? ⟨g4,0,none⟩=some (.slice x.v.a x.v.n x.v.q):=hG.cell_at rfl
      have d1:w5.cell? ⟨g4,1,none⟩=some (.slice x.v.b x.v.m x.v.r):=hG.cell_at rfl
      have d2:w5.cell? ⟨g4,2,none⟩=some (.bool x.v.t.firm):=hG.cell_at rfl
      have HG:=Lib.hid hG
      clear hg4 hb5 hG
      have hal:Below w5.heap.size w5 (w5.alloc (.cells #[.slice x.v.a x.v.n x.v.q,.slice x.v.b x.v.m x.v.r,.bool x.v.t.firm] 34)):=(Below.refl _ _).alloc (Nat.le_refl _) _
      have HAL:=Lib.hid hal
      clear hal
      by_cases h30:(30:Int)<(i:Int)
      · go_wp2
        go_ret
        exact⟨true,rfl,(fun e=>by cases e),hB5⟩
      · have h30b:decide ((30:Int)<(i:Int))=false:=decide_eq_false h30
        go_wp2_with (first
          | (go_at_call 12;refine(large_any _ 1 1 [x.v] _ (Gr.tx_one HAT.out.v)).mono ?_;rintro e w7 ⟨bl,rfl,hsm,hb7⟩;have HSM:=Lib.hid hsm;clear hsm;have hB7:=hB5.trans ((HAL.out.trans (hb7.mono HAL.out.size)).mono hB5.size);have c4:=Gr.ac_ids (HG.out.under (HAL.out.trans (hb7.mono HAL.out.size)) HG.out.lt)))
        all_goals try(go_ret;exact⟨true,rfl,(fun e=>by cases e),hB7⟩)
        have hblf:bl=false:=by first | rfl | assumption | simp_all
        have hx30:x.n≤30:=by first | omega | (simp_all;omega)
        have HA2:=Lib.hid (show ∀ (j:Nat) (y:Gr.Ac),j<i+1→K[j]? = some y→Tx.Small y.v.t∧y.n≤30 from fun j y hj hy=>by
          rcases Nat.lt_or_ge j i with h | h
          · exact HA.out j y h hy
          · have e2:j=i:=by omega
            subst e2
            rw[HX.out] at hy
            injection hy with hy
            subst hy
            exact⟨(HSM.out hblf).2 x.v (by simp),hx30⟩)
        have hi2:i+1≤31:=by omega
        go_roundw
        case rel=>exact⟨i+1,by omega,hi2,by go_num,HA2,hB7⟩
        case measure=>(simp[intOf];try omega)
    · have hii:¬ (i:Int)<(m:Int):=by omega
      obtain rfl:i=m:=by omega
      go_wp2
      go_ret
      refine .inl ⟨rfl,fun _=>⟨by rw[HH.out.1];exact hi31,fun x hx=>?_⟩,hb⟩
      obtain⟨j,hj⟩:=List.mem_iff_getElem?.1 hx
      exact HA.out j x (by have e:=(List.getElem?_eq_some_iff.1 hj).1;rw[HH.out.1] at e;exact e) hj
end Go.Proofs.YtijemcfnlbapjaaGreatDoor
