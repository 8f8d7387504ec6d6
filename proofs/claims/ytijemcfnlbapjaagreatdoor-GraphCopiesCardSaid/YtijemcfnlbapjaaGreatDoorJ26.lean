/- the reference 14: in, find, Has, Order (mkgrp.py) -/
import Derived.Test.YtijemcfnlbapjaaGreatDoorJ25
namespace Go.Proofs.YtijemcfnlbapjaaGreatDoor
open Go Go.RowKit Go.ChangeShapes Go.WideShapes
theorem Gr.yieldsIf_eql_b {P:Program} {ops:Array Oper} {S:World→Prop} {op:Oper} {a:Act} (hw:Region.wanted op (yielded ops a.tmps)=true) (t e yt:TypeId) (k:Nat) (x y:Operand) (ho:op.op=.binOp .eql t x y yt)
    (l m:List (BitVec 8)) (hx:a.eval x=.agg (blist l).toArray) (hy:a.eval y=.agg (blist m).toArray) (hg:P.eqGuardType P.depth t=false) (ht:P.underlying t=some (.array k e)) (he:P.underlying e=some (.int .u8)) (hs:(P.info? e).map (·.size)=some 1) (hl:l.length=k) (hm:m.length=k) {b:Bool} (hb:decide (l=m)=b) :
    YieldsIf P ops S op (.bool b) a:=hb▸yieldsIf_eql hw t e yt k x y ho l m hx hy hg ht he hs hl hm
theorem Gr.load_part {α:Type} {R:Rec α} {P:Program} {T:TypeId} {d:TypeDesc} (hT:P.underlying T=some d) (hd:d.isRow=true) {w:World} {x:Addr} {n i:Nat} {L:List α} {t:α} (h:Recs R w (some x) n L) (hi:L[i]? = some t) (sub:List Value) (hsz:(P.info? T).map (·.size)=some sub.length) (hs:∀ (j:Nat) (v:Value),sub[j]? = some v→(R.cells t)[j]? = some v) :
    (Instr.loadAt T (.pointer (some (x.add (i*R.k))))).run P w=.ok (.agg sub.toArray) w:=by
  obtain⟨y,e,hx⟩:=h.2.2.2 i t hi
  injection e with e
  subst e
  have h1:=run_loadCells_list (P:=P) w (x.add (i*R.k)) sub (fun j v hj=>by rw[Addr.add_add];exact hx j v (hs j v hj))
  cases hq:P.info? T with
  | none=>simp[hq] at hsz
  | some inf=>
    have hz:inf.size=sub.length:=by simpa [hq] using hsz
    have hagg:(isAgg T).run P w=.ok true w:=by
      unfold isAgg
      rw[Sem.run_bind,run_underlying hT w]
      cases d<;>first | rfl | (exact absurd hd (by simp[TypeDesc.isRow]))
    simp[Instr.loadAt,Instr.sureAddr,loadVar,Sem.run_bind,hagg,sizeOf,typeInfo,hq,hz,h1]
theorem Gr.load_later {α:Type} {R:Rec α} {P:Program} {T:TypeId} {d:TypeDesc} (hT:P.underlying T=some d) (hd:d.isRow=true) {w:World} {x:Addr} {n i:Nat} {L:List α} {t:α} (h:Recs R w (some x) n L) (hi:L[i]? = some t) (off:Nat) (sub:List Value) (hsz:(P.info? T).map (·.size)=some sub.length) (hs:∀ (j:Nat) (v:Value),sub[j]? = some v→(R.cells t)[(off+1)+j]? = some v) :
    (Instr.loadAt T (.pointer (some ⟨(x.add (i*R.k)).block,(x.add (i*R.k)).off+(off+1),none⟩))).run P w=.ok (.agg sub.toArray) w:=by
  have h1:=run_loadVar_mid (P:=P) w (x.add (i*R.k)).block ((x.add (i*R.k)).off+(off+1)) T sub d (fun j v hj=>by
    have h2:=h.fieldS (j:=off+j) hi (by
      have:=hs j v hj
      rwa [show off+1+j=off+j+1 by omega] at this)
    rw[show(x.add (i*R.k)).off+(off+1)+j=(x.add (i*R.k)).off+(off+j+1) by omega]
    exact h2) hT hd hsz
  simp only[Instr.loadAt,Instr.sureAddr,Sem.run_bind,Sem.run_pure,Result.andThen_ok,h1]
namespace Gr
structure Rn where
  v:Tx.V
  id:List (BitVec 8)
  fee:Int
def rnCells (x:Rn):List Value:=vCells x.v++(blist x.id++[.int .i64 x.fee])
def rnRec:Rec Rn where
  k:=36
  cells:=rnCells
  ok:=fun x=>x.id.length=32
  pos:=by omega
  len x h:=by unfold rnCells;simp[vCells,blist_length,h]
  one x v hv:=by
    unfold rnCells at hv
    rcases List.mem_append.1 hv with h | h
    · exact vRec.one x.v v h
    · rcases List.mem_append.1 h with h | h
      · exact blist_one _ v h
      · rw[List.mem_singleton.1 h];rfl
theorem rn_id {x:Rn} (j:Nat) (v:Value) (hv:(blist x.id)[j]? = some v):(rnCells x)[2+1+j]? = some v:=by
  unfold rnCells
  rw[List.getElem?_append_right (by simp[vCells]),show 2+1+j-(vCells x.v).length=j by(show 2+1+j-3=j;omega),List.getElem?_append_left (List.getElem?_eq_some_iff.1 hv).1]
  exact hv
end Gr
theorem rn_lid {w:World} {x:Addr} {n i:Nat} {L:List Gr.Rn} {t:Gr.Rn} (h:Recs Gr.rnRec w (some x) n L) (hi:L[i]? = some t):(Instr.loadAt 46 (.pointer (some ⟨(x.add (i*36)).block,(x.add (i*36)).off+3,none⟩))).run Tryz.prog w=.ok (.agg (blist t.id).toArray) w:=
  Gr.load_later (R:=Gr.rnRec) Tryz.underlying46 rfl h hi 2 (blist t.id) (by rw[blist_length,show t.id.length=32 from h.okay hi];kernel_rfl) (fun j v hv=>Gr.rn_id j v hv)
set_option maxRecDepth 100000 in
set_option maxHeartbeats 8000000 in
theorem rin_any (a:Option Addr) (n q:Nat) (I:List (List (BitVec 8))) (id:List (BitVec 8)) (hid:id.length=32) (w:World) (h:Recs Gr.hsRec w a n I) :
    Calls Tryz.prog 53 #[.slice a n q,.agg (blist id).toArray] w fun e w'=>e=.returned (.bool (decide (id∈I)))∧Below w.heap.size w w':=by
  obtain⟨W1,hW1⟩:∃ ww,ww=w.alloc (.cells (blist id).toArray 46):=⟨_,rfl⟩
  have hB1:Below w.heap.size w W1:=by rw[hW1];exact(Below.refl _ _).alloc (Nat.le_refl _) _
  have hP1:Has W1 w.heap.size 46 (blist id).toArray:=by rw[hW1];exact Has.fresh _ _ _
  have HW1:=Lib.hid hW1
  have HP1:=Lib.hid hP1
  have HB1:=Lib.hid hB1
  have HIDL:=Lib.hid hid
  have HH:=Lib.hid h
  have hnmx:n≤9223372036854775807:=h.2.1
  obtain⟨R,hR⟩:∃ r,r=decide (id∈I):=⟨_,rfl⟩
  rw[← hR]
  have HR:=Lib.hid hR
  clear hW1 hP1 hB1 hid h hR
  go_enter Tryz.func53,Tryz.ntmps53
  go_upto_region 1 with fail
  rw[← HW1.out]
  go_wp2
  go_loopw [5] (fun iv wr=>∃ (i:Nat),i≤n∧iv=.int .i64 i∧RowKit.Hid (id∉I.take i)∧Below w.heap.size w wr∧Has wr w.heap.size 46 (blist id).toArray) (fun iv _=>n-(intOf iv).toNat)
  case atStart=>exact⟨0,Nat.zero_le _,rfl,Lib.hid (by simp),HB1.out,HP1.out⟩
  case round=>
    obtain⟨i,hi,rfl,HN,hb,hP⟩:=hrel
    by_cases hlt:i<n
    · have hii:(i:Int)<(n:Int):=by omega
      have hi0:(0:Int)≤(i:Int):=by omega
      obtain⟨y,hy⟩:=HH.out.get hlt
      have HYL:=Lib.hid (show y.length=32 from HH.out.okay hy)
      obtain⟨x,rfl,_⟩:=HH.out.2.2.2 i y hy
      have HT:=Lib.hid (show I.take (i+1)=I.take i++[y] by
        obtain⟨h2,h3⟩:=List.getElem?_eq_some_iff.1 hy
        rw[List.take_succ_eq_append_getElem h2,h3])
      obtain⟨ws,hws⟩:∃ ww,ww=wr.drew:=⟨_,rfl⟩
      have hBs:Below w.heap.size w ws:=by rw[hws];exact hb.drew
      have hPs:Has ws w.heap.size 46 (blist id).toArray:=by rw[hws];exact hP
      have lP:=fun(wq:World) (hSw:Held ws wq)=>(hPs.under hSw.below hPs.lt).load_agg (P:=Tryz.prog) (t:=46) Tryz.underlying46 rfl (size_hs HIDL.out)
      have HHs:=Lib.hid (HH.out.below hBs)
      have HY:=Lib.hid hy
      have lI:=fun(wq:World) (hSw:Held ws wq)=>(show(Instr.loadAt 46 (.pointer (some (x.add (i*32))))).run Tryz.prog wq=.ok (.agg (blist y).toArray) wq from(HHs.out.below hSw.below).load_at (P:=Tryz.prog) Tryz.underlying46 rfl Gr.size_hsr HY.out)
      clear hy
      go_upto_region 4 with fail
      by_cases he:y=id
      · have HE:=Lib.hid (show decide (y=id)=true from decide_eq_true he)
        have HRT:=Lib.hid (show R=true by rw[HR.out];exact decide_eq_true (by rw[← he];exact List.mem_of_getElem? HY.out))
        clear he
        refine wp_region_held_drew (S:=Held ws) (by kernel_rfl) (by rw[hws];exact Held.refl _) (fun hHeld=>?_)
        rw[← hws] at hHeld ⊢
        clear hws
        refine tka (v:=?_) 0 12 rfl rfl hHeld (Or.inl ⟨by rfl,?_⟩) rfl ?_
        rotate_left
        · intro wq hSw
          go_simp
          try with_reducible rfl
        simp only[ts0,ts1]
        refine tka (v:=?_) 1 13 rfl rfl hHeld (Or.inl ⟨by rfl,?_⟩) rfl ?_
        rotate_left
        · intro wq hSw
          go_simp
          try with_reducible rfl
        simp only[ts0,ts1]
        refine tka (v:=?_) 2 14 rfl rfl hHeld (Or.inl ⟨by rfl,?_⟩) rfl ?_
        rotate_left
        · intro wq hSw
          go_simp
          try with_reducible rfl
        simp only[ts0,ts1]
        refine tka 3 15 rfl rfl hHeld (yieldsIf_load_agg (by rfl) 46 (.tmp 14) rfl _ _ (by rfl) (fun wq hSw=>lI wq hSw)) rfl ?_
        simp only[ts0,ts1]
        refine tka 4 16 rfl rfl hHeld (yieldsIf_load_agg (by rfl) 46 (.tmp 3) rfl _ _ (by rfl) (fun wq hSw=>lP wq hSw)) rfl ?_
        simp only[ts0,ts1]
        refine tka 5 17 rfl rfl hHeld (Gr.yieldsIf_eql_b (by rfl) 46 5 46 32 (.tmp 15) (.tmp 16) rfl y id (by rfl) (by rfl) (by kernel_rfl) Tryz.underlying46 Tryz.underlying5 (by kernel_rfl) HYL.out HIDL.out HE.out) rfl ?_
        simp only[ts0,ts1]
        refine wpAnyH_done (by kernel_rfl) ?_ _
        go_wp2
        go_ret
        exact⟨by rw[HRT.out];rfl,hBs⟩
      · have HE:=Lib.hid (show decide (y=id)=false from decide_eq_false he)
        have HN2:=Lib.hid (show id∉I.take (i+1) by rw[HT.out,List.mem_append,List.mem_singleton];exact fun e=>e.elim HN.out (fun e=>he e.symm))
        clear he
        refine wp_region_held_drew (S:=Held ws) (by kernel_rfl) (by rw[hws];exact Held.refl _) (fun hHeld=>?_)
        rw[← hws] at hHeld ⊢
        clear hws
        refine tka (v:=?_) 0 12 rfl rfl hHeld (Or.inl ⟨by rfl,?_⟩) rfl ?_
        rotate_left
        · intro wq hSw
          go_simp
          try with_reducible rfl
        simp only[ts0,ts1]
        refine tka (v:=?_) 1 13 rfl rfl hHeld (Or.inl ⟨by rfl,?_⟩) rfl ?_
        rotate_left
        · intro wq hSw
          go_simp
          try with_reducible rfl
        simp only[ts0,ts1]
        refine tka (v:=?_) 2 14 rfl rfl hHeld (Or.inl ⟨by rfl,?_⟩) rfl ?_
        rotate_left
        · intro wq hSw
          go_simp
          try with_reducible rfl
        simp only[ts0,ts1]
        refine tka 3 15 rfl rfl hHeld (yieldsIf_load_agg (by rfl) 46 (.tmp 14) rfl _ _ (by rfl) (fun wq hSw=>lI wq hSw)) rfl ?_
        simp only[ts0,ts1]
        refine tka 4 16 rfl rfl hHeld (yieldsIf_load_agg (by rfl) 46 (.tmp 3) rfl _ _ (by rfl) (fun wq hSw=>lP wq hSw)) rfl ?_
        simp only[ts0,ts1]
        refine tka 5 17 rfl rfl hHeld (Gr.yieldsIf_eql_b (by rfl) 46 5 46 32 (.tmp 15) (.tmp 16) rfl y id (by rfl) (by rfl) (by kernel_rfl) Tryz.underlying46 Tryz.underlying5 (by kernel_rfl) HYL.out HIDL.out HE.out) rfl ?_
        simp only[ts0,ts1]
        refine wpAnyH_done (by kernel_rfl) ?_ _
        go_wp2
        go_roundw
        case rel=>exact⟨i+1,by omega,by go_num,HN2,hBs,hPs⟩
        case measure=>(simp[intOf];try omega)
    · have hii:¬ (i:Int)<(n:Int):=by omega
      obtain rfl:i=n:=by omega
      have HRF:=Lib.hid (show R=false by
        rw[HR.out]
        refine decide_eq_false fun e=>HN.out ?_
        rw[List.take_of_length_le (by rw[HH.out.1];exact Nat.le_refl _)]
        exact e)
      go_wp2
      go_ret
      exact⟨by rw[HRF.out];rfl,hb⟩
def Gr.FindIs (L:List Gr.Rn) (id:List (BitVec 8)) (z:Int):Prop:=(z=-1∧∀ x,x∈L→x.id≠id)∨∃ (i:Nat) (x:Gr.Rn),z=i∧L[i]? = some x∧x.id=id
set_option maxRecDepth 100000 in
set_option maxHeartbeats 8000000 in
theorem rfind14_any (a:Option Addr) (n q:Nat) (L:List Gr.Rn) (id:List (BitVec 8)) (hid:id.length=32) (w:World) (h:Recs Gr.rnRec w a n L) :
    Calls Tryz.prog 58 #[.slice a n q,.agg (blist id).toArray] w fun e w'=>∃ z,e=.returned (.int .i64 z)∧Gr.FindIs L id z∧Below w.heap.size w w':=by
  obtain⟨W1,hW1⟩:∃ ww,ww=w.alloc (.cells (blist id).toArray 46):=⟨_,rfl⟩
  have hB1:Below w.heap.size w W1:=by rw[hW1];exact(Below.refl _ _).alloc (Nat.le_refl _) _
  have hP1:Has W1 w.heap.size 46 (blist id).toArray:=by rw[hW1];exact Has.fresh _ _ _
  have HW1:=Lib.hid hW1
  have HP1:=Lib.hid hP1
  have HB1:=Lib.hid hB1
  have HIDL:=Lib.hid hid
  have HH:=Lib.hid h
  have hnmx:n≤9223372036854775807:=h.2.1
  clear hW1 hP1 hB1 hid h
  go_enter Tryz.func58,Tryz.ntmps58
  go_upto_region 1 with fail
  rw[← HW1.out]
  go_wp2
  go_loopw [5] (fun iv wr=>∃ (i:Nat),i≤n∧iv=.int .i64 i∧RowKit.Hid (∀ x,x∈L.take i→x.id≠id)∧Below w.heap.size w wr∧Has wr w.heap.size 46 (blist id).toArray) (fun iv _=>n-(intOf iv).toNat)
  case atStart=>exact⟨0,Nat.zero_le _,rfl,Lib.hid (by simp),HB1.out,HP1.out⟩
  case round=>
    obtain⟨i,hi,rfl,HN,hb,hP⟩:=hrel
    by_cases hlt:i<n
    · have hii:(i:Int)<(n:Int):=by omega
      have hi0:(0:Int)≤(i:Int):=by omega
      obtain⟨x,hx⟩:=HH.out.get hlt
      have HYL:=Lib.hid (show x.id.length=32 from HH.out.okay hx)
      obtain⟨ad,rfl,_⟩:=HH.out.2.2.2 i x hx
      have HT:=Lib.hid (show L.take (i+1)=L.take i++[x] by
        obtain⟨h2,h3⟩:=List.getElem?_eq_some_iff.1 hx
        rw[List.take_succ_eq_append_getElem h2,h3])
      obtain⟨ws,hws⟩:∃ ww,ww=wr.drew:=⟨_,rfl⟩
      have hBs:Below w.heap.size w ws:=by rw[hws];exact hb.drew
      have hPs:Has ws w.heap.size 46 (blist id).toArray:=by rw[hws];exact hP
      have lP:=fun(wq:World) (hSw:Held ws wq)=>(hPs.under hSw.below hPs.lt).load_agg (P:=Tryz.prog) (t:=46) Tryz.underlying46 rfl (size_hs HIDL.out)
      have HHs:=Lib.hid (HH.out.below hBs)
      have HY:=Lib.hid hx
      have lI:=fun(wq:World) (hSw:Held ws wq)=>rn_lid (HHs.out.below hSw.below) HY.out
      clear hx
      go_upto_region 4 with fail
      by_cases he:x.id=id
      · have HE:=Lib.hid (show decide (x.id=id)=true from decide_eq_true he)
        have HEE:=Lib.hid he
        clear he
        refine wp_region_held_drew (S:=Held ws) (by kernel_rfl) (by rw[hws];exact Held.refl _) (fun hHeld=>?_)
        rw[← hws] at hHeld ⊢
        clear hws
        refine tka (v:=?_) 0 12 rfl rfl hHeld (Or.inl ⟨by rfl,?_⟩) rfl ?_
        rotate_left
        · intro wq hSw
          go_simp
          try with_reducible rfl
        simp only[ts0,ts1]
        refine tka (v:=?_) 1 13 rfl rfl hHeld (Or.inl ⟨by rfl,?_⟩) rfl ?_
        rotate_left
        · intro wq hSw
          go_simp
          try with_reducible rfl
        simp only[ts0,ts1]
        refine tka (v:=?_) 2 14 rfl rfl hHeld (Or.inl ⟨by rfl,?_⟩) rfl ?_
        rotate_left
        · intro wq hSw
          go_simp
          try with_reducible rfl
        simp only[ts0,ts1]
        refine tka (v:=?_) 3 15 rfl rfl hHeld (Or.inl ⟨by rfl,?_⟩) rfl ?_
        rotate_left
        · intro wq hSw
          go_simp
          try with_reducible rfl
        simp only[ts0,ts1]
        refine tka 4 16 rfl rfl hHeld (yieldsIf_load_agg (by rfl) 46 (.tmp 15) rfl _ _ (by rfl) (fun wq hSw=>lI wq hSw)) rfl ?_
        simp only[ts0,ts1]
        refine tka 5 17 rfl rfl hHeld (yieldsIf_load_agg (by rfl) 46 (.tmp 3) rfl _ _ (by rfl) (fun wq hSw=>lP wq hSw)) rfl ?_
        simp only[ts0,ts1]
        refine tka 6 18 rfl rfl hHeld (Gr.yieldsIf_eql_b (by rfl) 46 5 46 32 (.tmp 16) (.tmp 17) rfl x.id id (by rfl) (by rfl) (by kernel_rfl) Tryz.underlying46 Tryz.underlying5 (by kernel_rfl) HYL.out HIDL.out HE.out) rfl ?_
        simp only[ts0,ts1]
        refine wpAnyH_done (by kernel_rfl) ?_ _
        go_wp2
        go_ret
        exact⟨(i:Int),rfl,.inr ⟨i,x,rfl,HY.out,HEE.out⟩,hBs⟩
      · have HE:=Lib.hid (show decide (x.id=id)=false from decide_eq_false he)
        have HN2:=Lib.hid (show ∀ y,y∈L.take (i+1)→y.id≠id from fun y hy=>by
          rw[HT.out] at hy
          rcases List.mem_append.1 hy with hy | hy
          · exact HN.out y hy
          · rw[List.mem_singleton.1 hy];exact he)
        clear he
        refine wp_region_held_drew (S:=Held ws) (by kernel_rfl) (by rw[hws];exact Held.refl _) (fun hHeld=>?_)
        rw[← hws] at hHeld ⊢
        clear hws
        refine tka (v:=?_) 0 12 rfl rfl hHeld (Or.inl ⟨by rfl,?_⟩) rfl ?_
        rotate_left
        · intro wq hSw
          go_simp
          try with_reducible rfl
        simp only[ts0,ts1]
        refine tka (v:=?_) 1 13 rfl rfl hHeld (Or.inl ⟨by rfl,?_⟩) rfl ?_
        rotate_left
        · intro wq hSw
          go_simp
          try with_reducible rfl
        simp only[ts0,ts1]
        refine tka (v:=?_) 2 14 rfl rfl hHeld (Or.inl ⟨by rfl,?_⟩) rfl ?_
        rotate_left
        · intro wq hSw
          go_simp
          try with_reducible rfl
        simp only[ts0,ts1]
        refine tka (v:=?_) 3 15 rfl rfl hHeld (Or.inl ⟨by rfl,?_⟩) rfl ?_
        rotate_left
        · intro wq hSw
          go_simp
          try with_reducible rfl
        simp only[ts0,ts1]
        refine tka 4 16 rfl rfl hHeld (yieldsIf_load_agg (by rfl) 46 (.tmp 15) rfl _ _ (by rfl) (fun wq hSw=>lI wq hSw)) rfl ?_
        simp only[ts0,ts1]
        refine tka 5 17 rfl rfl hHeld (yieldsIf_load_agg (by rfl) 46 (.tmp 3) rfl _ _ (by rfl) (fun wq hSw=>lP wq hSw)) rfl ?_
        simp only[ts0,ts1]
        refine tka 6 18 rfl rfl hHeld (Gr.yieldsIf_eql_b (by rfl) 46 5 46 32 (.tmp 16) (.tmp 17) rfl x.id id (by rfl) (by rfl) (by kernel_rfl) Tryz.underlying46 Tryz.underlying5 (by kernel_rfl) HYL.out HIDL.out HE.out) rfl ?_
        simp only[ts0,ts1]
        refine wpAnyH_done (by kernel_rfl) ?_ _
        go_wp2
        go_roundw
        case rel=>exact⟨i+1,by omega,by go_num,HN2,hBs,hPs⟩
        case measure=>(simp[intOf];try omega)
    · have hii:¬ (i:Int)<(n:Int):=by omega
      obtain rfl:i=n:=by omega
      have HRF:=Lib.hid (show ∀ x,x∈L→x.id≠id from fun x hx=>HN.out x (by rw[List.take_of_length_le (by rw[HH.out.1];exact Nat.le_refl _)];exact hx))
      go_wp2
      go_ret
      exact⟨-1,rfl,.inl ⟨rfl,HRF.out⟩,hb⟩
set_option maxRecDepth 100000 in
set_option maxHeartbeats 8000000 in
theorem rhas14_any (a:Option Addr) (n q:Nat) (L:List Gr.Rn) (id:List (BitVec 8)) (hid:id.length=32) (w:World) (h:Recs Gr.rnRec w a n L) :
    Calls Tryz.prog 52 #[.slice a n q,.agg (blist id).toArray] w fun e w'=>e=.returned (.bool (decide (∃ x,x∈L∧x.id=id)))∧Below w.heap.size w w':=by
  obtain⟨W1,hW1⟩:∃ ww,ww=w.alloc (.cells (blist id).toArray 46):=⟨_,rfl⟩
  have hB1:Below w.heap.size w W1:=by rw[hW1];exact(Below.refl _ _).alloc (Nat.le_refl _) _
  have hP1:Has W1 w.heap.size 46 (blist id).toArray:=by rw[hW1];exact Has.fresh _ _ _
  have HW1:=Lib.hid hW1
  have HP1:=Lib.hid hP1
  have HB1:=Lib.hid hB1
  have HIDL:=Lib.hid hid
  have HH:=Lib.hid h
  have hnmx:n≤9223372036854775807:=h.2.1
  have HF:=Lib.hid (rfind14_any a n q L id hid W1 (h.below hB1))
  have lP:=hP1.load_agg (P:=Tryz.prog) (t:=46) Tryz.underlying46 rfl (size_hs HIDL.out)
  obtain⟨R,hR⟩:∃ r,r=decide (∃ x,x∈L∧x.id=id):=⟨_,rfl⟩
  rw[← hR]
  have HR:=Lib.hid hR
  clear hW1 hP1 hB1 hid h hR
  go_enter Tryz.func52,Tryz.ntmps52
  go_upto_region 1 with fail
  rw[← HW1.out]
  go_wp2_with (first
    | (go_at_call 58;refine HF.out.mono ?_;rintro e w2 ⟨z,rfl,hz,hb2⟩)
    | (refine wpList_load_run rfl 46 (.tmp 3) rfl _ _ rfl lP ?_))
  have HZ:=Lib.hid (show decide (0≤z)=R by
    rw[HR.out]
    rcases hz with⟨rfl,h1⟩ | ⟨i,x,rfl,h1,h2⟩
    · rw[decide_eq_false (by omega),decide_eq_false (fun e=>by obtain⟨x,hx,e⟩:=e;exact h1 x hx e)]
    · rw[decide_eq_true (by omega),decide_eq_true ⟨x,List.mem_of_getElem? h1,h2⟩])
  go_ret
  exact⟨by rw[← HZ.out];rfl,HB1.out.trans (hb2.mono HB1.out.size)⟩
end Go.Proofs.YtijemcfnlbapjaaGreatDoor
