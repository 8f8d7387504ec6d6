/- Rate: the reference 14's, package graph's (mkgsg.py) -/
import Derived.Test.YtijemcfnlbapjaaGreatDoorJ32
import Derived.Test.YtijemcfnlbapjaaGreatDoorJ30
namespace Go.Proofs.YtijemcfnlbapjaaGreatDoor
open Go Go.RowKit Go.ChangeShapes Go.WideShapes
namespace Gr
def rateV (bad:Bool) (fs ws:List Int):Int×Int×Int:=if bad=true then(0,0,4) else if Am.Good fs.sum then(fs.sum,ws.sum,0) else(0,0,9)
def rbad (L:List Rn) (I:List (List (BitVec 8))):Bool:=I.isEmpty||I.any fun id=>!decide (∃ x,x∈L∧x.id=id)
def rfees (L:List Rn) (I:List (List (BitVec 8))):List Int:=(L.filter fun x=>decide (x.id∈I)).map (·.fee)
def rwts (L:List Rn) (I:List (List (BitVec 8))):List Int:=(L.filter fun x=>decide (x.id∈I)).map fun x=>Tx.weight x.v.t
def rrateV (L:List Rn) (I:List (List (BitVec 8))):Int×Int×Int:=rateV (rbad L I) (rfees L I) (rwts L I)
theorem sum_bound {B:Int} (hB:0≤B):∀ {l:List Int},(∀ z,z∈l→0≤z∧z≤B)→0≤l.sum∧l.sum≤B*l.length
  | [],_=>by simp
  | z :: l,h=>by
    obtain⟨h1,h2⟩:=h z List.mem_cons_self
    obtain⟨h3,h4⟩:=sum_bound hB (l:=l) fun u hu=>h u (List.mem_cons_of_mem _ hu)
    rw[List.sum_cons,List.length_cons]
    refine⟨by omega,?_⟩
    have e:B*((l.length+1:Nat):Int)=B*(l.length:Int)+B:=by rw[Int.natCast_succ,Int.mul_add,Int.mul_one]
    omega
theorem sum_le {B:Int} {N:Nat} (hB:0≤B) {l:List Int} (h:∀ z,z∈l→0≤z∧z≤B) (hl:l.length≤N):0≤l.sum∧l.sum≤B*N:=by
  obtain⟨h1,h2⟩:=sum_bound hB h
  refine⟨h1,Int.le_trans h2 (Int.mul_le_mul_of_nonneg_left (by omega) hB)⟩
theorem wt_bound {v:Tx.V} {w:World} (h:v.At w) (hs:Tx.Small v.t):0≤Tx.weight v.t∧Tx.weight v.t≤800000:=by
  have hh:∀ s,s∈v.t.sp→s.h.length=32:=fun s hx=>(h.sp.2.2.1 s hx).1
  have h1:=Tx.enc_len false v.t hs hh
  have h2:=Tx.enc_len true v.t hs hh
  unfold Tx.weight
  omega
theorem all2 (F V:Int):(#[Value.int .i64 F,.int .i64 V]:Array Value).all (·.oneCell')=true:=by simp[Value.oneCell']
theorem rbad_nil (L:List Rn):rbad L []=true:=rfl
theorem rbad_at {L:List Rn} {I:List (List (BitVec 8))} {id:List (BitVec 8)} (h:id∈I) (hn:decide (∃ x,x∈L∧x.id=id)=false):rbad L I=true:=by
  unfold rbad
  rw[Bool.or_eq_true]
  exact .inr (List.any_eq_true.2 ⟨id,h,by rw[hn];rfl⟩)
theorem rbad_no {L:List Rn} {I:List (List (BitVec 8))} (h0:I≠[]) (h:∀ id,id∈I→decide (∃ x,x∈L∧x.id=id)=true):rbad L I=false:=by
  unfold rbad
  rw[Bool.or_eq_false_iff]
  refine⟨by cases I with | nil=>exact absurd rfl h0 | cons _ _=>rfl,List.any_eq_false.2 fun id hi=>by rw[h id hi];exact Bool.false_ne_true⟩
theorem rn_fee {w:World} {x:Addr} {n i:Nat} {L:List Rn} {t:Rn} (h:Recs rnRec w (some x) n L) (hi:L[i]? = some t):w.cell? ⟨(x.add (i*36)).block,(x.add (i*36)).off+35,none⟩=some (.int .i64 t.fee):=by
  have hl:t.id.length=32:=h.okay hi
  refine h.fieldS (j:=34) hi ?_
  show(rnCells t)[35]? = _
  unfold rnCells
  rw[List.getElem?_append_right (by simp[vCells]),show(vCells t.v).length=3 from rfl,List.getElem?_append_right (by rw[blist_length,hl];omega),blist_length,hl]
  rfl
end Gr
theorem Gr.run_storeVar_int {P:Program} (w:World) (b o:Nat) (ty:TypeId) (k:IntKind) (n:Int) (ht:w.there b o 1) (hi:(P.info? ty).map (·.size)=some 1) :
    (storeVar ty ⟨b,o,none⟩ (.int k n)).run P w=.ok () (w.setCells b o [.int k n]):=by
  have:=run_storeCells_cells (P:=P) b o [Value.int k n] 0 w (fun j hj=>by simpa using(ht j (by simpa using hj)).1) (fun j hj=>by simpa using(ht j (by simpa using hj)).2)
    (fun v hv=>by rw[List.mem_singleton.1 hv];rfl)
  cases hq:P.info? ty with
  | none=>simp[hq] at hi
  | some i=>
    have hs:1=i.size:=by simp[hq] at hi;omega
    simp only[Nat.add_zero] at this
    simp[storeVar,sizeOf,typeInfo,hq,Value.cells,← hs,this]
theorem Gr.step_store_int {P:Program} {w:World} {ops:Array Oper} {o:Oper} {a:Act} {K:Act→World→Prop} {Q:Exit→Act→World→Prop} {E:Prop} (hwt:Region.wanted o (yielded ops a.tmps)=true) (ty:TypeId) (x y:Operand) (ho:o.op=.store ty x y)
    (b off:Nat) (k:IntKind) (n:Int) (hx:a.eval x=.pointer (some ⟨b,off,none⟩)) (hy:a.eval y=.int k n) (ht:w.there b off 1) (hi:(P.info? ty).map (·.size)=some 1) (hd:o.dst=none)
    (h:K a (w.setCells b off [.int k n])):if Region.wanted o (yielded ops a.tmps)=true then Oper.wp P o a w K Q else E:=by
  rw[if_pos hwt]
  unfold Oper.wp execOp
  simp only[ho,hx,hy,Instr.storeAt,Instr.sureAddr,Sem.run_bind,Sem.run_pure,Result.andThen_ok,Gr.run_storeVar_int w b off ty k n ht hi]
  have h2:K (a.put o.dst undef) (w.setCells b off [.int k n]):=by rw[hd];exact h
  exact h2
theorem Gr.step_load_run {P:Program} {w:World} {ops:Array Oper} {o:Oper} {a:Act} {K:Act→World→Prop} {Q:Exit→Act→World→Prop} {E:Prop} (hwt:Region.wanted o (yielded ops a.tmps)=true) (ty:TypeId) (x:Operand) (ho:o.op=.load ty x)
    (p v:Value) (hx:a.eval x=p) (hr:(Instr.loadAt ty p).run P w=.ok v w) (h:K (a.put o.dst v) w):if Region.wanted o (yielded ops a.tmps)=true then Oper.wp P o a w K Q else E:=by
  rw[if_pos hwt]
  unfold Oper.wp execOp
  simp only[ho,hx,Sem.run_bind,Sem.run_pure,Result.andThen_ok,hr]
  exact h
theorem Gr.run_load_int {w:World} {g i:Nat} {v:Int} (h:w.cell? ⟨g,i,none⟩=some (.int .i64 v)):(Instr.loadAt 3 (.pointer (some ⟨g,i,none⟩))).run Tryz.prog w=.ok (.int .i64 v) w:=by
  go_simp
set_option maxRecDepth 100000 in
set_option maxHeartbeats 8000000 in
theorem rrate14_any (a:Option Addr) (n q:Nat) (L:List Gr.Rn) (b:Option Addr) (m r:Nat) (I:List (List (BitVec 8))) (w:World) (h:Recs Gr.rnRec w a n L) (hI:Recs Gr.hsRec w b m I) (hv:∀ x,x∈L→x.v.At w∧Tx.Small x.v.t∧Am.Good x.fee) (hn:n≤1000) :
    Calls Tryz.prog 14 #[.slice a n q,.slice b m r] w fun e w'=>e=.returned (.tuple #[.agg #[.int .i64 (Gr.rrateV L I).1,.int .i64 (Gr.rrateV L I).2.1],.int .i64 (Gr.rrateV L I).2.2])∧Below w.heap.size w w':=by
  obtain⟨W1,hW1⟩:∃ ww,ww=w.alloc (.cells #[.int .i64 0,.int .i64 0] 42):=⟨_,rfl⟩
  have hB1:Below w.heap.size w W1:=by rw[hW1];exact(Below.refl _ _).alloc (Nat.le_refl _) _
  have hR1:Has W1 w.heap.size 42 #[.int .i64 0,.int .i64 0]:=by rw[hW1];exact Has.fresh _ _ _
  have hnmx:n≤9223372036854775807:=by omega
  have hmmx:m≤9223372036854775807:=hI.2.1
  have hbd:=fun(w:World)=>run_build (P:=Tryz.prog) w 42 #[] #[.int .i64 0,.int .i64 0] (by kernel_rfl)
  obtain⟨Z,hZ⟩:∃ z,z=Gr.rrateV L I:=⟨_,rfl⟩
  rw[← hZ]
  have HZZ:=Lib.hid hZ
  have HH:=Lib.hid (h.below hB1)
  have HI:=Lib.hid (hI.below hB1)
  have HV:=Lib.hid (show ∀ x,x∈L→x.v.At W1∧Tx.Small x.v.t∧Am.Good x.fee from fun x hx=>⟨TxAt.below (hv x hx).1 hB1,(hv x hx).2⟩)
  have HN:=Lib.hid hn
  have HW:=Lib.hid hW1
  have HB1:=Lib.hid hB1
  have HR1:=Lib.hid hR1
  clear hW1 hB1 hR1 h hI hv hn hZ
  go_enter Tryz.func14,Tryz.ntmps14
  go_upto_region 1 with fail
  rw[← HW.out]
  by_cases hm0:m=0
  · have HZ:=Lib.hid (show Z=(0,0,4) by
      have e:I=[]:=List.length_eq_zero_iff.1 (HI.out.1.trans hm0)
      rw[HZZ.out,e,Gr.rrateV,Gr.rbad_nil]
      rfl)
    subst hm0
    have hRr:=HR1.out
    go_wp2_with (refine wpList_store_mid rfl 42 (.tmp 4) (.tmp 12) rfl w.heap.size 0 #[.int .i64 0,.int .i64 0] rfl rfl (hRr.there 0 2 (Nat.le_refl _)) (by kernel_rfl) (by kernel_rfl) ?_)
    have hE:=hRr.whole_cs (cs2:=#[.int .i64 0,.int .i64 0]) rfl
    exact bodyPost_ret (results_cellslot rfl _ _ w.heap.size rfl _ _ (hE.load_var Tryz.underlying42 rfl (by kernel_rfl)) rfl) rfl ⟨by rw[HZ.out];rfl,below_setAll (by omega) _ 0 HB1.out⟩
  · have hmb:((m:Int)==(0:Int))=false:=beq_eq_false_iff_ne.2 (by omega)
    go_wp2
    go_loopw [6] (fun iv wr=>∃ (i:Nat),i≤m∧iv=.int .i64 i∧RowKit.Hid (∀ id,id∈I.take i→decide (∃ x,x∈L∧x.id=id)=true)∧Below W1.heap.size W1 wr) (fun iv _=>m-(intOf iv).toNat)
    case atStart=>exact⟨0,Nat.zero_le _,rfl,Lib.hid (by simp),Below.refl _ _⟩
    case round=>
      obtain⟨i,hi,rfl,HA,hb⟩:=hrel
      by_cases hlt:i<m
      · have hii:(i:Int)<(m:Int):=by omega
        have hi0:(0:Int)≤(i:Int):=by omega
        obtain⟨id,hid⟩:=HI.out.get hlt
        have HIL:=Lib.hid (show id.length=32 from HI.out.okay hid)
        obtain⟨y,rfl,_⟩:=HI.out.2.2.2 i id hid
        have hl:=Gr.hs_lid (HI.out.below hb) hid
        have HT:=Lib.hid (show I.take (i+1)=I.take i++[id] by
          obtain⟨h2,h3⟩:=List.getElem?_eq_some_iff.1 hid
          rw[List.take_succ_eq_append_getElem h2,h3])
        have HIM:=Lib.hid (List.mem_of_getElem? hid)
        have HC:=Lib.hid (rhas14_any a n q L id HIL.out wr (HH.out.below hb))
        obtain⟨R,hR⟩:∃ r,r=decide (∃ x,x∈L∧x.id=id):=⟨_,rfl⟩
        rw[← hR] at HC
        have HRR:=Lib.hid hR
        have hsz:=hb.size
        clear hid hR
        cases R
        · have HZ:=Lib.hid (show Z=(0,0,4) by rw[HZZ.out,Gr.rrateV,Gr.rbad_at HIM.out HRR.out.symm];rfl)
          have hRr:=HR1.out
          go_wp2_with (first
            | (refine wpList_store_mid rfl 42 (.tmp 4) (.tmp 26) rfl w.heap.size 0 #[.int .i64 0,.int .i64 0] rfl rfl (hRr5.there 0 2 (Nat.le_refl _)) (by kernel_rfl) (by kernel_rfl) ?_)
            | (go_at_call 52;refine HC.out.mono ?_;rintro e w5 ⟨rfl,hb5⟩;have hB5:=hb.trans (hb5.mono hsz);have hRr5:=hRr.under hB5 hRr.lt)
            | (refine wpList_load_run rfl 46 (.tmp 22) rfl _ _ rfl hl ?_))
          have hE:=hRr5.whole_cs (cs2:=#[.int .i64 0,.int .i64 0]) rfl
          exact bodyPost_ret (results_cellslot rfl _ _ w.heap.size rfl _ _ (hE.load_var Tryz.underlying42 rfl (by kernel_rfl)) rfl) rfl ⟨by rw[HZ.out];rfl,below_setAll (by omega) _ 0 (HB1.out.trans (hB5.mono HB1.out.size))⟩
        · have HA2:=Lib.hid (show ∀ id,id∈I.take (i+1)→decide (∃ x,x∈L∧x.id=id)=true from fun u hu=>by
            rw[HT.out] at hu
            rcases List.mem_append.1 hu with hu | hu
            · exact HA.out u hu
            · rw[List.mem_singleton.1 hu];exact HRR.out.symm)
          go_wp2_with (first
            | (go_at_call 52;refine HC.out.mono ?_;rintro e w5 ⟨rfl,hb5⟩;have hB5:=hb.trans (hb5.mono hsz))
            | (refine wpList_load_run rfl 46 (.tmp 22) rfl _ _ rfl hl ?_))
          go_roundw
          case rel=>exact⟨i+1,by omega,by go_num,HA2,hB5⟩
          case measure=>(simp[intOf];try omega)
      · have hii:¬ (i:Int)<(m:Int):=by omega
        have HZV:=Lib.hid (show Z=Gr.rateV false (Gr.rfees L I) (Gr.rwts L I) by
          rw[HZZ.out,Gr.rrateV,Gr.rbad_no (fun e=>hm0 (by rw[← HI.out.1,e];rfl)) (fun id hid=>HA.out id (by rw[List.take_of_length_le (by rw[HI.out.1];omega)];exact hid))])
        clear HA
        go_upto_region 9 with(refine wpList_store_mid rfl 42 (.tmp 7) (.tmp 27) rfl wr.heap.size 0 #[.int .i64 0,.int .i64 0] rfl rfl ((Has.fresh wr 42 #[.int .i64 0,.int .i64 0]).there 0 2 (Nat.le_refl _)) (by kernel_rfl) (by kernel_rfl) ?_)
        obtain⟨w8,hw8⟩:∃ u,u=(wr.alloc (.cells #[.int .i64 0,.int .i64 0] 42)).setCells wr.heap.size 0 [.int .i64 0,.int .i64 0]:=⟨_,rfl⟩
        have hb8:Below wr.heap.size wr w8:=by rw[hw8];exact below_setAll (Nat.le_refl _) _ 0 ((Below.refl _ _).alloc (Nat.le_refl _) _)
        have hG8:Has w8 wr.heap.size 42 #[.int .i64 0,.int .i64 0]:=by rw[hw8];exact(Has.fresh wr 42 #[.int .i64 0,.int .i64 0]).whole_cs (cs2:=#[.int .i64 0,.int .i64 0]) rfl
        rw[← hw8]
        have hB8:=hb.trans (hb8.mono hb.size)
        have hg1:W1.heap.size≤wr.heap.size:=hb.size
        obtain⟨g,hg⟩:∃ g,g=wr.heap.size:=⟨_,rfl⟩
        rw[← hg] at hG8 hg1 ⊢
        have HG1:=Lib.hid hg1
        clear hw8 hb8 hg hb
        have hS0:RowKit.Hid (Has w8 g 42 #[.int .i64 (Gr.rfees (L.take 0) I).sum,.int .i64 (Gr.rwts (L.take 0) I).sum]∧Below W1.heap.size W1 w8):=Lib.hid ⟨hG8,hB8⟩
        clear hG8 hB8
        go_wp2
        go_loopw [8] (fun iv wr=>∃ (j:Nat),j≤n∧iv=.int .i64 j∧RowKit.Hid (Has wr g 42 #[.int .i64 (Gr.rfees (L.take j) I).sum,.int .i64 (Gr.rwts (L.take j) I).sum]∧Below W1.heap.size W1 wr)) (fun iv _=>n-(intOf iv).toNat)
        case atStart=>exact⟨0,Nat.zero_le _,rfl,hS0⟩
        case round=>
          clear hS0
          obtain⟨j,hj,rfl,HS0⟩:=hrel
          obtain⟨F,hF⟩:∃ F,F=(Gr.rfees (L.take j) I).sum:=⟨_,rfl⟩
          obtain⟨V,hV⟩:∃ V,V=(Gr.rwts (L.take j) I).sum:=⟨_,rfl⟩
          rw[← hF,← hV] at HS0
          have HG:=Lib.hid HS0.out.1
          have hb:=HS0.out.2
          clear HS0
          by_cases hjl:j<n
          · have hji:(j:Int)<(n:Int):=by omega
            have hj0:(0:Int)≤(j:Int):=by omega
            obtain⟨X,hX⟩:=HH.out.get hjl
            have HXL:=Lib.hid (show X.id.length=32 from HH.out.okay hX)
            obtain⟨ad,rfl,hcs⟩:=HH.out.2.2.2 j X hX
            have HAD:=Lib.hid (show ∀ x,some ad=some x→x.block<W1.heap.size from fun x e=>by
              injection e with e
              subst e
              have h1:W1.cell? (ad.add (j*36))=some (.slice X.v.a X.v.n X.v.q):=hcs 0 _ rfl
              have h2:=isSome_lt (w:=W1) (by rw[h1];rfl)
              unfold Addr.add at h2
              split at h2<;>exact h2)
            clear hcs
            have HXV:=Lib.hid (HV.out X (List.mem_of_getElem? hX))
            have lid:=rn_lid (HH.out.below hb) hX
            have HX:=Lib.hid hX
            have HT:=Lib.hid (show L.take (j+1)=L.take j++[X] by
              obtain⟨h2,h3⟩:=List.getElem?_eq_some_iff.1 hX
              rw[List.take_succ_eq_append_getElem h2,h3])
            have HIN:=Lib.hid (rin_any b m r I X.id HXL.out wr (HI.out.below hb))
            obtain⟨R,hR⟩:∃ r,r=decide (X.id∈I):=⟨_,rfl⟩
            rw[← hR] at HIN
            have hsz:=hb.size
            have HF:=Lib.hid (And.intro hF hV)
            clear hX hF hV
            cases R
            · have HFF:=Lib.hid (show(Gr.rfees (L.take (j+1)) I).sum=F∧(Gr.rwts (L.take (j+1)) I).sum=V by
                rw[HF.out.1,HF.out.2,HT.out]
                unfold Gr.rfees Gr.rwts
                rw[List.filter_append]
                simp[← hR])
              clear hR
              go_wp2_with (first
                | (go_at_call 53;refine HIN.out.mono ?_;rintro e w5 ⟨rfl,hb5⟩;have hB5:=hb.trans (hb5.mono hsz);have hG5:=HG.out.under hb5 HG.out.lt)
                | (refine wpList_load_run rfl 46 (.tmp 38) rfl _ _ rfl lid ?_))
              go_roundw
              case rel=>exact⟨j+1,by omega,by go_num,Lib.hid ⟨by rw[HFF.out.1,HFF.out.2];exact hG5,hB5⟩⟩
              case measure=>(simp[intOf];try omega)
            · have HFF:=Lib.hid (show(Gr.rfees (L.take (j+1)) I).sum=F+X.fee∧(Gr.rwts (L.take (j+1)) I).sum=V+Tx.weight X.v.t by
                rw[HF.out.1,HF.out.2,HT.out]
                unfold Gr.rfees Gr.rwts
                rw[List.filter_append,List.map_append,List.map_append]
                simp[← hR,List.sum_append])
              clear hR
              have hFb:0≤F∧F≤2100000000000000*1000:=by
                rw[HF.out.1]
                refine Gr.sum_le (N:=1000) (by decide) (fun z hz=>?_) ?_
                · obtain⟨u,hu,rfl⟩:=List.mem_map.1 hz
                  exact(HV.out u (List.mem_of_mem_take (List.mem_filter.1 hu).1)).2.2
                · unfold Gr.rfees
                  rw[List.length_map]
                  refine Nat.le_trans (List.length_filter_le _ _) ?_
                  rw[List.length_take]
                  have:=HN.out
                  omega
              have hVb:0≤V∧V≤800000*1000:=by
                rw[HF.out.2]
                refine Gr.sum_le (N:=1000) (by decide) (fun z hz=>?_) ?_
                · obtain⟨u,hu,rfl⟩:=List.mem_map.1 hz
                  have:=HV.out u (List.mem_of_mem_take (List.mem_filter.1 hu).1)
                  exact Gr.wt_bound this.1 this.2.1
                · unfold Gr.rwts
                  rw[List.length_map]
                  refine Nat.le_trans (List.length_filter_le _ _) ?_
                  rw[List.length_take]
                  have:=HN.out
                  omega
              have hxf:0≤X.fee∧X.fee≤2100000000000000:=HXV.out.2.2
              have hxw:=Gr.wt_bound HXV.out.1 HXV.out.2.1
              have HWR:=Lib.hid (show IntKind.i64.wrap (F+X.fee)=F+X.fee∧IntKind.i64.wrap (V+Tx.weight X.v.t)=V+Tx.weight X.v.t from⟨IntWalk.i64_in _ (by omega),IntWalk.i64_in _ (by omega)⟩)
              go_upto_region 13 with(first
                | (go_at_call 53;refine HIN.out.mono ?_;rintro e w5 ⟨rfl,hb5⟩;have hB5:=hb.trans (hb5.mono hsz);have hG5:=HG.out.under hb5 HG.out.lt)
                | (refine wpList_load_run rfl 46 (.tmp 38) rfl _ _ rfl lid ?_))
              obtain⟨ws,hws⟩:∃ ww,ww=w5.drew:=⟨_,rfl⟩
              have hBs:Below W1.heap.size W1 ws:=by rw[hws];exact hB5.drew
              have hGs:Has ws g 42 #[.int .i64 F,.int .i64 V]:=by rw[hws];exact hG5
              have c0:ws.cell? ⟨g,0,none⟩=some (.int .i64 F):=hGs.cell_at rfl
              have lX:=fun(wq:World) (hSw:HeldM (fun j=>j=g) ws wq)=>Gr.rn_fee ((HH.out.below hBs).moved hSw.out (fun _ x e h=>by have h1:=HAD.out x e;have h2:=HG1.out;omega)) HX.out
              have HGS:=Lib.hid hGs
              have HBS:=Lib.hid hBs
              clear hGs hB5 hG5 hb5 lid hb hBs
              refine wp_region_held_drew (S:=HeldM (fun j=>j=g) ws) (by kernel_rfl) (by rw[hws];exact HeldM.refl _ _) (fun hHeld=>?_)
              rw[← hws] at hHeld ⊢
              clear hws
              refine tka (v:=?_) 0 41 rfl rfl hHeld (Or.inl ⟨by rfl,?_⟩) rfl ?_
              rotate_left
              · intro wq hSw
                go_simp
                try with_reducible rfl
              simp only[ts0,ts1]
              refine tka (v:=?_) 2 43 rfl rfl hHeld (Or.inl ⟨by rfl,?_⟩) rfl ?_
              rotate_left
              · intro wq hSw
                go_simp
                try with_reducible rfl
              simp only[ts0,ts1]
              refine tka (v:=?_) 3 44 rfl rfl hHeld (Or.inl ⟨by rfl,?_⟩) rfl ?_
              rotate_left
              · intro wq hSw
                go_simp
                try with_reducible rfl
              simp only[ts0,ts1]
              refine tka (v:=?_) 4 45 rfl rfl hHeld (Or.inl ⟨by rfl,?_⟩) rfl ?_
              rotate_left
              · intro wq hSw
                go_simp
                try with_reducible rfl
              simp only[ts0,ts1]
              refine tka (v:=?_) 5 46 rfl rfl hHeld (Or.inl ⟨by rfl,?_⟩) rfl ?_
              rotate_left
              · intro wq hSw
                go_simp
                try with_reducible rfl
              simp only[ts0,ts1]
              refine tka (v:=?_) 6 47 rfl rfl hHeld (Or.inl ⟨by rfl,?_⟩) rfl ?_
              rotate_left
              · intro wq hSw
                have hst:=lX wq hSw
                go_simp
                try with_reducible rfl
              simp only[ts0,ts1]
              refine wpAnyH_ready (rs:=[1]) (by kernel_rfl) (by simp) ?_
              refine AllReadyH.cons rfl (fun K hK=>?_) AllReadyH.nil
              refine Gr.step_load_run (by rfl) 3 (.tmp 41) rfl _ _ (by rfl) (Gr.run_load_int c0) ?_
              refine hK.out _ _ (HeldM.refl _ _) (fun _=>?_)
              clear hK K
              try simp only[Act.put]
              try simp only[List.setIfInBounds_toArray]
              try simp only[ts0,ts1]
              refine tka (v:=?_) 7 48 rfl rfl hHeld (Or.inl ⟨by rfl,?_⟩) rfl ?_
              rotate_left
              · intro wq hSw
                go_simp
                try with_reducible rfl
              simp only[ts0,ts1]
              refine tka (v:=?_) 8 49 rfl rfl hHeld (Or.inl ⟨by rfl,?_⟩) rfl ?_
              rotate_left
              · intro wq hSw
                go_simp
                try with_reducible rfl
              simp only[ts0,ts1]
              refine wpAnyH_ready (rs:=[9]) (by kernel_rfl) (by simp) ?_
              refine AllReadyH.cons rfl (fun K hK=>?_) AllReadyH.nil
              refine Gr.step_store_int (by rfl) 3 (.tmp 49) (.tmp 48) rfl g 0 .i64 (F+X.fee) (by first | rfl | simp[Act.eval]) (by first | rfl | (simp[Act.eval];exact HWR.out.1)) (HGS.out.there 0 1 (by show 0+1≤2;omega)) (by kernel_rfl) rfl ?_
              obtain⟨k1,hk1⟩:∃ u,u=ws.setCells g 0 [.int .i64 (F+X.fee)]:=⟨_,rfl⟩
              rw[← hk1]
              have hm1:Moved (fun j=>j=g) ws k1:=by rw[hk1];exact Moved.putAll (F:=fun j=>j=g) (.inl rfl) _ 0 (Moved.refl _ _)
              have HG2:=Lib.hid (show Has k1 g 42 #[.int .i64 (F+X.fee),.int .i64 V] by rw[hk1];exact HGS.out.put 0 _)
              refine hK.out _ _ (HeldM.of hm1) (fun _=>?_)
              clear hK K hk1
              refine wpAnyH_done (by kernel_rfl) ?_ _
              clear lX hHeld c0
              have HB1k:=Lib.hid (HBS.out.trans (hm1.below (fun k hk=>by rw[hk];exact Nat.le_refl _) (Nat.le_of_lt HGS.out.lt)|>.mono (by have:=HG1.out;omega)))
              clear hm1
              go_upto_region 14 with fail
              obtain⟨k2,hk2⟩:∃ ww,ww=k1.drew:=⟨_,rfl⟩
              have hB2:Below W1.heap.size W1 k2:=by rw[hk2];exact HB1k.out.drew
              have HG3:=Lib.hid (show Has k2 g 42 #[.int .i64 (F+X.fee),.int .i64 V] by rw[hk2];exact HG2.out)
              have lT:=fun(wq:World) (hSw:HeldM (fun j=>j=g) k2 wq)=>rn_ltx ((HH.out.below hB2).moved hSw.out (fun _ x e h=>by have h1:=HAD.out x e;have h2:=HG1.out;omega)) HX.out
              have HWT:=Lib.hid (show ∀ wq,Below k2.heap.size k2 wq→Calls Tryz.prog 54 #[txv X.v.a X.v.n X.v.q X.v.b X.v.m X.v.r X.v.t.firm] wq fun e w'=>e=.returned (.int .i64 (Tx.weight X.v.t))∧Below wq.heap.size wq w' from fun wq hq=>rweight_any X.v.a X.v.n X.v.q X.v.b X.v.m X.v.r X.v.t wq (TxAt.below HXV.out.1 (hB2.trans (hq.mono hB2.size))) HXV.out.2.1)
              have HB2:=Lib.hid hB2
              clear hB2
              refine wp_region_held_drew (S:=HeldM (fun j=>j=g) k2) (by kernel_rfl) (by rw[hk2];exact HeldM.refl _ _) (fun hHeld=>?_)
              rw[← hk2] at hHeld ⊢
              clear hk2
              refine tka (v:=?_) 0 50 rfl rfl hHeld (Or.inl ⟨by rfl,?_⟩) rfl ?_
              rotate_left
              · intro wq hSw
                go_simp
                try with_reducible rfl
              simp only[ts0,ts1]
              refine tka (v:=?_) 2 52 rfl rfl hHeld (Or.inl ⟨by rfl,?_⟩) rfl ?_
              rotate_left
              · intro wq hSw
                go_simp
                try with_reducible rfl
              simp only[ts0,ts1]
              refine tka (v:=?_) 3 53 rfl rfl hHeld (Or.inl ⟨by rfl,?_⟩) rfl ?_
              rotate_left
              · intro wq hSw
                go_simp
                try with_reducible rfl
              simp only[ts0,ts1]
              refine tka (v:=?_) 4 54 rfl rfl hHeld (Or.inl ⟨by rfl,?_⟩) rfl ?_
              rotate_left
              · intro wq hSw
                go_simp
                try with_reducible rfl
              simp only[ts0,ts1]
              refine tka (v:=?_) 5 55 rfl rfl hHeld (Or.inl ⟨by rfl,?_⟩) rfl ?_
              rotate_left
              · intro wq hSw
                go_simp
                try with_reducible rfl
              simp only[ts0,ts1]
              refine tka 6 56 rfl rfl hHeld (yieldsIf_load_agg (by rfl) 34 (.tmp 55) rfl _ _ (by rfl) (fun wq hSw=>lT wq hSw)) rfl ?_
              simp only[ts0,ts1]
              have c1:k2.cell? ⟨g,1,none⟩=some (.int .i64 V):=HG3.out.cell_at rfl
              refine wpAnyH_ready (rs:=[1,7]) (by kernel_rfl) (by simp) ?_
              refine AllReadyH.cons rfl (fun K hK=>?_) (AllReadyH.cons rfl (fun K hK=>?_) AllReadyH.nil)
              · refine Gr.step_load_run (by rfl) 3 (.tmp 50) rfl _ _ (by rfl) (Gr.run_load_int c1) ?_
                refine hK.out _ _ (HeldM.refl _ _) (fun _=>?_)
                clear hK K
                try simp only[Act.put]
                try simp only[List.setIfInBounds_toArray]
                try simp only[ts0,ts1]
                refine wpAnyH_ready (rs:=[7]) (by kernel_rfl) (by simp) ?_
                refine AllReadyH.cons rfl (fun K hK=>?_) AllReadyH.nil
                go_simp
                go_at_call 54
                refine(HWT.out k2 (Below.refl _ _)).mono ?_
                rintro e k3 ⟨rfl,hb3⟩
                refine hK.out _ _ (HeldM.of (F:=fun j=>j=g) (Moved.of_below hb3)) (fun _=>?_)
                clear hK K
                try simp only[Act.put,List.setIfInBounds_toArray,ts0,ts1]
                replace hHeld:=HeldM.of (F:=fun j=>j=g) (Moved.of_below hb3)
                refine tka (v:=?_) 8 58 rfl rfl hHeld (Or.inl ⟨by rfl,?_⟩) rfl ?_
                rotate_left
                · intro wq hSw
                  go_simp
                  try with_reducible rfl
                simp only[ts0,ts1]
                refine tka (v:=?_) 9 59 rfl rfl hHeld (Or.inl ⟨by rfl,?_⟩) rfl ?_
                rotate_left
                · intro wq hSw
                  go_simp
                  try with_reducible rfl
                simp only[ts0,ts1]
                refine wpAnyH_ready (rs:=[10]) (by kernel_rfl) (by simp) ?_
                refine AllReadyH.cons rfl (fun K hK=>?_) AllReadyH.nil
                refine Gr.step_store_int (by rfl) 3 (.tmp 59) (.tmp 58) rfl g 1 .i64 (V+Tx.weight X.v.t) (by first | rfl | simp[Act.eval]) (by first | rfl | (simp[Act.eval];exact HWR.out.2)) ((HG3.out.under hb3 HG3.out.lt).there 1 1 (by show 1+1≤2;omega)) (by kernel_rfl) rfl ?_
                obtain⟨k4,hk4⟩:∃ u,u=k3.setCells g 1 [.int .i64 (V+Tx.weight X.v.t)]:=⟨_,rfl⟩
                rw[← hk4]
                have hm4:Moved (fun j=>j=g) k3 k4:=by rw[hk4];exact Moved.putAll (F:=fun j=>j=g) (.inl rfl) _ 1 (Moved.refl _ _)
                have HG4:=Lib.hid (show Has k4 g 42 #[.int .i64 (F+X.fee),.int .i64 (V+Tx.weight X.v.t)] by rw[hk4];exact(HG3.out.under hb3 HG3.out.lt).put 1 _)
                refine hK.out _ _ (HeldM.of ((Moved.of_below hb3).trans hm4 (fun k hk=>.inl hk))) (fun _=>?_)
                clear hK K hk4
                refine wpAnyH_done (by kernel_rfl) ?_ _
                clear lT hHeld
                have HB4:=Lib.hid (HB2.out.trans ((hb3.mono HB2.out.size).trans (hm4.below (fun k hk=>by rw[hk];exact HG1.out) (by have:=HB2.out.size;have:=hb3.size;omega))))
                clear hb3 hm4
                go_wp2
                go_roundw
                case rel=>exact⟨j+1,by omega,by go_num,Lib.hid ⟨by rw[HFF.out.1,HFF.out.2];exact HG4.out,HB4.out⟩⟩
                case measure=>(simp[intOf];try omega)
              · go_simp
                go_at_call 54
                refine(HWT.out k2 (Below.refl _ _)).mono ?_
                rintro e k3 ⟨rfl,hb3⟩
                refine hK.out _ _ (HeldM.of (F:=fun j=>j=g) (Moved.of_below hb3)) (fun _=>?_)
                clear hK K
                try simp only[Act.put,List.setIfInBounds_toArray,ts0,ts1]
                replace hHeld:=HeldM.of (F:=fun j=>j=g) (Moved.of_below hb3)
                have c2:k3.cell? ⟨g,1,none⟩=some (.int .i64 V):=(HG3.out.under hb3 HG3.out.lt).cell_at rfl
                refine wpAnyH_ready (rs:=[1]) (by kernel_rfl) (by simp) ?_
                refine AllReadyH.cons rfl (fun K hK=>?_) AllReadyH.nil
                refine Gr.step_load_run (by rfl) 3 (.tmp 50) rfl _ _ (by rfl) (Gr.run_load_int c2) ?_
                refine hK.out _ _ (HeldM.of (Moved.of_below hb3)) (fun _=>?_)
                clear hK K
                try simp only[Act.put]
                try simp only[List.setIfInBounds_toArray]
                try simp only[ts0,ts1]
                refine tka (v:=?_) 8 58 rfl rfl hHeld (Or.inl ⟨by rfl,?_⟩) rfl ?_
                rotate_left
                · intro wq hSw
                  go_simp
                  try with_reducible rfl
                simp only[ts0,ts1]
                refine tka (v:=?_) 9 59 rfl rfl hHeld (Or.inl ⟨by rfl,?_⟩) rfl ?_
                rotate_left
                · intro wq hSw
                  go_simp
                  try with_reducible rfl
                simp only[ts0,ts1]
                refine wpAnyH_ready (rs:=[10]) (by kernel_rfl) (by simp) ?_
                refine AllReadyH.cons rfl (fun K hK=>?_) AllReadyH.nil
                refine Gr.step_store_int (by rfl) 3 (.tmp 59) (.tmp 58) rfl g 1 .i64 (V+Tx.weight X.v.t) (by first | rfl | simp[Act.eval]) (by first | rfl | (simp[Act.eval];exact HWR.out.2)) ((HG3.out.under hb3 HG3.out.lt).there 1 1 (by show 1+1≤2;omega)) (by kernel_rfl) rfl ?_
                obtain⟨k4,hk4⟩:∃ u,u=k3.setCells g 1 [.int .i64 (V+Tx.weight X.v.t)]:=⟨_,rfl⟩
                rw[← hk4]
                have hm4:Moved (fun j=>j=g) k3 k4:=by rw[hk4];exact Moved.putAll (F:=fun j=>j=g) (.inl rfl) _ 1 (Moved.refl _ _)
                have HG4:=Lib.hid (show Has k4 g 42 #[.int .i64 (F+X.fee),.int .i64 (V+Tx.weight X.v.t)] by rw[hk4];exact(HG3.out.under hb3 HG3.out.lt).put 1 _)
                refine hK.out _ _ (HeldM.of ((Moved.of_below hb3).trans hm4 (fun k hk=>.inl hk))) (fun _=>?_)
                clear hK K hk4
                refine wpAnyH_done (by kernel_rfl) ?_ _
                clear lT hHeld
                have HB4:=Lib.hid (HB2.out.trans ((hb3.mono HB2.out.size).trans (hm4.below (fun k hk=>by rw[hk];exact HG1.out) (by have:=HB2.out.size;have:=hb3.size;omega))))
                clear hb3 hm4
                go_wp2
                go_roundw
                case rel=>exact⟨j+1,by omega,by go_num,Lib.hid ⟨by rw[HFF.out.1,HFF.out.2];exact HG4.out,HB4.out⟩⟩
                case measure=>(simp[intOf];try omega)
          · have hji:¬ (j:Int)<(n:Int):=by omega
            obtain rfl:j=n:=by omega
            have hLL:L.take j=L:=List.take_of_length_le (by rw[HH.out.1];omega)
            rw[hLL] at hF hV
            have HFV:=Lib.hid (And.intro hF hV)
            have c0:=HG.out.cell_at (i:=0) (v:=.int .i64 F) rfl
            have lG:=HG.out.load_agg (P:=Tryz.prog) (t:=42) Tryz.underlying42 rfl (by kernel_rfl)
            have hRr:=HR1.out.under hb HR1.out.lt
            clear hLL hF hV
            by_cases hgd:Am.Good F
            · have HGD:=Lib.hid hgd
              have HZ:=Lib.hid (show Z=(F,V,0) by rw[HZV.out,Gr.rateV,if_neg (by decide),if_pos (by rw[← HFV.out.1];exact hgd),← HFV.out.1,← HFV.out.2])
              clear hgd
              go_wp2_with (first
                | (refine wpList_store_mid rfl 42 (.tmp 4) (.tmp 65) rfl w.heap.size 0 #[.int .i64 F,.int .i64 V] rfl rfl (hRr.there 0 2 (Nat.le_refl _)) (by kernel_rfl) (Gr.all2 F V) ?_)
                | (go_at_call 55;(with_reducible refine(agood_any F true ⟨fun _=>HGD.out,fun _=>rfl⟩ _).mono ?_);rintro e w8 ⟨rfl,rfl⟩)
                | (refine wpList_load_run rfl 42 (.tmp 7) rfl _ _ rfl lG ?_))
              have hE:=hRr.whole_cs (cs2:=#[.int .i64 F,.int .i64 V]) rfl
              exact bodyPost_ret (results_cellslot rfl _ _ w.heap.size rfl _ _ (hE.load_var Tryz.underlying42 rfl (by kernel_rfl)) rfl) rfl ⟨by rw[HZ.out];rfl,below_setAll (by omega) _ 0 (HB1.out.trans (hb.mono HB1.out.size))⟩
            · have HGD:=Lib.hid hgd
              have HZ:=Lib.hid (show Z=(0,0,9) by rw[HZV.out,Gr.rateV,if_neg (by decide),if_neg (by rw[← HFV.out.1];exact hgd)])
              clear hgd
              go_wp2_with (first
                | (refine wpList_store_mid rfl 42 (.tmp 4) (.tmp 64) rfl w.heap.size 0 #[.int .i64 0,.int .i64 0] rfl rfl (hRr.there 0 2 (Nat.le_refl _)) (by kernel_rfl) (by kernel_rfl) ?_)
                | (go_at_call 55;(with_reducible refine(agood_any F false ⟨fun e=>absurd e Bool.false_ne_true,fun e=>absurd e HGD.out⟩ _).mono ?_);rintro e w8 ⟨rfl,rfl⟩))
              have hE:=hRr.whole_cs (cs2:=#[.int .i64 0,.int .i64 0]) rfl
              exact bodyPost_ret (results_cellslot rfl _ _ w.heap.size rfl _ _ (hE.load_var Tryz.underlying42 rfl (by kernel_rfl)) rfl) rfl ⟨by rw[HZ.out];rfl,below_setAll (by omega) _ 0 (HB1.out.trans (hb.mono HB1.out.size))⟩
end Go.Proofs.YtijemcfnlbapjaaGreatDoor
