/- the reference 14: spends, Parents, Children (mkgsb.py) -/
import Derived.Test.YtijemcfnlbapjaaGreatDoorJ29
namespace Go.Proofs.YtijemcfnlbapjaaGreatDoor
open Go Go.RowKit Go.ChangeShapes Go.WideShapes
namespace Gr
def ptR:Rec Cs.Pt where
  k:=33
  cells:=fun p=>ptCells p.1 p.2
  ok:=Cs.ptOk
  pos:=by omega
  len t h:=ptCells_len h.1
  one t v hv:=by
    rcases List.mem_append.1 hv with h | h
    · exact blist_one _ v h
    · rw[List.mem_singleton.1 h];rfl
theorem size_ptR:(Tryz.prog.info? 58).map (·.size)=some ptR.k:=by kernel_rfl
theorem pt_id {p:Cs.Pt} (j:Nat) (v:Value) (hv:(blist p.1)[j]? = some v):(ptCells p.1 p.2)[j]? = some v:=by
  unfold ptCells
  rw[List.getElem?_append_left (List.getElem?_eq_some_iff.1 hv).1]
  exact hv
theorem pt_n {p:Cs.Pt} (hp:p.1.length=32):(ptCells p.1 p.2)[32]? = some (.int .i64 p.2):=by
  unfold ptCells
  rw[List.getElem?_append_right (by rw[blist_length,hp];omega),blist_length,hp]
  rfl
def hit (id:List (BitVec 8)) (c:Nat) (s:Tx.Sp):Bool:=decide (s.h=id∧0≤s.n∧s.n<(c:Int))
theorem spends_hit (t:Tx.T) (id:List (BitVec 8)) (c:Nat):spends t id c=t.sp.any (hit id c):=rfl
end Gr
set_option maxRecDepth 100000 in
set_option maxHeartbeats 8000000 in
theorem rspends14_any (a:Option Addr) (n q:Nat) (b:Option Addr) (m r:Nat) (t:Tx.T) (id:List (BitVec 8)) (hid:id.length=32) (c:Nat) (hc:c≤9223372036854775807) (w:World) (ht:TxAt w a n q b m r t) :
    Calls Tryz.prog 61 #[txv a n q b m r t.firm,.agg (blist id).toArray,.int .i64 c] w fun e w'=>e=.returned (.bool (Gr.spends t id c))∧Below w.heap.size w w':=by
  have hnmx:n≤9223372036854775807:=ht.sp.2.1
  obtain⟨W1,hW1⟩:∃ x,x=(w.alloc (.cells #[.slice a n q,.slice b m r,.bool t.firm] 34)).alloc (.cells (blist id).toArray 46):=⟨_,rfl⟩
  have hB1:Below w.heap.size w W1:=by rw[hW1];exact((Below.refl _ _).alloc (Nat.le_refl _) _).alloc (by simp) _
  have hX1:Has W1 w.heap.size 34 #[.slice a n q,.slice b m r,.bool t.firm]:=by rw[hW1];exact(Has.fresh _ _ _).past _
  have hI1:Has W1 (w.heap.size+1) 46 (blist id).toArray:=by rw[hW1];exact Has.fresh_at _ _ _ (by simp)
  have HW:=Lib.hid hW1
  have HB1:=Lib.hid hB1
  have HX:=Lib.hid hX1
  have HI:=Lib.hid hI1
  have HIDL:=Lib.hid hid
  have HR:=Lib.hid (ht.sp.below hB1)
  obtain⟨R,hR⟩:∃ r,r=Gr.spends t id c:=⟨_,rfl⟩
  rw[← hR]
  have HRR:=Lib.hid (hR.trans (Gr.spends_hit t id c))
  have HCC:=Lib.hid hc
  have hcm:(c:Int)≤9223372036854775807:=by omega
  clear hW1 hX1 hI1 hB1 hid ht hR
  go_enter Tryz.func61,Tryz.ntmps61
  go_upto_region 1 with fail
  rw[← HW.out]
  go_wp2
  go_loopw [7] (fun iv wr=>∃ (i:Nat),i≤n∧iv=.int .i64 i∧RowKit.Hid ((t.sp.take i).any (Gr.hit id c)=false)∧Below W1.heap.size W1 wr) (fun iv _=>n-(intOf iv).toNat)
  case atStart=>exact⟨0,Nat.zero_le _,rfl,Lib.hid rfl,Below.refl _ _⟩
  case round=>
    obtain⟨i,hi,rfl,HN,hb⟩:=hrel
    have c0:wr.cell? ⟨w.heap.size,0,none⟩=some (.slice a n q):=(HX.out.under hb HX.out.lt).cell_at rfl
    by_cases hlt:i<n
    · have hii:(i:Int)<(n:Int):=by omega
      have hi0:(0:Int)≤(i:Int):=by omega
      obtain⟨s,hs⟩:=HR.out.get hlt
      have HSO:=Lib.hid (HR.out.okay hs)
      obtain⟨y,hya,_⟩:=HR.out.2.2.2 i s hs
      rw[hya] at c0
      have HR2:=Lib.hid (show Recs spRec W1 (some y) n t.sp by rw[← hya];exact HR.out)
      have lP:(Instr.loadAt 58 (.pointer (some (y.add (i*35))))).run Tryz.prog wr=.ok (.agg (ptCells s.h s.n).toArray) wr:=Gr.load_part (R:=spRec) Tryz.underlying58 rfl (HR2.out.below hb) hs (ptCells s.h s.n) (by rw[ptCells_len HSO.out.1];kernel_rfl) Gr.sp_ptc
      have HT:=Lib.hid (show t.sp.take (i+1)=t.sp.take i++[s] by
        obtain⟨h2,h3⟩:=List.getElem?_eq_some_iff.1 hs
        rw[List.take_succ_eq_append_getElem h2,h3])
      have HHIT:=Lib.hid (show Gr.hit id c s=true→R=true from fun h=>by rw[HRR.out];exact List.any_eq_true.2 ⟨s,List.mem_of_getElem? hs,h⟩)
      have HPO:=Lib.hid (Gr.pt_ok HSO.out)
      have hno:=(show -9223372036854775808≤s.n∧s.n<9223372036854775808 from HSO.out.2.1)
      clear hs hya
      go_upto_region 5 with(first
        | (refine wpList_store_mid rfl 58 (.tmp 8) (.tmp 21) rfl wr.heap.size 0 (ptCells s.h s.n).toArray rfl rfl (Gr.ptR.there wr 58 (by kernel_rfl) HPO.out) (Gr.ptR.size_eq Gr.size_ptR HPO.out) (Gr.ptR.all_one (Gr.pt s)) ?_)
        | (refine wpList_load_run rfl 58 (.tmp 20) rfl _ _ rfl lP ?_))
      obtain⟨w5,hw5⟩:∃ u',u'=(wr.alloc (.cells zPt 58)).setCells wr.heap.size 0 (ptCells s.h s.n):=⟨_,rfl⟩
      obtain⟨hG,hb5⟩:=Rec.new (R:=Gr.ptR) (t:=Gr.pt s) (by kernel_rfl) HPO.out hw5
      rw[← hw5]
      have hB5:Below W1.heap.size W1 w5:=hb.trans (hb5.mono hb.size)
      obtain⟨g5,hg5⟩:∃ g,g=wr.heap.size:=⟨_,rfl⟩
      rw[← hg5] at hG ⊢
      have hP:Has w5 g5 58 (ptCells s.h s.n).toArray:=hG
      have lh:(Instr.loadAt 46 (.pointer (some ⟨g5,0,none⟩))).run Tryz.prog w5=.ok (.agg (blist s.h).toArray) w5:=
        Gr.load_mid hP 0 (blist s.h) (fun j v hj=>by rw[Nat.zero_add,List.getElem?_toArray];exact Gr.pt_id (p:=Gr.pt s) j v hj) Tryz.underlying46 rfl (by rw[blist_length,HSO.out.1];kernel_rfl)
      have ln:w5.cell? ⟨g5,32,none⟩=some (.int .i64 s.n):=hP.cell_at (by rw[List.getElem?_toArray];exact Gr.pt_n (p:=Gr.pt s) HSO.out.1)
      have li:=(HI.out.under hB5 HI.out.lt).load_agg (P:=Tryz.prog) (t:=46) Tryz.underlying46 rfl (size_hs HIDL.out)
      have HB5:=Lib.hid hB5
      clear hw5 hb5 hg5 hG hP lP c0 hb hB5
      by_cases he:s.h=id
      · have HE:=Lib.hid (show decide (s.h=id)=true from decide_eq_true he)
        by_cases h0:(0:Int)≤s.n
        · by_cases h1:s.n<(c:Int)
          · have HT1:=Lib.hid (HHIT.out (decide_eq_true ⟨he,h0,h1⟩))
            clear he
            go_wp2_with (first
              | (refine Gr.wpList_eql_if (by rfl) 46 5 46 32 (.tmp 23) (.tmp 24) rfl s.h id (by rfl) (by rfl) (by kernel_rfl) Tryz.underlying46 Tryz.underlying5 (by kernel_rfl) HSO.out.1 HIDL.out HE.out ?_)
              | (refine wpList_load_run rfl 46 (.tmp 22) rfl _ _ rfl lh ?_)
              | (refine wpList_load_run rfl 46 (.tmp 4) rfl _ _ rfl li ?_))
            go_ret
            exact⟨by rw[HT1.out];rfl,HB1.out.trans (HB5.out.mono HB1.out.size)⟩
          · have HN2:=Lib.hid (show(t.sp.take (i+1)).any (Gr.hit id c)=false by rw[HT.out,List.any_append,HN.out,List.any_cons,List.any_nil,show Gr.hit id c s=false from decide_eq_false (fun h=>h1 h.2.2)];rfl)
            clear he
            go_wp2_with (first
              | (refine Gr.wpList_eql_if (by rfl) 46 5 46 32 (.tmp 23) (.tmp 24) rfl s.h id (by rfl) (by rfl) (by kernel_rfl) Tryz.underlying46 Tryz.underlying5 (by kernel_rfl) HSO.out.1 HIDL.out HE.out ?_)
              | (refine wpList_load_run rfl 46 (.tmp 22) rfl _ _ rfl lh ?_)
              | (refine wpList_load_run rfl 46 (.tmp 4) rfl _ _ rfl li ?_))
            go_roundw
            case rel=>exact⟨i+1,by omega,by go_num,HN2,HB5.out⟩
            case measure=>(simp[intOf];try omega)
        · have HN2:=Lib.hid (show(t.sp.take (i+1)).any (Gr.hit id c)=false by rw[HT.out,List.any_append,HN.out,List.any_cons,List.any_nil,show Gr.hit id c s=false from decide_eq_false (fun h=>h0 h.2.1)];rfl)
          clear he
          go_wp2_with (first
            | (refine Gr.wpList_eql_if (by rfl) 46 5 46 32 (.tmp 23) (.tmp 24) rfl s.h id (by rfl) (by rfl) (by kernel_rfl) Tryz.underlying46 Tryz.underlying5 (by kernel_rfl) HSO.out.1 HIDL.out HE.out ?_)
            | (refine wpList_load_run rfl 46 (.tmp 22) rfl _ _ rfl lh ?_)
            | (refine wpList_load_run rfl 46 (.tmp 4) rfl _ _ rfl li ?_))
          go_roundw
          case rel=>exact⟨i+1,by omega,by go_num,HN2,HB5.out⟩
          case measure=>(simp[intOf];try omega)
      · have HE:=Lib.hid (show decide (s.h=id)=false from decide_eq_false he)
        have HN2:=Lib.hid (show(t.sp.take (i+1)).any (Gr.hit id c)=false by rw[HT.out,List.any_append,HN.out,List.any_cons,List.any_nil,show Gr.hit id c s=false from decide_eq_false (fun h=>he h.1)];rfl)
        clear he
        go_wp2_with (first
          | (refine Gr.wpList_eql_if (by rfl) 46 5 46 32 (.tmp 23) (.tmp 24) rfl s.h id (by rfl) (by rfl) (by kernel_rfl) Tryz.underlying46 Tryz.underlying5 (by kernel_rfl) HSO.out.1 HIDL.out HE.out ?_)
          | (refine wpList_load_run rfl 46 (.tmp 22) rfl _ _ rfl lh ?_)
          | (refine wpList_load_run rfl 46 (.tmp 4) rfl _ _ rfl li ?_))
        go_roundw
        case rel=>exact⟨i+1,by omega,by go_num,HN2,HB5.out⟩
        case measure=>(simp[intOf];try omega)
    · have hii:¬ (i:Int)<(n:Int):=by omega
      obtain rfl:i=n:=by omega
      have HRF:=Lib.hid (show R=false by
        rw[HRR.out]
        have:=HN.out
        rw[List.take_of_length_le (by rw[HR.out.1];exact Nat.le_refl _)] at this
        exact this)
      go_wp2
      go_ret
      exact⟨by rw[HRF.out];rfl,HB1.out.trans (hb.mono HB1.out.size)⟩
namespace Gr
theorem rnear_none {up:Bool} {L:List Rn} {id:List (BitVec 8)} (h:∀ x,x∈L→x.id≠id):rnear up L id=[]:=by
  have e:rfnd L id=none:=List.find?_eq_none.2 fun x hx=>by rw[decide_eq_true_eq];exact fun e=>h x hx e.symm
  unfold rnear
  rw[e]
theorem rn_inj {L:List Rn} (hn:(L.map (·.id)).Nodup):∀ x y,x∈L→y∈L→x.id=y.id→x=y:=by
  intro x y hx hy e
  obtain⟨i,hi,rfl⟩:=List.mem_iff_getElem.1 hx
  obtain⟨j,hj,rfl⟩:=List.mem_iff_getElem.1 hy
  have h3:=List.pairwise_iff_getElem.1 hn
  rcases Nat.lt_trichotomy i j with h | h | h
  · exact absurd (by rw[List.getElem_map,List.getElem_map];exact e) (h3 i j (by simpa using hi) (by simpa using hj) h)
  · subst h;rfl
  · exact absurd (by rw[List.getElem_map,List.getElem_map];exact e.symm) (h3 j i (by simpa using hj) (by simpa using hi) h)
theorem rfnd_is {L:List Rn} {id:List (BitVec 8)} {X:Rn} {ix:Nat} (hn:(L.map (·.id)).Nodup) (hX:L[ix]? = some X) (e:X.id=id):rfnd L id=some X:=by
  cases hf:rfnd L id with
  | none=>
    have:=List.find?_eq_none.1 hf X (List.mem_of_getElem? hX)
    rw[decide_eq_true_eq] at this
    exact absurd e.symm this
  | some Y=>
    have h1:=List.mem_of_find?_eq_some hf
    have h2:id=Y.id:=of_decide_eq_true (List.find?_some (p:=fun x:Rn=>decide (id=x.id)) hf)
    rw[rn_inj hn Y X h1 (List.mem_of_getElem? hX) (h2.symm.trans e.symm)]
theorem rnear_at_true {L:List Rn} {id:List (BitVec 8)} {X:Rn} {ix:Nat} (hn:(L.map (·.id)).Nodup) (hX:L[ix]? = some X) (e:X.id=id) (hco:∀ x,x∈L→x.v.t.co.length=x.v.m):rnear true L id=(L.filter fun k=>spends X.v.t k.id k.v.m).map (·.id):=by
  unfold rnear
  rw[rfnd_is hn hX e]
  show(L.filter fun k=>kn true X.key k.key).map (·.id)=_
  congr 1
  refine List.filter_congr fun k hk=>?_
  rw[← hco k hk]
  rfl
theorem rnear_at_false {L:List Rn} {id:List (BitVec 8)} {X:Rn} {ix:Nat} (hn:(L.map (·.id)).Nodup) (hX:L[ix]? = some X) (e:X.id=id) (hco:∀ x,x∈L→x.v.t.co.length=x.v.m):rnear false L id=(L.filter fun k=>spends k.v.t id X.v.m).map (·.id):=by
  unfold rnear
  rw[rfnd_is hn hX e]
  show(L.filter fun k=>kn false X.key k.key).map (·.id)=_
  congr 1
  refine List.filter_congr fun k _=>?_
  rw[← hco X (List.mem_of_getElem? hX),← e]
  rfl
theorem rn_co {w:World} {x:Addr} {n i:Nat} {L:List Rn} {t:Rn} (h:Recs rnRec w (some x) n L) (hi:L[i]? = some t):w.cell? ⟨(x.add (i*36)).block,(x.add (i*36)).off+1,none⟩=some (.slice t.v.b t.v.m t.v.r):=by
  exact h.fieldS (j:=0) hi rfl
end Gr
set_option maxRecDepth 100000 in
set_option maxHeartbeats 8000000 in
theorem rparents14_any (a:Option Addr) (n q:Nat) (L:List Gr.Rn) (id:List (BitVec 8)) (hid:id.length=32) (w:World) (h:Recs Gr.rnRec w a n L) (hv:∀ x,x∈L→x.v.At w) (hn:n≤1000000) (hnd:(L.map (·.id)).Nodup) :
    Calls Tryz.prog 20 #[.slice a n q,.agg (blist id).toArray] w fun e w'=>∃ v,e=.returned v∧OwnR Gr.hsRec 46 w.heap.size w' v (Gr.rnear true L id)∧Below w.heap.size w w':=by
  obtain⟨W1,hW1⟩:∃ ww,ww=w.alloc (.cells (blist id).toArray 46):=⟨_,rfl⟩
  have hB1:Below w.heap.size w W1:=by rw[hW1];exact(Below.refl _ _).alloc (Nat.le_refl _) _
  have hP1:Has W1 w.heap.size 46 (blist id).toArray:=by rw[hW1];exact Has.fresh _ _ _
  have lP:=hP1.load_agg (P:=Tryz.prog) (t:=46) Tryz.underlying46 rfl (size_hs hid)
  have HIDL:=Lib.hid hid
  have HH:=Lib.hid (h.below hB1)
  have HV:=Lib.hid (show ∀ x,x∈L→x.v.At W1 from fun x hx=>TxAt.below (hv x hx) hB1)
  have HN:=Lib.hid hn
  have HND:=Lib.hid hnd
  have hnmx:n≤9223372036854775807:=h.2.1
  have HF:=Lib.hid (rfind14_any a n q L id hid W1 (h.below hB1))
  have HW:=Lib.hid hW1
  have HB1:=Lib.hid hB1
  have HP1:=Lib.hid hP1
  clear hW1 hB1 hP1 hid h hv hn hnd
  go_enter Tryz.func20,Tryz.ntmps20
  go_upto_region 1 with fail
  rw[← HW.out]
  go_upto_region 2 with(first
    | (go_at_call 58;refine HF.out.mono ?_;rintro e w2 ⟨z,rfl,hz,hb2⟩)
    | (refine wpList_load_run rfl 46 (.tmp 3) rfl _ _ rfl lP ?_))
  have HB2:=Lib.hid hb2
  rcases hz with⟨rfl,hno⟩ | ⟨ix,X,rfl,hX,hXid⟩
  · have HE:=Lib.hid (show Gr.rnear true L id=[] from Gr.rnear_none hno)
    clear hno hb2
    have hm1:¬ (0:Int)≤-1:=by decide
    have hO0:RowKit.Hid (OwnR Gr.hsRec 46 w.heap.size w2 (.slice none 0 0) (Gr.rnear true L id)):=Lib.hid (by rw[HE.out];exact OwnR.nil _ _ _ _)
    by_cases h0:0<n
    · have hii:(0:Int)<(n:Int):=by omega
      go_wp2
      go_loopw [6,7] (fun sv iv wr=>sv=.slice none 0 0∧iv=.int .i64 0∧wr=w2) (fun _ _ _=>0)
      case atStart=>exact⟨rfl,rfl,rfl⟩
      case round=>
        obtain⟨rfl,rfl,rfl⟩:=hrel
        go_wp2
        go_ret
        exact⟨_,rfl,hO0.out,HB1.out.trans (HB2.out.mono HB1.out.size)⟩
    · have hii:¬ (0:Int)<(n:Int):=by omega
      go_wp2
      go_loopw [6,7] (fun sv iv wr=>sv=.slice none 0 0∧iv=.int .i64 0∧wr=w2) (fun _ _ _=>0)
      case atStart=>exact⟨rfl,rfl,rfl⟩
      case round=>
        obtain⟨rfl,rfl,rfl⟩:=hrel
        go_wp2
        go_ret
        exact⟨_,rfl,hO0.out,HB1.out.trans (HB2.out.mono HB1.out.size)⟩
  · have HXV:=Lib.hid (HV.out X (List.mem_of_getElem? hX))
    have hix:ix<n:=by rw[← HH.out.1];exact(List.getElem?_eq_some_iff.1 hX).1
    have hxi:(ix:Int)<(n:Int):=by omega
    have hx0:(0:Int)≤(ix:Int):=by omega
    obtain⟨ad,rfl,_⟩:=HH.out.2.2.2 ix X hX
    have HXL:=Lib.hid (show X.id.length=32 from HH.out.okay hX)
    have HX:=Lib.hid hX
    have HXI:=Lib.hid hXid
    have hxm:X.v.m≤9223372036854775807:=HXV.out.co.2.1
    obtain⟨cond,hcond⟩:∃ f:Gr.Rn→Bool,f=(fun k=>Gr.spends X.v.t k.id k.v.m):=⟨_,rfl⟩
    have HCD:=Lib.hid hcond
    have HHI:=Lib.hid (HH.out.below hb2)
    clear hX hXid hcond
    have HB12:=Lib.hid (HB1.out.trans (hb2.mono HB1.out.size))
    have hO0:RowKit.Hid (OwnR Gr.hsRec 46 w2.heap.size w2 (.slice none 0 0) (((L.take 0).filter cond).map (·.id))):=Lib.hid (OwnR.nil _ _ _ _)
    have HVB:=Lib.hid (show ∀ x,x∈L→x.v.At w2 from fun x hx=>TxAt.below (HV.out x hx) hb2)
    have HXVB:=Lib.hid (show X.v.At w2 from TxAt.below HXV.out hb2)
    have HP2:=Lib.hid (HP1.out.under hb2 HP1.out.lt)
    clear hb2
    go_wp2
    go_loopw [6,7] (fun sv iv wr=>∃ (i:Nat) (ov:Value),i≤n∧iv=.int .i64 i∧ov=sv∧RowKit.Hid (OwnR Gr.hsRec 46 w2.heap.size wr ov (((L.take i).filter cond).map (·.id)))∧Below w2.heap.size w2 wr) (fun _ iv _=>n-(intOf iv).toNat)
    case atStart=>exact⟨0,_,Nat.zero_le _,rfl,rfl,hO0,Below.refl _ _⟩
    case round=>
      clear hO0
      obtain⟨i,ov,hi,rfl,rfl,HO,hb⟩:=hrel
      by_cases hlt:i<n
      · have hii:(i:Int)<(n:Int):=by omega
        have hi0:(0:Int)≤(i:Int):=by omega
        obtain⟨k,hk⟩:=HH.out.get hlt
        have HKL:=Lib.hid (show k.id.length=32 from HH.out.okay hk)
        have HKV:=Lib.hid (HVB.out k (List.mem_of_getElem? hk))
        have hkm:k.v.m≤9223372036854775807:=HKV.out.co.2.1
        have HK:=Lib.hid hk
        have HT:=Lib.hid (show L.take (i+1)=L.take i++[k] by
          obtain⟨h2,h3⟩:=List.getElem?_eq_some_iff.1 hk
          rw[List.take_succ_eq_append_getElem h2,h3])
        have HLN:=Lib.hid (show(((L.take i).filter cond).map (·.id)).length≤i by
          rw[List.length_map]
          refine Nat.le_trans (List.length_filter_le _ _) ?_
          rw[List.length_take]
          omega)
        clear hk
        go_upto_region 6 with fail
        obtain⟨ws,hws⟩:∃ ww,ww=wr.drew:=⟨_,rfl⟩
        have hBs:Below w2.heap.size w2 ws:=by rw[hws];exact hb.drew
        have HOs:=Lib.hid (show OwnR Gr.hsRec 46 w2.heap.size ws ov (((L.take i).filter cond).map (·.id)) by rw[hws];exact HO.out.draw)
        have lP:=fun(wq:World) (hSw:Held ws wq)=>((HP2.out.under hBs HP2.out.lt).under hSw.below (HP2.out.under hBs HP2.out.lt).lt).load_agg (P:=Tryz.prog) (t:=46) Tryz.underlying46 rfl (size_hs HIDL.out)
        have lXT:=fun(wq:World) (hSw:Held ws wq)=>rn_ltx ((HHI.out.below hBs).below hSw.below) HX.out
        have lKT:=fun(wq:World) (hSw:Held ws wq)=>rn_ltx ((HHI.out.below hBs).below hSw.below) HK.out
        have lKI:=fun(wq:World) (hSw:Held ws wq)=>rn_lid ((HHI.out.below hBs).below hSw.below) HK.out
        have lKM:=fun(wq:World) (hSw:Held ws wq)=>Gr.rn_co ((HHI.out.below hBs).below hSw.below) HK.out
        have lXM:=fun(wq:World) (hSw:Held ws wq)=>Gr.rn_co ((HHI.out.below hBs).below hSw.below) HX.out
        obtain⟨R,hR⟩:∃ r,r=cond k:=⟨_,rfl⟩
        have HC:=Lib.hid (show ∀ wq,Below ws.heap.size ws wq→Calls Tryz.prog 61 #[txv X.v.a X.v.n X.v.q X.v.b X.v.m X.v.r X.v.t.firm,.agg (blist k.id).toArray,.int .i64 k.v.m] wq fun e w'=>e=.returned (.bool R)∧Below wq.heap.size wq w' from fun wq hq=>by
          have hbq:=hBs.trans (hq.mono hBs.size)
          have:=rspends14_any X.v.a X.v.n X.v.q X.v.b X.v.m X.v.r X.v.t k.id HKL.out k.v.m hkm wq (TxAt.below HXVB.out hbq)
          rw[hR,HCD.out]
          exact this)
        clear hb HO
        refine wp_region_held_drew (S:=Held ws) (by kernel_rfl) (by rw[hws];exact Held.refl _) (fun hHeld=>?_)
        rw[← hws] at hHeld ⊢
        clear hws
        refine tka (v:=?_) 0 21 rfl rfl hHeld (Or.inl ⟨by rfl,?_⟩) rfl ?_
        rotate_left
        · intro wq hSw
          go_simp
          try with_reducible rfl
        simp only[ts0,ts1]
        refine tka (v:=?_) 1 22 rfl rfl hHeld (Or.inl ⟨by rfl,?_⟩) rfl ?_
        rotate_left
        · intro wq hSw
          go_simp
          try with_reducible rfl
        simp only[ts0,ts1]
        refine tka (v:=?_) 2 23 rfl rfl hHeld (Or.inl ⟨by rfl,?_⟩) rfl ?_
        rotate_left
        · intro wq hSw
          go_simp
          try with_reducible rfl
        simp only[ts0,ts1]
        refine tka (v:=?_) 3 24 rfl rfl hHeld (Or.inl ⟨by rfl,?_⟩) rfl ?_
        rotate_left
        · intro wq hSw
          go_simp
          try with_reducible rfl
        simp only[ts0,ts1]
        refine tka 4 25 rfl rfl hHeld (yieldsIf_load_agg (by rfl) 34 (.tmp 24) rfl _ _ (by rfl) (fun wq hSw=>lXT wq hSw)) rfl ?_
        simp only[ts0,ts1]
        refine tka (v:=?_) 5 26 rfl rfl hHeld (Or.inl ⟨by rfl,?_⟩) rfl ?_
        rotate_left
        · intro wq hSw
          go_simp
          try with_reducible rfl
        simp only[ts0,ts1]
        refine tka (v:=?_) 6 27 rfl rfl hHeld (Or.inl ⟨by rfl,?_⟩) rfl ?_
        rotate_left
        · intro wq hSw
          go_simp
          try with_reducible rfl
        simp only[ts0,ts1]
        refine tka (v:=?_) 7 28 rfl rfl hHeld (Or.inl ⟨by rfl,?_⟩) rfl ?_
        rotate_left
        · intro wq hSw
          go_simp
          try with_reducible rfl
        simp only[ts0,ts1]
        refine tka (v:=?_) 8 29 rfl rfl hHeld (Or.inl ⟨by rfl,?_⟩) rfl ?_
        rotate_left
        · intro wq hSw
          go_simp
          try with_reducible rfl
        simp only[ts0,ts1]
        refine tka 9 30 rfl rfl hHeld (yieldsIf_load_agg (by rfl) 46 (.tmp 29) rfl _ _ (by rfl) (fun wq hSw=>lKI wq hSw)) rfl ?_
        simp only[ts0,ts1]
        refine tka (v:=?_) 10 31 rfl rfl hHeld (Or.inl ⟨by rfl,?_⟩) rfl ?_
        rotate_left
        · intro wq hSw
          go_simp
          try with_reducible rfl
        simp only[ts0,ts1]
        refine tka (v:=?_) 11 32 rfl rfl hHeld (Or.inl ⟨by rfl,?_⟩) rfl ?_
        rotate_left
        · intro wq hSw
          go_simp
          try with_reducible rfl
        simp only[ts0,ts1]
        refine tka (v:=?_) 12 33 rfl rfl hHeld (Or.inl ⟨by rfl,?_⟩) rfl ?_
        rotate_left
        · intro wq hSw
          go_simp
          try with_reducible rfl
        simp only[ts0,ts1]
        refine tka (v:=?_) 13 34 rfl rfl hHeld (Or.inl ⟨by rfl,?_⟩) rfl ?_
        rotate_left
        · intro wq hSw
          go_simp
          try with_reducible rfl
        simp only[ts0,ts1]
        refine tka (v:=?_) 14 35 rfl rfl hHeld (Or.inl ⟨by rfl,?_⟩) rfl ?_
        rotate_left
        · intro wq hSw
          go_simp
          try with_reducible rfl
        simp only[ts0,ts1]
        refine tka (v:=?_) 15 36 rfl rfl hHeld (Or.inl ⟨by rfl,?_⟩) rfl ?_
        rotate_left
        · intro wq hSw
          have hst:=lKM wq hSw
          go_simp
          try with_reducible rfl
        simp only[ts0,ts1]
        refine tka (v:=?_) 16 37 rfl rfl hHeld (Or.inl ⟨by rfl,?_⟩) rfl ?_
        rotate_left
        · intro wq hSw
          go_simp
          try with_reducible rfl
        simp only[ts0,ts1]
        refine wpAnyH_ready (rs:=[17]) (by kernel_rfl) (by simp) ?_
        refine AllReadyH.cons rfl (fun K hK=>?_) AllReadyH.nil
        go_simp
        go_at_call 61
        refine(HC.out ws (Below.refl _ _)).mono ?_
        rintro e w9 ⟨rfl,hb9⟩
        refine hK.out _ _ (Held.of hb9) (fun _=>?_)
        clear hK K
        try simp only[Act.put,List.setIfInBounds_toArray,ts0,ts1]
        replace hHeld:=Held.of hb9
        refine wpAnyH_done (by kernel_rfl) ?_ _
        have hB9:=hBs.trans (hb9.mono hBs.size)
        have HO9:=Lib.hid (HOs.out.below hb9)
        clear hHeld lP lXT lKT lKI lKM lXM hb9
        have hs9:=hB9.size
        cases R
        · have HFF:=Lib.hid (show((L.take (i+1)).filter cond).map (·.id)=((L.take i).filter cond).map (·.id) by rw[HT.out,List.filter_append];simp[← hR])
          clear hR
          go_wp2
          go_roundw
          case rel=>exact⟨i+1,ov,by omega,by go_num,rfl,by rw[HFF.out];exact HO9,hB9⟩
          case measure=>(simp[intOf];try omega)
        · have HFF:=Lib.hid (show((L.take (i+1)).filter cond).map (·.id)=((L.take i).filter cond).map (·.id)++[k.id] by rw[HT.out,List.filter_append];simp[← hR])
          clear hR
          have lid:=rn_lid (HHI.out.below hB9) HK.out
          go_wp2_with (first
            | (at_builtin;refine wpList_append_recs (R:=Gr.hsRec) rfl (.tmp 39) (.tmp 45) 30 rfl 46 Tryz.underlying30 Gr.info_hs (by kernel_rfl) (by decide) w2.heap.size ov _ rfl (HO9.out.below ((Below.refl _ _).alloc (Nat.le_refl _) _)) (some ⟨w9.heap.size,0,none⟩) 1 1 [k.id] rfl (Gr.hs_fresh HKL.out) (fun e=>by cases e) (by have:=HLN.out;have:=HN.out;omega) (by simp;omega) ?_;intro v' w7 ho' hg' hl')
            | (refine wpList_build_row rfl (.tmp 44) 30 rfl 46 Tryz.underlying30 Gr.info_hs (by decide) (by decide) (blist k.id).toArray (by rw[List.size_toArray,blist_length,HKL.out];rfl) rfl ?_)
            | (refine wpList_load_run rfl 46 (.tmp 43) rfl _ _ rfl lid ?_))
          have hB7:=below_own_recs (hB9.alloc hs9 _) hg' HO9.out.lt
          have HO2:=Lib.hid (show OwnR Gr.hsRec 46 w2.heap.size w7 v' (((L.take (i+1)).filter cond).map (·.id)) by rw[HFF.out];exact ho')
          clear ho' hg' hl' lid
          go_roundw
          case rel=>exact⟨i+1,v',by omega,by go_num,rfl,HO2,hB7⟩
          case measure=>(simp[intOf];try omega)
      · have hii:¬ (i:Int)<(n:Int):=by omega
        obtain rfl:i=n:=by omega
        have HO2:=Lib.hid (show OwnR Gr.hsRec 46 w2.heap.size wr ov (Gr.rnear true L id) by
          have e:L.take i=L:=List.take_of_length_le (by rw[HH.out.1];exact Nat.le_refl _)
          have:=HO.out
          rw[e] at this
          have e2:Gr.rnear true L id=(L.filter cond).map (·.id):=by
            rw[HCD.out]
            exact Gr.rnear_at_true HND.out HX.out HXI.out (fun x hx=>(HV.out x hx).co.1)
          rw[e2]
          exact this)
        clear HO
        go_wp2
        go_ret
        exact⟨ov,rfl,HO2.out.low HB12.out.size,HB12.out.trans (hb.mono HB12.out.size)⟩
set_option maxRecDepth 100000 in
set_option maxHeartbeats 8000000 in
theorem rchildren14_any (a:Option Addr) (n q:Nat) (L:List Gr.Rn) (id:List (BitVec 8)) (hid:id.length=32) (w:World) (h:Recs Gr.rnRec w a n L) (hv:∀ x,x∈L→x.v.At w) (hn:n≤1000000) (hnd:(L.map (·.id)).Nodup) :
    Calls Tryz.prog 22 #[.slice a n q,.agg (blist id).toArray] w fun e w'=>∃ v,e=.returned v∧OwnR Gr.hsRec 46 w.heap.size w' v (Gr.rnear false L id)∧Below w.heap.size w w':=by
  obtain⟨W1,hW1⟩:∃ ww,ww=w.alloc (.cells (blist id).toArray 46):=⟨_,rfl⟩
  have hB1:Below w.heap.size w W1:=by rw[hW1];exact(Below.refl _ _).alloc (Nat.le_refl _) _
  have hP1:Has W1 w.heap.size 46 (blist id).toArray:=by rw[hW1];exact Has.fresh _ _ _
  have lP:=hP1.load_agg (P:=Tryz.prog) (t:=46) Tryz.underlying46 rfl (size_hs hid)
  have HIDL:=Lib.hid hid
  have HH:=Lib.hid (h.below hB1)
  have HV:=Lib.hid (show ∀ x,x∈L→x.v.At W1 from fun x hx=>TxAt.below (hv x hx) hB1)
  have HN:=Lib.hid hn
  have HND:=Lib.hid hnd
  have hnmx:n≤9223372036854775807:=h.2.1
  have HF:=Lib.hid (rfind14_any a n q L id hid W1 (h.below hB1))
  have HW:=Lib.hid hW1
  have HB1:=Lib.hid hB1
  have HP1:=Lib.hid hP1
  clear hW1 hB1 hP1 hid h hv hn hnd
  go_enter Tryz.func22,Tryz.ntmps22
  go_upto_region 1 with fail
  rw[← HW.out]
  go_upto_region 2 with(first
    | (go_at_call 58;refine HF.out.mono ?_;rintro e w2 ⟨z,rfl,hz,hb2⟩)
    | (refine wpList_load_run rfl 46 (.tmp 3) rfl _ _ rfl lP ?_))
  have HB2:=Lib.hid hb2
  rcases hz with⟨rfl,hno⟩ | ⟨ix,X,rfl,hX,hXid⟩
  · have HE:=Lib.hid (show Gr.rnear false L id=[] from Gr.rnear_none hno)
    clear hno hb2
    have hm1:¬ (0:Int)≤-1:=by decide
    have hO0:RowKit.Hid (OwnR Gr.hsRec 46 w.heap.size w2 (.slice none 0 0) (Gr.rnear false L id)):=Lib.hid (by rw[HE.out];exact OwnR.nil _ _ _ _)
    by_cases h0:0<n
    · have hii:(0:Int)<(n:Int):=by omega
      go_wp2
      go_loopw [6,7] (fun sv iv wr=>sv=.slice none 0 0∧iv=.int .i64 0∧wr=w2) (fun _ _ _=>0)
      case atStart=>exact⟨rfl,rfl,rfl⟩
      case round=>
        obtain⟨rfl,rfl,rfl⟩:=hrel
        go_wp2
        go_ret
        exact⟨_,rfl,hO0.out,HB1.out.trans (HB2.out.mono HB1.out.size)⟩
    · have hii:¬ (0:Int)<(n:Int):=by omega
      go_wp2
      go_loopw [6,7] (fun sv iv wr=>sv=.slice none 0 0∧iv=.int .i64 0∧wr=w2) (fun _ _ _=>0)
      case atStart=>exact⟨rfl,rfl,rfl⟩
      case round=>
        obtain⟨rfl,rfl,rfl⟩:=hrel
        go_wp2
        go_ret
        exact⟨_,rfl,hO0.out,HB1.out.trans (HB2.out.mono HB1.out.size)⟩
  · have HXV:=Lib.hid (HV.out X (List.mem_of_getElem? hX))
    have hix:ix<n:=by rw[← HH.out.1];exact(List.getElem?_eq_some_iff.1 hX).1
    have hxi:(ix:Int)<(n:Int):=by omega
    have hx0:(0:Int)≤(ix:Int):=by omega
    obtain⟨ad,rfl,_⟩:=HH.out.2.2.2 ix X hX
    have HXL:=Lib.hid (show X.id.length=32 from HH.out.okay hX)
    have HX:=Lib.hid hX
    have HXI:=Lib.hid hXid
    have hxm:X.v.m≤9223372036854775807:=HXV.out.co.2.1
    obtain⟨cond,hcond⟩:∃ f:Gr.Rn→Bool,f=(fun k=>Gr.spends k.v.t id X.v.m):=⟨_,rfl⟩
    have HCD:=Lib.hid hcond
    have HHI:=Lib.hid (HH.out.below hb2)
    clear hX hXid hcond
    have HB12:=Lib.hid (HB1.out.trans (hb2.mono HB1.out.size))
    have hO0:RowKit.Hid (OwnR Gr.hsRec 46 w2.heap.size w2 (.slice none 0 0) (((L.take 0).filter cond).map (·.id))):=Lib.hid (OwnR.nil _ _ _ _)
    have HVB:=Lib.hid (show ∀ x,x∈L→x.v.At w2 from fun x hx=>TxAt.below (HV.out x hx) hb2)
    have HXVB:=Lib.hid (show X.v.At w2 from TxAt.below HXV.out hb2)
    have HP2:=Lib.hid (HP1.out.under hb2 HP1.out.lt)
    clear hb2
    go_wp2
    go_loopw [6,7] (fun sv iv wr=>∃ (i:Nat) (ov:Value),i≤n∧iv=.int .i64 i∧ov=sv∧RowKit.Hid (OwnR Gr.hsRec 46 w2.heap.size wr ov (((L.take i).filter cond).map (·.id)))∧Below w2.heap.size w2 wr) (fun _ iv _=>n-(intOf iv).toNat)
    case atStart=>exact⟨0,_,Nat.zero_le _,rfl,rfl,hO0,Below.refl _ _⟩
    case round=>
      clear hO0
      obtain⟨i,ov,hi,rfl,rfl,HO,hb⟩:=hrel
      by_cases hlt:i<n
      · have hii:(i:Int)<(n:Int):=by omega
        have hi0:(0:Int)≤(i:Int):=by omega
        obtain⟨k,hk⟩:=HH.out.get hlt
        have HKL:=Lib.hid (show k.id.length=32 from HH.out.okay hk)
        have HKV:=Lib.hid (HVB.out k (List.mem_of_getElem? hk))
        have hkm:k.v.m≤9223372036854775807:=HKV.out.co.2.1
        have HK:=Lib.hid hk
        have HT:=Lib.hid (show L.take (i+1)=L.take i++[k] by
          obtain⟨h2,h3⟩:=List.getElem?_eq_some_iff.1 hk
          rw[List.take_succ_eq_append_getElem h2,h3])
        have HLN:=Lib.hid (show(((L.take i).filter cond).map (·.id)).length≤i by
          rw[List.length_map]
          refine Nat.le_trans (List.length_filter_le _ _) ?_
          rw[List.length_take]
          omega)
        clear hk
        go_upto_region 6 with fail
        obtain⟨ws,hws⟩:∃ ww,ww=wr.drew:=⟨_,rfl⟩
        have hBs:Below w2.heap.size w2 ws:=by rw[hws];exact hb.drew
        have HOs:=Lib.hid (show OwnR Gr.hsRec 46 w2.heap.size ws ov (((L.take i).filter cond).map (·.id)) by rw[hws];exact HO.out.draw)
        have lP:=fun(wq:World) (hSw:Held ws wq)=>((HP2.out.under hBs HP2.out.lt).under hSw.below (HP2.out.under hBs HP2.out.lt).lt).load_agg (P:=Tryz.prog) (t:=46) Tryz.underlying46 rfl (size_hs HIDL.out)
        have lXT:=fun(wq:World) (hSw:Held ws wq)=>rn_ltx ((HHI.out.below hBs).below hSw.below) HX.out
        have lKT:=fun(wq:World) (hSw:Held ws wq)=>rn_ltx ((HHI.out.below hBs).below hSw.below) HK.out
        have lKI:=fun(wq:World) (hSw:Held ws wq)=>rn_lid ((HHI.out.below hBs).below hSw.below) HK.out
        have lKM:=fun(wq:World) (hSw:Held ws wq)=>Gr.rn_co ((HHI.out.below hBs).below hSw.below) HK.out
        have lXM:=fun(wq:World) (hSw:Held ws wq)=>Gr.rn_co ((HHI.out.below hBs).below hSw.below) HX.out
        obtain⟨R,hR⟩:∃ r,r=cond k:=⟨_,rfl⟩
        have HC:=Lib.hid (show ∀ wq,Below ws.heap.size ws wq→Calls Tryz.prog 61 #[txv k.v.a k.v.n k.v.q k.v.b k.v.m k.v.r k.v.t.firm,.agg (blist id).toArray,.int .i64 X.v.m] wq fun e w'=>e=.returned (.bool R)∧Below wq.heap.size wq w' from fun wq hq=>by
          have hbq:=hBs.trans (hq.mono hBs.size)
          have:=rspends14_any k.v.a k.v.n k.v.q k.v.b k.v.m k.v.r k.v.t id HIDL.out X.v.m hxm wq (TxAt.below HKV.out hbq)
          rw[hR,HCD.out]
          exact this)
        clear hb HO
        refine wp_region_held_drew (S:=Held ws) (by kernel_rfl) (by rw[hws];exact Held.refl _) (fun hHeld=>?_)
        rw[← hws] at hHeld ⊢
        clear hws
        refine tka (v:=?_) 0 21 rfl rfl hHeld (Or.inl ⟨by rfl,?_⟩) rfl ?_
        rotate_left
        · intro wq hSw
          go_simp
          try with_reducible rfl
        simp only[ts0,ts1]
        refine tka (v:=?_) 1 22 rfl rfl hHeld (Or.inl ⟨by rfl,?_⟩) rfl ?_
        rotate_left
        · intro wq hSw
          go_simp
          try with_reducible rfl
        simp only[ts0,ts1]
        refine tka (v:=?_) 2 23 rfl rfl hHeld (Or.inl ⟨by rfl,?_⟩) rfl ?_
        rotate_left
        · intro wq hSw
          go_simp
          try with_reducible rfl
        simp only[ts0,ts1]
        refine tka (v:=?_) 3 24 rfl rfl hHeld (Or.inl ⟨by rfl,?_⟩) rfl ?_
        rotate_left
        · intro wq hSw
          go_simp
          try with_reducible rfl
        simp only[ts0,ts1]
        refine tka 4 25 rfl rfl hHeld (yieldsIf_load_agg (by rfl) 34 (.tmp 24) rfl _ _ (by rfl) (fun wq hSw=>lKT wq hSw)) rfl ?_
        simp only[ts0,ts1]
        refine tka 5 26 rfl rfl hHeld (yieldsIf_load_agg (by rfl) 46 (.tmp 3) rfl _ _ (by rfl) (fun wq hSw=>lP wq hSw)) rfl ?_
        simp only[ts0,ts1]
        refine tka (v:=?_) 6 27 rfl rfl hHeld (Or.inl ⟨by rfl,?_⟩) rfl ?_
        rotate_left
        · intro wq hSw
          go_simp
          try with_reducible rfl
        simp only[ts0,ts1]
        refine tka (v:=?_) 7 28 rfl rfl hHeld (Or.inl ⟨by rfl,?_⟩) rfl ?_
        rotate_left
        · intro wq hSw
          go_simp
          try with_reducible rfl
        simp only[ts0,ts1]
        refine tka (v:=?_) 8 29 rfl rfl hHeld (Or.inl ⟨by rfl,?_⟩) rfl ?_
        rotate_left
        · intro wq hSw
          go_simp
          try with_reducible rfl
        simp only[ts0,ts1]
        refine tka (v:=?_) 9 30 rfl rfl hHeld (Or.inl ⟨by rfl,?_⟩) rfl ?_
        rotate_left
        · intro wq hSw
          go_simp
          try with_reducible rfl
        simp only[ts0,ts1]
        refine tka (v:=?_) 10 31 rfl rfl hHeld (Or.inl ⟨by rfl,?_⟩) rfl ?_
        rotate_left
        · intro wq hSw
          go_simp
          try with_reducible rfl
        simp only[ts0,ts1]
        refine tka (v:=?_) 11 32 rfl rfl hHeld (Or.inl ⟨by rfl,?_⟩) rfl ?_
        rotate_left
        · intro wq hSw
          have hst:=lXM wq hSw
          go_simp
          try with_reducible rfl
        simp only[ts0,ts1]
        refine tka (v:=?_) 12 33 rfl rfl hHeld (Or.inl ⟨by rfl,?_⟩) rfl ?_
        rotate_left
        · intro wq hSw
          go_simp
          try with_reducible rfl
        simp only[ts0,ts1]
        refine wpAnyH_ready (rs:=[13]) (by kernel_rfl) (by simp) ?_
        refine AllReadyH.cons rfl (fun K hK=>?_) AllReadyH.nil
        go_simp
        go_at_call 61
        refine(HC.out ws (Below.refl _ _)).mono ?_
        rintro e w9 ⟨rfl,hb9⟩
        refine hK.out _ _ (Held.of hb9) (fun _=>?_)
        clear hK K
        try simp only[Act.put,List.setIfInBounds_toArray,ts0,ts1]
        replace hHeld:=Held.of hb9
        refine wpAnyH_done (by kernel_rfl) ?_ _
        have hB9:=hBs.trans (hb9.mono hBs.size)
        have HO9:=Lib.hid (HOs.out.below hb9)
        clear hHeld lP lXT lKT lKI lKM lXM hb9
        have hs9:=hB9.size
        cases R
        · have HFF:=Lib.hid (show((L.take (i+1)).filter cond).map (·.id)=((L.take i).filter cond).map (·.id) by rw[HT.out,List.filter_append];simp[← hR])
          clear hR
          go_wp2
          go_roundw
          case rel=>exact⟨i+1,ov,by omega,by go_num,rfl,by rw[HFF.out];exact HO9,hB9⟩
          case measure=>(simp[intOf];try omega)
        · have HFF:=Lib.hid (show((L.take (i+1)).filter cond).map (·.id)=((L.take i).filter cond).map (·.id)++[k.id] by rw[HT.out,List.filter_append];simp[← hR])
          clear hR
          have lid:=rn_lid (HHI.out.below hB9) HK.out
          go_wp2_with (first
            | (at_builtin;refine wpList_append_recs (R:=Gr.hsRec) rfl (.tmp 35) (.tmp 41) 30 rfl 46 Tryz.underlying30 Gr.info_hs (by kernel_rfl) (by decide) w2.heap.size ov _ rfl (HO9.out.below ((Below.refl _ _).alloc (Nat.le_refl _) _)) (some ⟨w9.heap.size,0,none⟩) 1 1 [k.id] rfl (Gr.hs_fresh HKL.out) (fun e=>by cases e) (by have:=HLN.out;have:=HN.out;omega) (by simp;omega) ?_;intro v' w7 ho' hg' hl')
            | (refine wpList_build_row rfl (.tmp 40) 30 rfl 46 Tryz.underlying30 Gr.info_hs (by decide) (by decide) (blist k.id).toArray (by rw[List.size_toArray,blist_length,HKL.out];rfl) rfl ?_)
            | (refine wpList_load_run rfl 46 (.tmp 39) rfl _ _ rfl lid ?_))
          have hB7:=below_own_recs (hB9.alloc hs9 _) hg' HO9.out.lt
          have HO2:=Lib.hid (show OwnR Gr.hsRec 46 w2.heap.size w7 v' (((L.take (i+1)).filter cond).map (·.id)) by rw[HFF.out];exact ho')
          clear ho' hg' hl' lid
          go_roundw
          case rel=>exact⟨i+1,v',by omega,by go_num,rfl,HO2,hB7⟩
          case measure=>(simp[intOf];try omega)
      · have hii:¬ (i:Int)<(n:Int):=by omega
        obtain rfl:i=n:=by omega
        have HO2:=Lib.hid (show OwnR Gr.hsRec 46 w2.heap.size wr ov (Gr.rnear false L id) by
          have e:L.take i=L:=List.take_of_length_le (by rw[HH.out.1];exact Nat.le_refl _)
          have:=HO.out
          rw[e] at this
          have e2:Gr.rnear false L id=(L.filter cond).map (·.id):=by
            rw[HCD.out]
            exact Gr.rnear_at_false HND.out HX.out HXI.out (fun x hx=>(HV.out x hx).co.1)
          rw[e2]
          exact this)
        clear HO
        go_wp2
        go_ret
        exact⟨ov,rfl,HO2.out.low HB12.out.size,HB12.out.trans (hb.mono HB12.out.size)⟩
end Go.Proofs.YtijemcfnlbapjaaGreatDoor
