/- the reference 14: Order, Spender (mkgrq.py) · the reference 14: Conflicts (mkgrr.py) -/
import Derived.Test.YtijemcfnlbapjaaGreatDoorJ26
namespace Go.Proofs.YtijemcfnlbapjaaGreatDoor
open Go Go.RowKit Go.ChangeShapes Go.WideShapes
set_option maxRecDepth 100000 in
set_option maxHeartbeats 8000000 in
theorem rorder14_any (a:Option Addr) (n q:Nat) (L:List Gr.Rn) (b:Option Addr) (m r:Nat) (I:List (List (BitVec 8))) (w:World) (h:Recs Gr.rnRec w a n L) (hI:Recs Gr.hsRec w b m I) (hn:n≤1000000) :
    Calls Tryz.prog 69 #[.slice a n q,.slice b m r] w fun e w'=>∃ v,e=.returned v∧OwnR Gr.hsRec 46 w.heap.size w' v ((L.filter fun x=>decide (x.id∈I)).map (·.id))∧Below w.heap.size w w':=by
  have HH:=Lib.hid h
  have HI:=Lib.hid hI
  have HN:=Lib.hid hn
  have hnmx:n≤9223372036854775807:=h.2.1
  clear h hI hn
  go_enter Tryz.func69,Tryz.ntmps69
  go_wp2
  have hO0:RowKit.Hid (OwnR Gr.hsRec 46 w.heap.size w (.slice none 0 0) (((L.take 0).filter fun x=>decide (x.id∈I)).map (·.id))):=Lib.hid (OwnR.nil _ _ _ _)
  go_loopw [5,6] (fun sv iv wr=>∃ (i:Nat) (ov:Value),i≤n∧iv=.int .i64 i∧ov=sv∧RowKit.Hid (OwnR Gr.hsRec 46 w.heap.size wr ov (((L.take i).filter fun x=>decide (x.id∈I)).map (·.id)))∧Below w.heap.size w wr) (fun _ iv _=>n-(intOf iv).toNat)
  case atStart=>exact⟨0,_,Nat.zero_le _,rfl,rfl,hO0,Below.refl _ _⟩
  case round=>
    clear hO0
    obtain⟨i,ov,hi,rfl,rfl,HO,hb⟩:=hrel
    by_cases hlt:i<n
    · have hii:(i:Int)<(n:Int):=by omega
      have hi0:(0:Int)≤(i:Int):=by omega
      obtain⟨x,hx⟩:=HH.out.get hlt
      have HYL:=Lib.hid (show x.id.length=32 from HH.out.okay hx)
      obtain⟨ad,rfl,_⟩:=HH.out.2.2.2 i x hx
      have HT:=Lib.hid (show L.take (i+1)=L.take i++[x] by
        obtain⟨h2,h3⟩:=List.getElem?_eq_some_iff.1 hx
        rw[List.take_succ_eq_append_getElem h2,h3])
      have HLN:=Lib.hid (show(((L.take i).filter fun x=>decide (x.id∈I)).map (·.id)).length≤i by
        rw[List.length_map]
        refine Nat.le_trans (List.length_filter_le _ _) ?_
        rw[List.length_take]
        omega)
      have lid:=rn_lid (HH.out.below hb) hx
      have HX:=Lib.hid hx
      have HIN:=Lib.hid (rin_any b m r I x.id HYL.out wr (HI.out.below hb))
      have hsz:=hb.size
      obtain⟨R,hR⟩:∃ r,r=decide (x.id∈I):=⟨_,rfl⟩
      rw[← hR] at HIN
      have HB:=Lib.hid hb
      clear hx hb
      cases R
      · have HF:=Lib.hid (show((L.take (i+1)).filter fun x=>decide (x.id∈I)).map (·.id)=((L.take i).filter fun x=>decide (x.id∈I)).map (·.id) by rw[HT.out,List.filter_append];simp[← hR])
        clear hR
        go_wp2_with (first
          | (go_at_call 53;refine HIN.out.mono ?_;rintro e w5 ⟨rfl,hb5⟩;have hB5:=HB.out.trans (hb5.mono HB.out.size);have HO5:=Lib.hid (HO.out.below hb5))
          | (refine wpList_load_run rfl 46 (.tmp 17) rfl _ _ rfl lid ?_))
        go_roundw
        case rel=>exact⟨i+1,ov,by omega,by go_num,rfl,by rw[HF.out];exact HO5,hB5⟩
        case measure=>(simp[intOf];try omega)
      · have HF:=Lib.hid (show((L.take (i+1)).filter fun x=>decide (x.id∈I)).map (·.id)=((L.take i).filter fun x=>decide (x.id∈I)).map (·.id)++[x.id] by rw[HT.out,List.filter_append];simp[← hR])
        clear hR
        go_wp2_with (first
          | (at_builtin;refine wpList_append_recs (R:=Gr.hsRec) rfl (.tmp 20) (.tmp 26) 30 rfl 46 Tryz.underlying30 Gr.info_hs (by kernel_rfl) (by decide) w.heap.size ov _ rfl (HO5.out.below ((Below.refl _ _).alloc (Nat.le_refl _) _)) (some ⟨w5.heap.size,0,none⟩) 1 1 [x.id] rfl (Gr.hs_fresh HYL.out) (fun e=>by cases e) (by have:=HLN.out;have:=HN.out;omega) (by have:=hB5.size;simp;omega) ?_;intro v' w7 ho' hg' hl')
          | (refine wpList_build_row rfl (.tmp 25) 30 rfl 46 Tryz.underlying30 Gr.info_hs (by decide) (by decide) (blist x.id).toArray (by rw[List.size_toArray,blist_length,HYL.out];rfl) rfl ?_)
          | (go_at_call 53;refine HIN.out.mono ?_;rintro e w5 ⟨rfl,hb5⟩;have hB5:=HB.out.trans (hb5.mono HB.out.size);have HO5:=Lib.hid (HO.out.below hb5);have lid5:=rn_lid (HH.out.below hB5) HX.out)
          | (refine wpList_load_run rfl 46 (.tmp 17) rfl _ _ rfl lid ?_)
          | (refine wpList_load_run rfl 46 (.tmp 24) rfl _ _ rfl lid5 ?_))
        have hB7:=below_own_recs (hB5.alloc hB5.size _) hg' HO5.out.lt
        have HO2:=Lib.hid (show OwnR Gr.hsRec 46 w.heap.size w7 v' (((L.take (i+1)).filter fun x=>decide (x.id∈I)).map (·.id)) by rw[HF.out];exact ho')
        clear ho' hg' hl' lid lid5
        go_roundw
        case rel=>exact⟨i+1,v',by omega,by go_num,rfl,HO2,hB7⟩
        case measure=>(simp[intOf];try omega)
    · have hii:¬ (i:Int)<(n:Int):=by omega
      obtain rfl:i=n:=by omega
      have HO2:=Lib.hid (show OwnR Gr.hsRec 46 w.heap.size wr ov ((L.filter fun x=>decide (x.id∈I)).map (·.id)) by
        have e:L.take i=L:=List.take_of_length_le (by rw[HH.out.1];exact Nat.le_refl _)
        have:=HO.out
        rw[e] at this
        exact this)
      clear HO
      go_wp2
      go_ret
      exact⟨ov,rfl,HO2.out,hb⟩
namespace Gr
def rspd (L:List Rn) (p:Cs.Pt):Option Rn:=L.find? fun x=>decide (p∈x.v.t.sp.map pt)
def rspI (L:List Rn) (p:Cs.Pt):List (BitVec 8):=((rspd L p).map (·.id)).getD (List.replicate 32 0#8)
theorem rspd_at {L:List Rn} {p:Cs.Pt} {i:Nat} {x:Rn} (h:∀ y,y∈L.take i→p∉y.v.t.sp.map pt) (hi:L[i]? = some x) (hp:p∈x.v.t.sp.map pt):rspd L p=some x:=by
  obtain⟨h1,h2⟩:=List.getElem?_eq_some_iff.1 hi
  have e:L=L.take i++x :: L.drop (i+1):=by rw[← h2,List.getElem_cons_drop h1,List.take_append_drop]
  unfold rspd
  rw[e,List.find?_append,List.find?_eq_none.2 (fun y hy=>by rw[decide_eq_true_eq];exact h y hy),Option.none_or,List.find?_cons,decide_eq_true hp]
theorem rspd_no {L:List Rn} {p:Cs.Pt} (h:∀ y,y∈L→p∉y.v.t.sp.map pt):rspd L p=none:=List.find?_eq_none.2 (fun y hy=>by rw[decide_eq_true_eq];exact h y hy)
theorem sp_ptc {s:Tx.Sp} (j:Nat) (v:Value) (h:(ptCells s.h s.n)[j]? = some v):(spCells s)[j]? = some v:=by
  have e:spCells s=ptCells s.h s.n++[.string (strB s.key),.int .u64 (nb64 s.sl)]:=by unfold spCells ptCells;rw[List.append_assoc];rfl
  rw[e,List.getElem?_append_left (List.getElem?_eq_some_iff.1 h).1]
  exact h
end Gr
theorem Gr.yieldsIf_eql_pt {ops:Array Oper} {S:World→Prop} {op:Oper} {a:Act} (hw:Region.wanted op (yielded ops a.tmps)=true) (x y:Operand) (ho:op.op=.binOp .eql 58 x y 58) (l:List (BitVec 8)) (u:Int) (m:List (BitVec 8)) (v:Int)
    (hx:a.eval x=.agg (ptCells l u).toArray) (hy:a.eval y=.agg (ptCells m v).toArray) (hl:l.length=32) (hm:m.length=32) {b:Bool} (hb:decide (l=m∧u=v)=b):YieldsIf Tryz.prog ops S op (.bool b) a:=
  .inl ⟨hw,fun w _=>by
    have he:=eql_point w l m u v hl hm
    rw[hb] at he
    have hg:Tryz.prog.eqGuardType Tryz.prog.depth 58=false:=by kernel_rfl
    unfold execOp
    simp only[ho,hx,hy,Sem.run_bind,run_eqGuard_agg w .eql 58 x y _ _ hg,Result.andThen_ok,he,Sem.run_pure]⟩
set_option maxRecDepth 100000 in
set_option maxHeartbeats 8000000 in
theorem rspender14_any (a:Option Addr) (n q:Nat) (L:List Gr.Rn) (p:Cs.Pt) (hp:Cs.ptOk p) (w:World) (h:Recs Gr.rnRec w a n L) (hv:∀ x,x∈L→x.v.At w) :
    Calls Tryz.prog 24 #[.slice a n q,.agg (ptCells p.1 p.2).toArray] w fun e w'=>e=.returned (.tuple #[.agg (blist (Gr.rspI L p)).toArray,.bool (Gr.rspd L p).isSome])∧Below w.heap.size w w':=by
  have hnmx:n≤9223372036854775807:=h.2.1
  obtain⟨W1,hW1⟩:∃ ww,ww=(w.alloc (.cells (ptCells p.1 p.2).toArray 58)).alloc (.cells z32 46):=⟨_,rfl⟩
  have hB1:Below w.heap.size w W1:=by rw[hW1];exact((Below.refl _ _).alloc (Nat.le_refl _) _).alloc (by simp) _
  have hP1:Has W1 w.heap.size 58 (ptCells p.1 p.2).toArray:=by rw[hW1];exact(Has.fresh _ _ _).past _
  have hR1:Has W1 (w.heap.size+1) 46 z32:=by rw[hW1];exact Has.fresh_at _ _ _ (by simp)
  obtain⟨D,hD⟩:∃ c,c=Gr.rspI L p:=⟨_,rfl⟩
  obtain⟨ro,hro⟩:∃ o,o=(Gr.rspd L p).isSome:=⟨_,rfl⟩
  rw[← hD,← hro]
  have HDR:=Lib.hid (And.intro hD hro)
  have HW1:=Lib.hid hW1
  have HP1:=Lib.hid hP1
  have HR1:=Lib.hid hR1
  have HB1:=Lib.hid hB1
  have HPO:=Lib.hid hp
  have HH:=Lib.hid (h.below hB1)
  have HV:=Lib.hid (show ∀ x,x∈L→x.v.At W1 from fun x hx=>TxAt.below (hv x hx) hB1)
  have hbd:=fun(w:World)=>run_build (P:=Tryz.prog) w 46 #[] z32 (by kernel_rfl)
  clear hW1 hP1 hR1 hD hro hp hB1 h hv
  go_enter Tryz.func24,Tryz.ntmps24
  go_upto_region 1 with fail
  rw[← HW1.out]
  go_wp2
  go_loopw [6] (fun iv wr=>∃ i:Nat,i≤n∧iv=.int .i64 i∧RowKit.Hid (∀ y,y∈L.take i→p∉y.v.t.sp.map Gr.pt)∧Below W1.heap.size W1 wr) (fun iv _=>n-(intOf iv).toNat)
  case atStart=>exact⟨0,Nat.zero_le _,rfl,Lib.hid (by simp),Below.refl _ _⟩
  case round=>
    obtain⟨i,hi,rfl,HN,hb⟩:=hrel
    by_cases hlt:i<n
    · have hii:(i:Int)<(n:Int):=by omega
      have hi0:(0:Int)≤(i:Int):=by omega
      obtain⟨x,hx⟩:=HH.out.get hlt
      have HXV:=Lib.hid (HV.out x (List.mem_of_getElem? hx))
      have HYL:=Lib.hid (show x.id.length=32 from HH.out.okay hx)
      obtain⟨ad,rfl,hcs⟩:=HH.out.2.2.2 i x hx
      have c0:W1.cell? (ad.add (i*36))=some (.slice x.v.a x.v.n x.v.q):=hcs 0 _ rfl
      have HC0:=Lib.hid c0
      have hsm:x.v.n≤9223372036854775807:=HXV.out.sp.2.1
      have HX:=Lib.hid hx
      have HB:=Lib.hid hb
      clear hcs c0 hx hb
      rename World=>wA
      go_wp2
      go_loopw [7] (fun iv wr=>∃ k:Nat,k≤x.v.n∧iv=.int .i64 k∧RowKit.Hid (p∉(x.v.t.sp.map Gr.pt).take k)∧Below W1.heap.size W1 wr) (fun iv _=>x.v.n-(intOf iv).toNat)
      case atStart=>exact⟨0,Nat.zero_le _,rfl,Lib.hid (by simp),HB.out⟩
      case round=>
        obtain⟨k,hk,rfl,HK,hb⟩:=hrel
        have c0:wr.cell? (ad.add (i*36))=some (.slice x.v.a x.v.n x.v.q):=by rw[hb.cell (isSome_lt (by rw[HC0.out];rfl))];exact HC0.out
        by_cases hkl:k<x.v.n
        · have hki:(k:Int)<(x.v.n:Int):=by omega
          have hk0:(0:Int)≤(k:Int):=by omega
          obtain⟨s,hs⟩:=HXV.out.sp.get hkl
          have HSO:=Lib.hid (HXV.out.sp.okay hs)
          obtain⟨ys,hya,_⟩:=HXV.out.sp.2.2.2 k s hs
          rw[hya] at c0
          have HKT:=Lib.hid (show(x.v.t.sp.map Gr.pt).take (k+1)=(x.v.t.sp.map Gr.pt).take k++[Gr.pt s]∧Gr.pt s∈x.v.t.sp.map Gr.pt by
            have h1:(x.v.t.sp.map Gr.pt)[k]? = some (Gr.pt s):=by rw[List.getElem?_map,hs];rfl
            obtain⟨h2,h3⟩:=List.getElem?_eq_some_iff.1 h1
            exact⟨by rw[List.take_succ_eq_append_getElem h2,h3],List.mem_of_getElem? h1⟩)
          go_upto_region 7 with fail
          obtain⟨ws,hws⟩:∃ u,u=wr.drew:=⟨_,rfl⟩
          have hTs:Below W1.heap.size W1 ws:=by rw[hws];exact hb.drew
          have hPs:=HP1.out.under hTs HP1.out.lt
          have cs0:ws.cell? (ad.add (i*36))=some (.slice (some ys) x.v.n x.v.q):=by rw[hws];exact c0
          have HS0:=Lib.hid cs0
          have HSI:=Lib.hid hs
          have HYA:=Lib.hid (show Recs spRec W1 (some ys) x.v.n x.v.t.sp by rw[← hya];exact HXV.out.sp)
          have lS:=fun(wq:World) (hSw:Held ws wq)=>(show wq.cell? (ad.add (i*36))=some (.slice (some ys) x.v.n x.v.q) by rw[hSw.below.cell (isSome_lt (by rw[HS0.out];rfl))];exact HS0.out)
          have lE:=fun(wq:World) (hSw:Held ws wq)=>(show(Instr.loadAt 58 (.pointer (some (ys.add (k*35))))).run Tryz.prog wq=.ok (.agg (ptCells s.h s.n).toArray) wq from Gr.load_part (R:=spRec) Tryz.underlying58 rfl ((HYA.out.below hTs).below hSw.below) HSI.out (ptCells s.h s.n) (by rw[ptCells_len HSO.out.1];kernel_rfl) Gr.sp_ptc)
          have lQ:=fun(wq:World) (hSw:Held ws wq)=>(hPs.under hSw.below hPs.lt).load_agg (P:=Tryz.prog) (t:=58) Tryz.underlying58 rfl (gsize_pt HPO.out.1)
          clear hs hya c0 cs0
          by_cases he:Gr.pt s=p
          · have HEQ:=Lib.hid (show decide (s.h=p.1∧s.n=p.2)=true from decide_eq_true ⟨by rw[← he];rfl,by rw[← he];rfl⟩)
            have HE:=Lib.hid (show D=x.id∧ro=true by
              have h1:=Gr.rspd_at HN.out HX.out (by rw[← he];exact HKT.out.2)
              rw[HDR.out.1,HDR.out.2,Gr.rspI,h1]
              exact⟨rfl,rfl⟩)
            clear he
            refine wp_region_held_drew (S:=Held ws) (by kernel_rfl) (by rw[hws];exact Held.refl _) (fun hHeld=>?_)
            rw[← hws] at hHeld ⊢
            clear hws
            refine tka (v:=?_) 0 25 rfl rfl hHeld (Or.inl ⟨by rfl,?_⟩) rfl ?_
            rotate_left
            · intro wq hSw
              go_simp
              try with_reducible rfl
            simp only[ts0,ts1]
            refine tka (v:=?_) 1 26 rfl rfl hHeld (Or.inl ⟨by rfl,?_⟩) rfl ?_
            rotate_left
            · intro wq hSw
              go_simp
              try with_reducible rfl
            simp only[ts0,ts1]
            refine tka (v:=?_) 2 27 rfl rfl hHeld (Or.inl ⟨by rfl,?_⟩) rfl ?_
            rotate_left
            · intro wq hSw
              go_simp
              try with_reducible rfl
            simp only[ts0,ts1]
            refine tka (v:=?_) 3 28 rfl rfl hHeld (Or.inl ⟨by rfl,?_⟩) rfl ?_
            rotate_left
            · intro wq hSw
              go_simp
              try with_reducible rfl
            simp only[ts0,ts1]
            refine tka (v:=?_) 4 29 rfl rfl hHeld (Or.inl ⟨by rfl,?_⟩) rfl ?_
            rotate_left
            · intro wq hSw
              go_simp
              try with_reducible rfl
            simp only[ts0,ts1]
            refine tka (v:=?_) 5 30 rfl rfl hHeld (Or.inl ⟨by rfl,?_⟩) rfl ?_
            rotate_left
            · intro wq hSw
              have hst:=lS wq hSw
              go_simp
              try with_reducible rfl
            simp only[ts0,ts1]
            refine tka (v:=?_) 6 31 rfl rfl hHeld (Or.inl ⟨by rfl,?_⟩) rfl ?_
            rotate_left
            · intro wq hSw
              go_simp
              try with_reducible rfl
            simp only[ts0,ts1]
            refine tka (v:=?_) 7 32 rfl rfl hHeld (Or.inl ⟨by rfl,?_⟩) rfl ?_
            rotate_left
            · intro wq hSw
              go_simp
              try with_reducible rfl
            simp only[ts0,ts1]
            refine tka (v:=?_) 8 33 rfl rfl hHeld (Or.inl ⟨by rfl,?_⟩) rfl ?_
            rotate_left
            · intro wq hSw
              go_simp
              try with_reducible rfl
            simp only[ts0,ts1]
            refine tka 9 34 rfl rfl hHeld (yieldsIf_load_agg (by rfl) 58 (.tmp 33) rfl _ _ (by rfl) (fun wq hSw=>lE wq hSw)) rfl ?_
            simp only[ts0,ts1]
            refine tka 10 35 rfl rfl hHeld (yieldsIf_load_agg (by rfl) 58 (.tmp 3) rfl _ _ (by rfl) (fun wq hSw=>lQ wq hSw)) rfl ?_
            simp only[ts0,ts1]
            refine tka 11 36 rfl rfl hHeld (Gr.yieldsIf_eql_pt (by rfl) (.tmp 34) (.tmp 35) rfl s.h s.n p.1 p.2 (by rfl) (by rfl) HSO.out.1 HPO.out.1 HEQ.out) rfl ?_
            simp only[ts0,ts1]
            refine wpAnyH_done (by kernel_rfl) ?_ _
            have lid:=rn_lid (HH.out.below hTs) HX.out
            have hRr:=HR1.out.under hTs HR1.out.lt
            have hth:=hRr.there 0 (blist x.id).toArray.size (by rw[List.size_toArray,blist_length,HYL.out];decide)
            have hsz:=Gr.hsRec.size_eq Gr.size_hsr (show Gr.hsRec.ok x.id from HYL.out)
            have HTH:=Lib.hid (And.intro hth (And.intro hsz (Gr.hsRec.all_one x.id)))
            clear hth hsz
            go_wp2_with (first
              | (refine wpList_store_mid rfl 46 (.tmp 4) (.tmp 41) rfl (w.heap.size+1) 0 (blist x.id).toArray rfl rfl HTH.out.1 HTH.out.2.1 HTH.out.2.2 ?_)
              | (refine wpList_load_run rfl 46 (.tmp 40) rfl _ _ rfl lid ?_))
            have hE:=hRr.whole_cs (cs2:=(blist x.id).toArray) (by rw[List.size_toArray,blist_length,HYL.out];rfl)
            exact bodyPost_ret (results_cellslot rfl _ _ (w.heap.size+1) rfl _ _ (hE.load_var Tryz.underlying46 rfl (size_hs HYL.out)) rfl) rfl ⟨by rw[HE.out.1,HE.out.2];rfl,below_setAll (by omega) _ 0 (HB1.out.trans (hTs.mono HB1.out.size))⟩
          · have HEQ:=Lib.hid (show decide (s.h=p.1∧s.n=p.2)=false from decide_eq_false (fun h=>he (Prod.ext h.1 h.2)))
            have HK2:=Lib.hid (show p∉(x.v.t.sp.map Gr.pt).take (k+1) by rw[HKT.out.1,List.mem_append,List.mem_singleton];exact fun e=>e.elim HK.out (fun e=>he e.symm))
            clear he
            refine wp_region_held_drew (S:=Held ws) (by kernel_rfl) (by rw[hws];exact Held.refl _) (fun hHeld=>?_)
            rw[← hws] at hHeld ⊢
            clear hws
            refine tka (v:=?_) 0 25 rfl rfl hHeld (Or.inl ⟨by rfl,?_⟩) rfl ?_
            rotate_left
            · intro wq hSw
              go_simp
              try with_reducible rfl
            simp only[ts0,ts1]
            refine tka (v:=?_) 1 26 rfl rfl hHeld (Or.inl ⟨by rfl,?_⟩) rfl ?_
            rotate_left
            · intro wq hSw
              go_simp
              try with_reducible rfl
            simp only[ts0,ts1]
            refine tka (v:=?_) 2 27 rfl rfl hHeld (Or.inl ⟨by rfl,?_⟩) rfl ?_
            rotate_left
            · intro wq hSw
              go_simp
              try with_reducible rfl
            simp only[ts0,ts1]
            refine tka (v:=?_) 3 28 rfl rfl hHeld (Or.inl ⟨by rfl,?_⟩) rfl ?_
            rotate_left
            · intro wq hSw
              go_simp
              try with_reducible rfl
            simp only[ts0,ts1]
            refine tka (v:=?_) 4 29 rfl rfl hHeld (Or.inl ⟨by rfl,?_⟩) rfl ?_
            rotate_left
            · intro wq hSw
              go_simp
              try with_reducible rfl
            simp only[ts0,ts1]
            refine tka (v:=?_) 5 30 rfl rfl hHeld (Or.inl ⟨by rfl,?_⟩) rfl ?_
            rotate_left
            · intro wq hSw
              have hst:=lS wq hSw
              go_simp
              try with_reducible rfl
            simp only[ts0,ts1]
            refine tka (v:=?_) 6 31 rfl rfl hHeld (Or.inl ⟨by rfl,?_⟩) rfl ?_
            rotate_left
            · intro wq hSw
              go_simp
              try with_reducible rfl
            simp only[ts0,ts1]
            refine tka (v:=?_) 7 32 rfl rfl hHeld (Or.inl ⟨by rfl,?_⟩) rfl ?_
            rotate_left
            · intro wq hSw
              go_simp
              try with_reducible rfl
            simp only[ts0,ts1]
            refine tka (v:=?_) 8 33 rfl rfl hHeld (Or.inl ⟨by rfl,?_⟩) rfl ?_
            rotate_left
            · intro wq hSw
              go_simp
              try with_reducible rfl
            simp only[ts0,ts1]
            refine tka 9 34 rfl rfl hHeld (yieldsIf_load_agg (by rfl) 58 (.tmp 33) rfl _ _ (by rfl) (fun wq hSw=>lE wq hSw)) rfl ?_
            simp only[ts0,ts1]
            refine tka 10 35 rfl rfl hHeld (yieldsIf_load_agg (by rfl) 58 (.tmp 3) rfl _ _ (by rfl) (fun wq hSw=>lQ wq hSw)) rfl ?_
            simp only[ts0,ts1]
            refine tka 11 36 rfl rfl hHeld (Gr.yieldsIf_eql_pt (by rfl) (.tmp 34) (.tmp 35) rfl s.h s.n p.1 p.2 (by rfl) (by rfl) HSO.out.1 HPO.out.1 HEQ.out) rfl ?_
            simp only[ts0,ts1]
            refine wpAnyH_done (by kernel_rfl) ?_ _
            go_wp2
            go_roundw
            case rel=>exact⟨k+1,by omega,by go_num,HK2,hTs⟩
            case measure=>(simp[intOf];try omega)
        · have hki:¬ (k:Int)<(x.v.n:Int):=by omega
          have HN2:=Lib.hid (show ∀ y,y∈L.take (i+1)→p∉y.v.t.sp.map Gr.pt from fun y hy=>by
            obtain⟨h2,h3⟩:=List.getElem?_eq_some_iff.1 HX.out
            rw[List.take_succ_eq_append_getElem h2,h3] at hy
            rcases List.mem_append.1 hy with hy | hy
            · exact HN.out y hy
            · rw[List.mem_singleton.1 hy]
              have e:(x.v.t.sp.map Gr.pt).take k=x.v.t.sp.map Gr.pt:=List.take_of_length_le (by rw[List.length_map,HXV.out.sp.1];omega)
              have:=HK.out
              rwa [e] at this)
          go_wp2
          go_roundw
          case rel=>exact⟨i+1,by omega,by go_num,HN2,hb⟩
          case measure=>(simp[intOf];try omega)
    · have hii:¬ (i:Int)<(n:Int):=by omega
      obtain rfl:i=n:=by omega
      have hno:=Gr.rspd_no (L:=L) (p:=p) (fun y hy=>HN.out y (by rw[List.take_of_length_le (by rw[HH.out.1];exact Nat.le_refl _)];exact hy))
      have HE:=Lib.hid (show D=List.replicate 32 0#8∧ro=false by rw[HDR.out.1,HDR.out.2,Gr.rspI,hno];exact⟨rfl,rfl⟩)
      have hRr:=HR1.out.under hb HR1.out.lt
      clear hno
      go_wp2_with (refine wpList_store_mid rfl 46 (.tmp 4) (.tmp 42) rfl (w.heap.size+1) 0 z32 rfl rfl (hRr.there 0 32 (Nat.le_refl _)) (by kernel_rfl) (by kernel_rfl) ?_)
      have hE:=hRr.whole_cs (cs2:=z32) rfl
      exact bodyPost_ret (results_cellslot rfl _ _ (w.heap.size+1) rfl _ _ (hE.load_var Tryz.underlying46 rfl (by kernel_rfl)) rfl) rfl ⟨by rw[HE.out.1,HE.out.2];rfl,below_setAll (by omega) _ 0 (HB1.out.trans (hb.mono HB1.out.size))⟩
end Go.Proofs.YtijemcfnlbapjaaGreatDoor
namespace Go.Proofs.YtijemcfnlbapjaaGreatDoor
open Go Go.RowKit Go.ChangeShapes Go.WideShapes
theorem Gr.wpList_load_run_if {P:Program} {ops:Array Oper} {rest:List Oper} {op:Oper} {a:Act} {w:World} {Q:Exit→Act→World→Prop} (hgd:Region.wanted op (yielded ops a.tmps)=true) (ty:TypeId) (x:Operand) (ho:op.op=.load ty x)
    (p v:Value) (hx:a.eval x=p) (hr:(Instr.loadAt ty p).run P w=.ok v w) (h:wpList P ops Q rest (a.put op.dst v) w):wpList P ops Q (op :: rest) a w:=by
  show if Region.wanted op (yielded ops a.tmps) then _ else _
  rw[if_pos hgd]
  refine .inl ?_
  unfold Oper.wp execOp
  simp only[ho,hx,Sem.run_bind,Sem.run_pure,Result.andThen_ok,hr]
  exact h
theorem Gr.wpList_neq_if {P:Program} {ops:Array Oper} {rest:List Oper} {op:Oper} {a:Act} {w:World} {Q:Exit→Act→World→Prop} (hgd:Region.wanted op (yielded ops a.tmps)=true) (t e yt:TypeId) (k:Nat) (x y:Operand) (ho:op.op=.binOp .neq t x y yt)
    (l m:List (BitVec 8)) (hx:a.eval x=.agg (blist l).toArray) (hy:a.eval y=.agg (blist m).toArray) (hg:P.eqGuardType P.depth t=false) (ht:P.underlying t=some (.array k e)) (he:P.underlying e=some (.int .u8)) (hs:(P.info? e).map (·.size)=some 1) (hl:l.length=k) (hm:m.length=k) {b:Bool} (hb:(!decide (l=m))=b)
    (h:wpList P ops Q rest (a.put op.dst (.bool b)) w):wpList P ops Q (op :: rest) a w:=by
  show if Region.wanted op (yielded ops a.tmps) then _ else _
  rw[if_pos hgd]
  refine .inl ?_
  have hn:=run_neq_hash w ht he hs l m hl hm
  rw[hb] at hn
  unfold Oper.wp execOp
  simp only[ho,hx,hy,Sem.run_bind,run_eqGuard_agg w .neq t x y _ _ hg,Result.andThen_ok,hn,Sem.run_pure]
  exact h
namespace Gr
def rcfl (L:List Rn) (D:List (BitVec 8)) (p:Cs.Pt):Option (List (BitVec 8)):=((rspd L p).filter fun z=>decide (z.id≠D)).map (·.id)
theorem rcfl_none {L:List Rn} {D:List (BitVec 8)} {p:Cs.Pt} (h:rspd L p=none):rcfl L D p=none:=by
  unfold rcfl
  rw[h]
  rfl
theorem rcfl_same {L:List Rn} {D:List (BitVec 8)} {p:Cs.Pt} {z:Rn} (h:rspd L p=some z) (hz:z.id=D):rcfl L D p=none:=by
  unfold rcfl
  rw[h]
  simp[Option.filter,hz]
theorem rcfl_some {L:List Rn} {D:List (BitVec 8)} {p:Cs.Pt} {z:Rn} (h:rspd L p=some z) (hz:z.id≠D):rcfl L D p=some z.id:=by
  unfold rcfl
  rw[h]
  simp[Option.filter,hz]
theorem rspd_mem {L:List Rn} {p:Cs.Pt} {x:Rn} (h:rspd L p=some x):x∈L:=List.mem_of_find?_eq_some h
end Gr
set_option maxRecDepth 100000 in
set_option maxHeartbeats 8000000 in
theorem rconf14_any (a:Option Addr) (n q:Nat) (L:List Gr.Rn) (b:Option Addr) (m r:Nat) (c:Option Addr) (k l:Nat) (t:Tx.T) (w:World) (h:Recs Gr.rnRec w a n L) (hv:∀ x,x∈L→x.v.At w) (hn:n≤1000000) (ht:TxAt w b m r c k l t) (hs:Tx.Small t) (hK:Tab32 w 1 Dg.kL) :
    Calls Tryz.prog 31 #[.slice a n q,txv b m r c k l t.firm] w fun e w'=>∃ v,e=.returned v∧OwnR Gr.hsRec 46 w.heap.size w' v ((L.filter fun x=>decide (x.id∈(t.sp.map Gr.pt).filterMap (Gr.rcfl L (Tx.idOf false t)))).map (·.id))∧Below w.heap.size w w':=by
  obtain⟨W1,hW1⟩:∃ x,x=w.alloc (.cells #[.slice b m r,.slice c k l,.bool t.firm] 34):=⟨_,rfl⟩
  have hB1:Below w.heap.size w W1:=by rw[hW1];exact(Below.refl _ _).alloc (Nat.le_refl _) _
  have hX:Has W1 w.heap.size 34 #[.slice b m r,.slice c k l,.bool t.firm]:=by rw[hW1];exact Has.fresh _ _ _
  have lX:=hX.load_agg (P:=Tryz.prog) (t:=34) Tryz.underlying34 rfl (by kernel_rfl)
  obtain⟨D,hDd⟩:∃ D,D=Tx.idOf false t:=⟨_,rfl⟩
  have HDL:=Lib.hid (show D.length=32 by rw[hDd];exact Tx.idOf_len _ _)
  have HI:=Lib.hid (show Calls Tryz.prog 68 #[txv b m r c k l t.firm] W1 fun e w'=>e=.returned (.agg (blist D).toArray)∧Below W1.heap.size W1 w' from hDd▸rid_any b m r c k l t W1 (ht.below hB1) hs (hK.below hB1))
  obtain⟨cf,hcf⟩:∃ cf,cf=Gr.rcfl L D:=⟨_,rfl⟩
  rw[← hDd,← hcf]
  have HCF:=Lib.hid hcf
  have HN:=Lib.hid hn
  have HH:=Lib.hid h
  have HV:=Lib.hid hv
  have HR:=Lib.hid ht.sp
  have hmx:m≤9223372036854775807:=ht.sp.2.1
  obtain⟨PL,hPL⟩:∃ P,P=t.sp.map Gr.pt:=⟨_,rfl⟩
  rw[← hPL]
  have HPL:=Lib.hid hPL
  have HLE:=Lib.hid (show t.sp.length≤30 from hs.1)
  have HW:=Lib.hid hW1
  have HX:=Lib.hid hX
  clear hW1 hX ht hs hK h hDd hcf hPL hv hn
  go_enter Tryz.func31,Tryz.ntmps31
  go_upto_region 1 with fail
  rw[← HW.out]
  go_upto_region 2 with(first
    | (refine wpList_store_mid rfl 46 (.tmp 5) (.tmp 11) rfl w2.heap.size 0 (blist D).toArray rfl rfl (Gr.hsRec.there w2 46 (by kernel_rfl) HDL.out) (Gr.hsRec.size_eq Gr.size_hsr HDL.out) (Gr.hsRec.all_one D) ?_)
    | (go_at_call 68;refine HI.out.mono ?_;rintro e w2 ⟨rfl,hb2⟩)
    | (refine wpList_load_run rfl 34 (.tmp 3) rfl _ _ rfl lX ?_))
  obtain⟨w3,hw3⟩:∃ u',u'=(w2.alloc (.cells z32 46)).setCells w2.heap.size 0 (blist D):=⟨_,rfl⟩
  obtain⟨hD3,hb3⟩:=Rec.new (R:=Gr.hsRec) (by kernel_rfl) HDL.out hw3
  rw[← hw3]
  have hT3:Below w.heap.size w w3:=hB1.trans ((hb2.trans (hb3.mono hb2.size)).mono hB1.size)
  have HX3:=Lib.hid (HX.out.under (hb2.trans (hb3.mono hb2.size)) HX.out.lt)
  obtain⟨g3,hg3⟩:∃ g,g=w2.heap.size:=⟨_,rfl⟩
  rw[← hg3] at hD3 ⊢
  have HT3:=Lib.hid hT3
  have HD3:=Lib.hid hD3
  clear hw3 hb2 hb3 hg3 lX hT3 hD3
  go_upto_region 4 with fail
  have hO0:RowKit.Hid (OwnR Gr.hsRec 46 w3.heap.size w3 (.slice none 0 0) ((PL.take 0).filterMap cf)):=Lib.hid (OwnR.nil _ _ _ _)
  go_loopw [6,7] (fun sv iv wr=>∃ (i:Nat) (ov:Value),i≤m∧iv=.int .i64 i∧ov=sv∧RowKit.Hid (OwnR Gr.hsRec 46 w3.heap.size wr ov ((PL.take i).filterMap cf))∧Below w3.heap.size w3 wr) (fun _ iv _=>m-(intOf iv).toNat)
  case atStart=>exact⟨0,_,Nat.zero_le _,rfl,rfl,hO0,Below.refl _ _⟩
  case round=>
    clear hO0
    obtain⟨i,ov,hi,rfl,rfl,HO,hb3⟩:=hrel
    have hb:Below w.heap.size w wr:=HT3.out.trans (hb3.mono HT3.out.size)
    have c0:=(HX3.out.under hb3 HX3.out.lt).cell_at (i:=0) (v:=.slice b m r) rfl
    by_cases hlt:i<m
    · have hii:(i:Int)<(m:Int):=by omega
      have hi0:(0:Int)≤(i:Int):=by omega
      obtain⟨s,hs⟩:=HR.out.get hlt
      have HS:=Lib.hid (HR.out.okay hs)
      have HT:=Lib.hid (show PL.take (i+1)=PL.take i++[Gr.pt s] by
        have h1:PL[i]? = some (Gr.pt s):=by rw[HPL.out,List.getElem?_map,hs];rfl
        obtain⟨h2,h3⟩:=List.getElem?_eq_some_iff.1 h1
        rw[List.take_succ_eq_append_getElem h2,h3])
      have HLN:=Lib.hid (show((PL.take i).filterMap cf).length≤30 by
        have h1:=Gr.filterMap_le cf (PL.take i)
        have h2:(PL.take i).length≤t.sp.length:=by rw[HPL.out,List.length_take,List.length_map];omega
        have:=HLE.out
        omega)
      obtain⟨y,rfl,_⟩:=HR.out.2.2.2 i s hs
      have lP:(Instr.loadAt 58 (.pointer (some (y.add (i*35))))).run Tryz.prog wr=.ok (.agg (ptCells s.h s.n).toArray) wr:=Gr.load_part (R:=spRec) Tryz.underlying58 rfl (HR.out.below hb) hs (ptCells s.h s.n) (by rw[ptCells_len HS.out.1];kernel_rfl) Gr.sp_ptc
      obtain⟨E,hE⟩:∃ E,E=Gr.rspI L (Gr.pt s):=⟨_,rfl⟩
      obtain⟨ok,hok⟩:∃ o,o=(Gr.rspd L (Gr.pt s)).isSome:=⟨_,rfl⟩
      have HC:=Lib.hid (show Calls Tryz.prog 24 #[.slice a n q,.agg (ptCells s.h s.n).toArray] wr fun e w'=>e=.returned (.tuple #[.agg (blist E).toArray,.bool ok])∧Below wr.heap.size wr w' by
        rw[hE,hok]
        exact rspender14_any a n q L (Gr.pt s) (Gr.pt_ok HS.out) wr (HH.out.below hb) (fun x hx=>TxAt.below (HV.out x hx) hb))
      have hEL:E.length=32:=by
        rw[hE,Gr.rspI]
        cases hsp:Gr.rspd L (Gr.pt s) with
        | none=>simp
        | some z=>exact HH.out.2.2.1 z (Gr.rspd_mem hsp)
      have HEL:=Lib.hid hEL
      have HOK:=Lib.hid (And.intro hE hok)
      have hb3s:=hb3.size
      clear hs hE hok hEL hb
      go_upto_region 7 with(first
        | (refine wpList_store_mid rfl 46 (.tmp 8) (.tmp 28) rfl w5.heap.size 0 (blist E).toArray rfl rfl (Gr.hsRec.there w5 46 (by kernel_rfl) HEL.out) (Gr.hsRec.size_eq Gr.size_hsr HEL.out) (Gr.hsRec.all_one E) ?_)
        | (go_at_call 24;refine HC.out.mono ?_;rintro e w5 ⟨rfl,hb5⟩)
        | (refine wpList_load_run rfl 58 (.tmp 25) rfl _ _ rfl lP ?_))
      obtain⟨w6,hw6⟩:∃ u',u'=(w5.alloc (.cells z32 46)).setCells w5.heap.size 0 (blist E):=⟨_,rfl⟩
      obtain⟨hE6,hb6⟩:=Rec.new (R:=Gr.hsRec) (by kernel_rfl) HEL.out hw6
      rw[← hw6]
      have hb36:Below w3.heap.size w3 w6:=hb3.trans ((hb5.trans (hb6.mono hb5.size)).mono hb3s)
      have HO6:=Lib.hid ((HO.out.below hb5).below hb6)
      obtain⟨g6,hg6⟩:∃ g,g=w5.heap.size:=⟨_,rfl⟩
      rw[← hg6] at hE6 ⊢
      have lE:=hE6.load_agg (P:=Tryz.prog) (t:=46) Tryz.underlying46 rfl (size_hs HEL.out)
      have lD:=(HD3.out.under hb36 HD3.out.lt).load_agg (P:=Tryz.prog) (t:=46) Tryz.underlying46 rfl (size_hs HDL.out)
      have h36:=hb36.size
      clear hw6 hb5 hb6 hg6 hE6 lP c0 HO hb3
      cases ok
      · have HF:=Lib.hid (show(PL.take (i+1)).filterMap cf=(PL.take i).filterMap cf by
          rw[HT.out,Gr.filterMap_snoc,HCF.out,Gr.rcfl_none (by
            cases hsp:Gr.rspd L (Gr.pt s) with
            | none=>rfl
            | some z=>have:=HOK.out.2;rw[hsp] at this;cases this)])
        go_wp2
        go_roundw
        case rel=>exact⟨i+1,ov,by omega,by go_num,rfl,by rw[HF.out];exact HO6,hb36⟩
        case measure=>(simp[intOf];try omega)
      · obtain⟨z,hz⟩:=Option.isSome_iff_exists.1 HOK.out.2.symm
        have HZ:=Lib.hid hz
        have HEZ:=Lib.hid (show E=z.id by rw[HOK.out.1,Gr.rspI,hz];rfl)
        clear hz
        by_cases he:E=D
        · have HF:=Lib.hid (show(PL.take (i+1)).filterMap cf=(PL.take i).filterMap cf by rw[HT.out,Gr.filterMap_snoc,HCF.out,Gr.rcfl_same HZ.out (by rw[← HEZ.out];exact he)])
          have HNB:=Lib.hid (show(!decide (E=D))=false by rw[decide_eq_true he];rfl)
          clear he
          go_wp2_with (first
            | (refine Gr.wpList_neq_if (by rfl) 46 5 46 32 (.tmp 32) (.tmp 33) rfl E D (by rfl) (by rfl) (by kernel_rfl) Tryz.underlying46 Tryz.underlying5 (by kernel_rfl) HEL.out HDL.out HNB.out ?_)
            | (refine Gr.wpList_load_run_if (by rfl) 46 (.tmp 8) rfl _ _ rfl lE ?_)
            | (refine Gr.wpList_load_run_if (by rfl) 46 (.tmp 5) rfl _ _ rfl lD ?_))
          go_roundw
          case rel=>exact⟨i+1,ov,by omega,by go_num,rfl,by rw[HF.out];exact HO6,hb36⟩
          case measure=>(simp[intOf];try omega)
        · have HF:=Lib.hid (show(PL.take (i+1)).filterMap cf=(PL.take i).filterMap cf++[E] by rw[HT.out,Gr.filterMap_snoc,HCF.out,Gr.rcfl_some HZ.out (by rw[← HEZ.out];exact he),HEZ.out])
          have HNB:=Lib.hid (show(!decide (E=D))=true by rw[decide_eq_false he];rfl)
          clear he
          go_wp2_with (first
            | (at_builtin;refine wpList_append_recs (R:=Gr.hsRec) rfl (.tmp 36) (.tmp 38) 30 rfl 46 Tryz.underlying30 Gr.info_hs (by kernel_rfl) (by decide) w3.heap.size ov _ rfl (HO6.out.below ((Below.refl _ _).alloc (Nat.le_refl _) _)) (some ⟨w6.heap.size,0,none⟩) 1 1 [E] rfl (Gr.hs_fresh HEL.out) (fun e=>by cases e) (by have:=HLN.out;omega) (by simp;omega) ?_;intro v' w7 ho' hg' hl')
            | (refine wpList_build_row rfl (.tmp 37) 30 rfl 46 Tryz.underlying30 Gr.info_hs (by decide) (by decide) (blist E).toArray (by rw[List.size_toArray,blist_length,HEL.out];rfl) rfl ?_)
            | (refine Gr.wpList_neq_if (by rfl) 46 5 46 32 (.tmp 32) (.tmp 33) rfl E D (by rfl) (by rfl) (by kernel_rfl) Tryz.underlying46 Tryz.underlying5 (by kernel_rfl) HEL.out HDL.out HNB.out ?_)
            | (refine Gr.wpList_load_run_if (by rfl) 46 (.tmp 8) rfl _ _ rfl lE ?_)
            | (refine Gr.wpList_load_run_if (by rfl) 46 (.tmp 5) rfl _ _ rfl lD ?_))
          have hB7:=below_own_recs (hb36.alloc h36 _) hg' HO6.out.lt
          have HO2:=Lib.hid (show OwnR Gr.hsRec 46 w3.heap.size w7 v' ((PL.take (i+1)).filterMap cf) by rw[HF.out];exact ho')
          clear ho' hg' hl' lE lD
          go_roundw
          case rel=>exact⟨i+1,v',by omega,by go_num,rfl,HO2,hB7⟩
          case measure=>(simp[intOf];try omega)
    · have hii:¬ (i:Int)<(m:Int):=by omega
      obtain rfl:i=m:=by omega
      have hK2:RowKit.Hid (OwnR Gr.hsRec 46 w3.heap.size wr ov (PL.filterMap cf)):=Lib.hid (by
        have e:PL.take i=PL:=List.take_of_length_le (by rw[HPL.out,List.length_map,HR.out.1];exact Nat.le_refl _)
        have:=HO.out
        rw[e] at this
        exact this)
      obtain⟨oa,oc,rfl,_,_,_,hro⟩:=hK2.out.shape rfl
      have HOR:=Lib.hid (rorder14_any a n q L oa _ oc (PL.filterMap cf) wr (HH.out.below hb) hro HN.out)
      have HB:=Lib.hid hb
      clear hro HO hb
      go_wp2_with (go_at_call 69;refine HOR.out.mono ?_;rintro e w5 ⟨v5,rfl,ho5,hb5⟩)
      go_ret
      exact⟨v5,rfl,ho5.low HB.out.size,HB.out.trans (hb5.mono HB.out.size)⟩
end Go.Proofs.YtijemcfnlbapjaaGreatDoor
