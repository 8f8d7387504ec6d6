/- package graph: Conflicts (mkgrk.py) -/
import Derived.Test.YtijemcfnlbapjaaGreatDoorJ22
namespace Go.Proofs.YtijemcfnlbapjaaGreatDoor
open Go Go.RowKit Go.ChangeShapes Go.WideShapes
theorem Gr.yieldsIf_neq_b {P:Program} {ops:Array Oper} {S:World→Prop} {op:Oper} {a:Act} (hw:Region.wanted op (yielded ops a.tmps)=true) (t e yt:TypeId) (k:Nat) (x y:Operand) (ho:op.op=.binOp .neq t x y yt)
    (l m:List (BitVec 8)) (hx:a.eval x=.agg (blist l).toArray) (hy:a.eval y=.agg (blist m).toArray) (hg:P.eqGuardType P.depth t=false) (ht:P.underlying t=some (.array k e)) (he:P.underlying e=some (.int .u8)) (hs:(P.info? e).map (·.size)=some 1) (hl:l.length=k) (hm:m.length=k) {b:Bool} (hb:(!decide (l=m))=b) :
    YieldsIf P ops S op (.bool b) a:=hb▸yieldsIf_neq hw t e yt k x y ho l m hx hy hg ht he hs hl hm
namespace Gr
def cfl (M:List Nd) (D:List (BitVec 8)) (p:Cs.Pt):Option Nd:=(spd M p).filter fun z=>decide (z.id≠D)
theorem cfl_some {M:List Nd} {D:List (BitVec 8)} {p:Cs.Pt} {z:Nd} : cfl M D p=some z↔spd M p=some z∧z.id≠D:=by
  unfold cfl
  rw[Option.filter_eq_some_iff,decide_eq_true_eq]
theorem cfl_none {M:List Nd} {D:List (BitVec 8)} {p:Cs.Pt} (h:spd M p=none):cfl M D p=none:=by
  unfold cfl
  rw[h]
  rfl
theorem cfl_same {M:List Nd} {D:List (BitVec 8)} {p:Cs.Pt} {z:Nd} (h:spd M p=some z) (hz:z.id=D):cfl M D p=none:=by
  cases hc:cfl M D p with
  | none=>rfl
  | some y=>
    have h1:=cfl_some.1 hc
    rw[h] at h1
    obtain⟨e,h2⟩:=h1
    injection e with e
    subst e
    exact absurd hz h2
end Gr
set_option maxRecDepth 100000 in
set_option maxHeartbeats 8000000 in
theorem gConflicts_any {w:World} {g bn bs:Nat} {M:List Gr.Nd} {nx:Nat} (h:Gr.At w g bn bs M nx) (a:Option Addr) (n q:Nat) (b:Option Addr) (m r:Nat) (t:Tx.T) (ht:TxAt w a n q b m r t) (hs:Tx.Small t) (hK:KDg w) :
    Calls Tryz.prog 30 #[.pointer (some ⟨g,0,none⟩),txv a n q b m r t.firm] w (Gr.IdsPost M (fun z=>∃ s,s∈t.sp∧Gr.cfl M (Tx.idOf false t) (Gr.pt s)=some z) w):=by
  obtain⟨W1,hW1⟩:∃ x,x=w.alloc (.cells #[.slice a n q,.slice b m r,.bool t.firm] 34):=⟨_,rfl⟩
  have hB1:Below w.heap.size w W1:=by rw[hW1];exact(Below.refl _ _).alloc (Nat.le_refl _) _
  have hX:Has W1 w.heap.size 34 #[.slice a n q,.slice b m r,.bool t.firm]:=by rw[hW1];exact Has.fresh _ _ _
  have lX:=hX.load_agg (P:=Tryz.prog) (t:=34) Tryz.underlying34 rfl (by kernel_rfl)
  obtain⟨D,hDd⟩:∃ D,D=Tx.idOf false t:=⟨_,rfl⟩
  have HDL:=Lib.hid (show D.length=32 by rw[hDd];exact Tx.idOf_len _ _)
  have HI:=Lib.hid (show Calls Tryz.prog 42 #[txv a n q b m r t.firm] W1 fun e w'=>e=.returned (.agg (blist D).toArray)∧Below W1.heap.size W1 w' from hDd▸pid_any a n q b m r t t.firm rfl W1 (ht.below hB1) hs (hK.below hB1))
  obtain⟨cf,hcf⟩:∃ cf,cf=Gr.cfl M D:=⟨_,rfl⟩
  rw[← hDd,← hcf]
  have HCF:=Lib.hid hcf
  have HH:=Lib.hid h
  have HR:=Lib.hid ht.sp
  have hmx:n≤9223372036854775807:=ht.sp.2.1
  obtain⟨PL,hPL⟩:∃ P,P=t.sp.map Gr.pt:=⟨_,rfl⟩
  have HPL:=Lib.hid hPL
  have HLE:=Lib.hid (show t.sp.length≤30 from hs.1)
  have HW:=Lib.hid hW1
  have HX:=Lib.hid hX
  clear hW1 hX ht hs hK hDd h hcf hPL
  unfold Gr.IdsPost
  go_enter Tryz.func30,Tryz.ntmps30
  go_upto_region 1 with fail
  rw[← HW.out]
  go_upto_region 2 with(first
    | (refine wpList_store_mid rfl 46 (.tmp 5) (.tmp 12) rfl w2.heap.size 0 (blist D).toArray rfl rfl (Gr.hsRec.there w2 46 (by kernel_rfl) HDL.out) (Gr.hsRec.size_eq Gr.size_hsr HDL.out) (Gr.hsRec.all_one D) ?_)
    | (go_at_call 42;refine HI.out.mono ?_;rintro e w2 ⟨rfl,hb2⟩)
    | (refine wpList_load_run rfl 34 (.tmp 3) rfl _ _ rfl lX ?_))
  obtain⟨w3,hw3⟩:∃ u',u'=(w2.alloc (.cells z32 46)).setCells w2.heap.size 0 (blist D):=⟨_,rfl⟩
  obtain⟨hD3,hb3⟩:=Rec.new (R:=Gr.hsRec) (by kernel_rfl) HDL.out hw3
  rw[← hw3]
  have hT3:Below w.heap.size w w3:=hB1.trans ((hb2.trans (hb3.mono hb2.size)).mono hB1.size)
  have c0:=(HX.out.under (hb2.trans (hb3.mono hb2.size)) HX.out.lt).cell_at (i:=0) (v:=.slice a n q) rfl
  obtain⟨g3,hg3⟩:∃ g,g=w2.heap.size:=⟨_,rfl⟩
  rw[← hg3] at hD3 ⊢
  have HT3:=Lib.hid hT3
  have HD3:=Lib.hid hD3
  clear hw3 hb2 hb3 hg3 lX
  go_upto_region 4 with fail
  have hO0:RowKit.Hid (OwnR Gr.ptrRec 104 w3.heap.size w3 (.slice none 0 0) ((PL.take 0).filterMap cf)):=Lib.hid (OwnR.nil _ _ _ _)
  go_loopw [6,16] (fun sv iv wr=>∃ (i:Nat) (ov:Value),i≤n∧iv=.int .i64 i∧ov=sv∧RowKit.Hid (OwnR Gr.ptrRec 104 w3.heap.size wr ov ((PL.take i).filterMap cf))∧Below w3.heap.size w3 wr) (fun _ iv _=>n-(intOf iv).toNat)
  case atStart=>exact⟨0,_,Nat.zero_le _,rfl,rfl,hO0,Below.refl _ _⟩
  case round=>
    clear hO0 hT3 hD3 c0
    obtain⟨i,ov,hi,rfl,rfl,HO,hb3⟩:=hrel
    have hb:Below w.heap.size w wr:=HT3.out.trans (hb3.mono HT3.out.size)
    have hD:=HD3.out.under hb3 HD3.out.lt
    by_cases hlt:i<n
    · have hii:(i:Int)<(n:Int):=by omega
      have hi0:(0:Int)≤(i:Int):=by omega
      obtain⟨s,hs⟩:=HR.out.get hlt
      obtain⟨y,hay,hy⟩:=spends_load (HR.out.below hb) hs
      subst hay
      have HS:=Lib.hid (HR.out.okay hs)
      have HT:=Lib.hid (show PL.take (i+1)=PL.take i++[Gr.pt s] by
        have h1:PL[i]? = some (Gr.pt s):=by rw[HPL.out,List.getElem?_map,hs];rfl
        obtain⟨h2,h3⟩:=List.getElem?_eq_some_iff.1 h1
        rw[List.take_succ_eq_append_getElem h2,h3])
      have HLN:=Lib.hid (show((PL.take i).filterMap cf).length≤30 by
        have h1:=Gr.filterMap_le cf (PL.take i)
        have h2:(PL.take i).length≤t.sp.length:=by rw[HPL.out,List.length_take,List.length_map];omega
        have:=HLE.out
        omega)
      clear hs
      go_upto_region 6 with(first
        | (refine wpList_store_mid rfl 61 (.tmp 8) (.tmp 19) rfl wr.heap.size 0 (spCells s).toArray rfl rfl (spRec.there wr 61 (by kernel_rfl) HS.out) (spRec.size_eq size_spend HS.out) (spRec.all_one s) ?_)
        | (refine wpList_load_run rfl 61 (.tmp 18) rfl _ _ rfl hy ?_))
      obtain⟨w5,hw5⟩:∃ u,u=(wr.alloc (.cells zSp 61)).setCells wr.heap.size 0 (spCells s):=⟨_,rfl⟩
      obtain⟨hG,hb5⟩:=Rec.new (R:=spRec) (by kernel_rfl) HS.out hw5
      rw[← hw5]
      have HO5:=Lib.hid (HO.out.below hb5)
      have hD5:=hD.under hb5 hD.lt
      have hT5:=hb.trans (hb5.mono hb.size)
      have HT53:=Lib.hid (hb3.trans (hb5.mono hb3.size))
      obtain⟨g5,hg5⟩:∃ g,g=wr.heap.size:=⟨_,rfl⟩
      rw[← hg5] at hG ⊢
      have lP:=hG.spPoint HS.out.1
      have hA5:=HH.out.below hT5
      obtain⟨S,hS,hl⟩:=hA5.sp
      have HC:=Lib.hid (gspender_any hA5.has hS (Gr.pt s) (Gr.pt_ok HS.out))
      rw[hl] at HC
      have h5:=hT5.size
      clear hw5 hG hb5 hy hg5 hA5 HO hb hS hl hD hb3
      cases hsp:Gr.spd M (Gr.pt s) with
      | none=>
        rw[hsp] at HC
        replace HC:RowKit.Hid (Calls Tryz.prog 63 #[.pointer (some ⟨g,0,none⟩),.agg (ptCells s.h s.n).toArray] w5 fun e w'=>e=.returned (.tuple #[.pointer none,.bool false])∧Below w5.heap.size w5 w'):=HC
        have HF:=Lib.hid (show(PL.take (i+1)).filterMap cf=(PL.take i).filterMap cf by rw[HT.out,Gr.filterMap_snoc,HCF.out,Gr.cfl_none hsp])
        clear hsp
        go_upto_region 7 with(first
          | (go_at_call 63;refine HC.out.mono ?_;rintro e w6 ⟨rfl,hb6⟩;have hB6:=hT5.trans (hb6.mono h5);have hB63:=HT53.out.trans (hb6.mono HT53.out.size);have HO6:=Lib.hid (HO5.out.below hb6);have hD6:=hD5.under hb6 hD5.lt)
          | (refine wpList_load_run rfl 58 (.tmp 22) rfl _ _ rfl lP ?_))
        obtain⟨ws,hws⟩:∃ ww,ww=w6.drew:=⟨_,rfl⟩
        have hBs:Below w.heap.size w ws:=by rw[hws];exact hB6.drew
        have hBs3:Below w3.heap.size w3 ws:=by rw[hws];exact hB63.drew
        have HOs:=Lib.hid (show OwnR Gr.ptrRec 104 w3.heap.size ws ov ((PL.take i).filterMap cf) by rw[hws];exact HO6.out.below (Below.refl _ _).drew)
        have hDs:Has ws g3 46 (blist D).toArray:=by rw[hws];exact hD6.draw
        refine wp_region_held_drew (S:=Held ws) (by kernel_rfl) (by rw[hws];exact Held.refl _) (fun hHeld=>?_)
        rw[← hws] at hHeld ⊢
        clear hws
        refine tka (v:=?_) 0 27 rfl rfl hHeld (Or.inl ⟨by rfl,?_⟩) rfl ?_
        rotate_left
        · intro wq hSw
          go_simp
          try with_reducible rfl
        simp only[ts0,ts1]
        refine tka (v:=?_) 1 28 rfl rfl hHeld (Or.inl ⟨by rfl,?_⟩) rfl ?_
        rotate_left
        · intro wq hSw
          go_simp
          try with_reducible rfl
        simp only[ts0,ts1]
        refine tka (v:=undef) 2 29 rfl rfl hHeld (Or.inr ⟨by rfl,rfl⟩) rfl ?_
        simp only[ts0,ts1]
        refine tka (v:=undef) 3 30 rfl rfl hHeld (Or.inr ⟨by rfl,rfl⟩) rfl ?_
        simp only[ts0,ts1]
        refine tka (v:=undef) 4 31 rfl rfl hHeld (Or.inr ⟨by rfl,rfl⟩) rfl ?_
        simp only[ts0,ts1]
        refine tka (v:=undef) 5 32 rfl rfl hHeld (Or.inr ⟨by rfl,rfl⟩) rfl ?_
        simp only[ts0,ts1]
        refine tka (v:=undef) 6 33 rfl rfl hHeld (Or.inr ⟨by rfl,rfl⟩) rfl ?_
        simp only[ts0,ts1]
        refine tka (v:=undef) 7 34 rfl rfl hHeld (Or.inr ⟨by rfl,rfl⟩) rfl ?_
        simp only[ts0,ts1]
        refine tka (v:=?_) 8 35 rfl rfl hHeld (Or.inl ⟨by rfl,?_⟩) rfl ?_
        rotate_left
        · intro wq hSw
          go_simp
          try with_reducible rfl
        simp only[ts0,ts1]
        refine wpAnyH_done (by kernel_rfl) ?_ _
        go_wp2
        go_roundw
        case rel=>exact⟨i+1,ov,by omega,by go_num,rfl,by rw[HF.out];exact HOs,hBs3⟩
        case measure=>(simp[intOf];try omega)
      | some z=>
        rw[hsp] at HC
        replace HC:RowKit.Hid (Calls Tryz.prog 63 #[.pointer (some ⟨g,0,none⟩),.agg (ptCells s.h s.n).toArray] w5 fun e w'=>e=.returned (.tuple #[.pointer (some ⟨z.g,0,none⟩),.bool true])∧Below w5.heap.size w5 w'):=HC
        have HZM:=Lib.hid (Gr.spd_mem hsp).1
        have HZL:=Lib.hid (HH.out.grp.nd z HZM.out).id
        go_upto_region 7 with(first
          | (go_at_call 63;refine HC.out.mono ?_;rintro e w6 ⟨rfl,hb6⟩;have hB6:=hT5.trans (hb6.mono h5);have hB63:=HT53.out.trans (hb6.mono HT53.out.size);have HO6:=Lib.hid (HO5.out.below hb6);have hD6:=hD5.under hb6 hD5.lt)
          | (refine wpList_load_run rfl 58 (.tmp 22) rfl _ _ rfl lP ?_))
        obtain⟨ws,hws⟩:∃ ww,ww=w6.drew:=⟨_,rfl⟩
        have hBs:Below w.heap.size w ws:=by rw[hws];exact hB6.drew
        have hBs3:Below w3.heap.size w3 ws:=by rw[hws];exact hB63.drew
        have HOs:=Lib.hid (show OwnR Gr.ptrRec 104 w3.heap.size ws ov ((PL.take i).filterMap cf) by rw[hws];exact HO6.out.below (Below.refl _ _).drew)
        have hDs:Has ws g3 46 (blist D).toArray:=by rw[hws];exact hD6.draw
        have lzid:=fun(wq:World) (hSw:Held ws wq)=>((HH.out.grp.nd z HZM.out).below (hBs.trans (hSw.below.mono hBs.size))).lid
        have lD:=fun(wq:World) (hSw:Held ws wq)=>(hDs.under hSw.below hDs.lt).load_agg (P:=Tryz.prog) (t:=46) Tryz.underlying46 rfl (size_hs HDL.out)
        by_cases hz:z.id=D
        · have HF:=Lib.hid (show(PL.take (i+1)).filterMap cf=(PL.take i).filterMap cf by rw[HT.out,Gr.filterMap_snoc,HCF.out,Gr.cfl_same hsp hz])
          have hnb:(!decide (z.id=D))=false:=by rw[decide_eq_true hz];rfl
          have HNB:=Lib.hid hnb
          clear hsp hz hnb
          refine wp_region_held_drew (S:=Held ws) (by kernel_rfl) (by rw[hws];exact Held.refl _) (fun hHeld=>?_)
          rw[← hws] at hHeld ⊢
          clear hws
          refine tka (v:=?_) 0 27 rfl rfl hHeld (Or.inl ⟨by rfl,?_⟩) rfl ?_
          rotate_left
          · intro wq hSw
            go_simp
            try with_reducible rfl
          simp only[ts0,ts1]
          refine tka (v:=?_) 1 28 rfl rfl hHeld (Or.inl ⟨by rfl,?_⟩) rfl ?_
          rotate_left
          · intro wq hSw
            go_simp
            try with_reducible rfl
          simp only[ts0,ts1]
          refine tka (v:=?_) 2 29 rfl rfl hHeld (Or.inl ⟨by rfl,?_⟩) rfl ?_
          rotate_left
          · intro wq hSw
            go_simp
            try with_reducible rfl
          simp only[ts0,ts1]
          refine tka (v:=?_) 3 30 rfl rfl hHeld (Or.inl ⟨by rfl,?_⟩) rfl ?_
          rotate_left
          · intro wq hSw
            go_simp
            try with_reducible rfl
          simp only[ts0,ts1]
          refine tka (v:=?_) 4 31 rfl rfl hHeld (Or.inl ⟨by rfl,?_⟩) rfl ?_
          rotate_left
          · intro wq hSw
            go_simp
            try with_reducible rfl
          simp only[ts0,ts1]
          refine tka 5 32 rfl rfl hHeld (yieldsIf_load_agg (by rfl) 46 (.tmp 31) rfl _ _ (by rfl) (fun wq hSw=>lzid wq hSw)) rfl ?_
          simp only[ts0,ts1]
          refine tka 6 33 rfl rfl hHeld (yieldsIf_load_agg (by rfl) 46 (.tmp 5) rfl _ _ (by rfl) (fun wq hSw=>lD wq hSw)) rfl ?_
          simp only[ts0,ts1]
          refine tka 7 34 rfl rfl hHeld (Gr.yieldsIf_neq_b (by rfl) 46 5 46 32 (.tmp 32) (.tmp 33) rfl z.id D (by rfl) (by rfl) (by kernel_rfl) Tryz.underlying46 Tryz.underlying5 (by kernel_rfl) HZL.out HDL.out HNB.out) rfl ?_
          simp only[ts0,ts1]
          refine tka (v:=?_) 8 35 rfl rfl hHeld (Or.inl ⟨by rfl,?_⟩) rfl ?_
          rotate_left
          · intro wq hSw
            go_simp
            try with_reducible rfl
          simp only[ts0,ts1]
          refine wpAnyH_done (by kernel_rfl) ?_ _
          go_wp2
          go_roundw
          case rel=>exact⟨i+1,ov,by omega,by go_num,rfl,by rw[HF.out];exact HOs,hBs3⟩
          case measure=>(simp[intOf];try omega)
        · have HF:=Lib.hid (show(PL.take (i+1)).filterMap cf=(PL.take i).filterMap cf++[z] by rw[HT.out,Gr.filterMap_snoc,HCF.out,Gr.cfl_some.2 ⟨hsp,hz⟩])
          have hnb:(!decide (z.id=D))=true:=by rw[decide_eq_false hz];rfl
          have HNB:=Lib.hid hnb
          clear hsp hz hnb
          refine wp_region_held_drew (S:=Held ws) (by kernel_rfl) (by rw[hws];exact Held.refl _) (fun hHeld=>?_)
          rw[← hws] at hHeld ⊢
          clear hws
          refine tka (v:=?_) 0 27 rfl rfl hHeld (Or.inl ⟨by rfl,?_⟩) rfl ?_
          rotate_left
          · intro wq hSw
            go_simp
            try with_reducible rfl
          simp only[ts0,ts1]
          refine tka (v:=?_) 1 28 rfl rfl hHeld (Or.inl ⟨by rfl,?_⟩) rfl ?_
          rotate_left
          · intro wq hSw
            go_simp
            try with_reducible rfl
          simp only[ts0,ts1]
          refine tka (v:=?_) 2 29 rfl rfl hHeld (Or.inl ⟨by rfl,?_⟩) rfl ?_
          rotate_left
          · intro wq hSw
            go_simp
            try with_reducible rfl
          simp only[ts0,ts1]
          refine tka (v:=?_) 3 30 rfl rfl hHeld (Or.inl ⟨by rfl,?_⟩) rfl ?_
          rotate_left
          · intro wq hSw
            go_simp
            try with_reducible rfl
          simp only[ts0,ts1]
          refine tka (v:=?_) 4 31 rfl rfl hHeld (Or.inl ⟨by rfl,?_⟩) rfl ?_
          rotate_left
          · intro wq hSw
            go_simp
            try with_reducible rfl
          simp only[ts0,ts1]
          refine tka 5 32 rfl rfl hHeld (yieldsIf_load_agg (by rfl) 46 (.tmp 31) rfl _ _ (by rfl) (fun wq hSw=>lzid wq hSw)) rfl ?_
          simp only[ts0,ts1]
          refine tka 6 33 rfl rfl hHeld (yieldsIf_load_agg (by rfl) 46 (.tmp 5) rfl _ _ (by rfl) (fun wq hSw=>lD wq hSw)) rfl ?_
          simp only[ts0,ts1]
          refine tka 7 34 rfl rfl hHeld (Gr.yieldsIf_neq_b (by rfl) 46 5 46 32 (.tmp 32) (.tmp 33) rfl z.id D (by rfl) (by rfl) (by kernel_rfl) Tryz.underlying46 Tryz.underlying5 (by kernel_rfl) HZL.out HDL.out HNB.out) rfl ?_
          simp only[ts0,ts1]
          refine tka (v:=?_) 8 35 rfl rfl hHeld (Or.inl ⟨by rfl,?_⟩) rfl ?_
          rotate_left
          · intro wq hSw
            go_simp
            try with_reducible rfl
          simp only[ts0,ts1]
          refine wpAnyH_done (by kernel_rfl) ?_ _
          have hss:=hBs.size
          go_wp2_with (at_builtin;refine wpList_append_recs (R:=Gr.ptrRec) rfl (.tmp 36) (.tmp 38) 122 rfl 104 Tryz.underlying122 Gr.info_nd rfl (by decide) w3.heap.size ov _ rfl (HOs.out.below ((Below.refl _ _).alloc (Nat.le_refl _) _)) (some ⟨ws.heap.size,0,none⟩) 1 1 [z] rfl (Gr.ptr_fresh z) (fun e=>by cases e) (by have:=HLN.out;omega) (by have:=hBs3.size;simp;omega) ?_;intro v' w7 ho' hg' hl')
          have hB7:=below_own_recs (hBs3.alloc hBs3.size _) hg' HOs.out.lt
          have HO2:=Lib.hid (show OwnR Gr.ptrRec 104 w3.heap.size w7 v' ((PL.take (i+1)).filterMap cf) by rw[HF.out];exact ho')
          clear ho' hg' hl'
          go_roundw
          case rel=>exact⟨i+1,v',by omega,by go_num,rfl,HO2,hB7⟩
          case measure=>(simp[intOf];try omega)
    · clear hb3 hD
      have hii:¬ (i:Int)<(n:Int):=by omega
      obtain rfl:i=n:=by omega
      have hK2:RowKit.Hid (OwnR Gr.ptrRec 104 w3.heap.size wr ov (PL.filterMap cf)):=Lib.hid (by
        have e:PL.take i=PL:=List.take_of_length_le (by rw[HPL.out,List.length_map,HR.out.1];exact Nat.le_refl _)
        have:=HO.out
        rw[e] at this
        exact this)
      have hmem:∀ z,z∈PL.filterMap cf→z∈M:=fun z hz=>by
        obtain⟨p,_,hp⟩:=List.mem_filterMap.1 hz
        rw[HCF.out] at hp
        exact(Gr.spd_mem (Gr.cfl_some.1 hp).1).1
      have HME:=Lib.hid hmem
      have HKL:=Lib.hid (show(PL.filterMap cf).length≤30 by
        have h1:=Gr.filterMap_le cf PL
        have h2:PL.length≤30:=by rw[HPL.out,List.length_map];exact HLE.out
        omega)
      have HA3:=Lib.hid (HH.out.below hb)
      have HBW:=Lib.hid hb
      have HG:=Lib.hid (ggroupof_any hK2.out (fun z hz=>HA3.out.grp.nd z (HME.out z hz)) (by have:=HKL.out;omega) (fun x y hx hy=>HA3.out.grp.inj x y (HME.out x hx) (HME.out y hy)))
      clear hmem hb HO
      go_wp2_with (first
        | (go_at_call 66;refine HG.out.mono ?_;rintro e w4 ⟨b4,L4,rfl,hlb,hg4,hz4,hn4,hb4⟩;have HI:=Lib.hid (gids_any hg4 (by have:=HKL.out;omega) (Gr.pls_of (fun x y hx hy=>HA3.out.pl_inj x y (HME.out x ((hz4 x).1 hx)) (HME.out y ((hz4 y).1 hy))) hg4)))
        | (go_at_call 67;refine HI.out.mono ?_;rintro e w5 ⟨v5,L5,rfl,ho5,hp5,hw5,hb5⟩))
      go_ret
      have hs3:=HBW.out.size
      exact⟨v5,L5,rfl,ho5.low (by have:=hb4.size;omega),hw5,fun z=>by
        rw[hp5.mem_iff,hz4,List.mem_filterMap]
        refine⟨fun h=>⟨HME.out z (List.mem_filterMap.2 h),?_⟩,fun h=>?_⟩
        · obtain⟨p,hp,hc⟩:=h
          rw[HPL.out] at hp
          obtain⟨s,hs,rfl⟩:=List.mem_map.1 hp
          exact⟨s,hs,hc⟩
        · obtain⟨_,s,hs,hc⟩:=h
          exact⟨Gr.pt s,by rw[HPL.out];exact List.mem_map.2 ⟨s,hs,rfl⟩,hc⟩,HBW.out.trans ((hb4.trans (hb5.mono hb4.size)).mono hs3)⟩
end Go.Proofs.YtijemcfnlbapjaaGreatDoor
