/- package amount: Good, Fee, Need, Pays, Total, as the premise asks (mkamc.py) · package tx: what Check calls, and Check (mktxa.py) · More rules of the walk for unsigned integers. Nothing of the program. · integers, counts, texts as bytes. Nothing of the program. -/
import Derived.Test.YtijemcfnlbapjaaGreatDoorJ06
import Derived.Test.YtijemcfnlbapjaaGreatDoorJ01
namespace Go.Proofs.YtijemcfnlbapjaaGreatDoor
open Go Go.RowKit Go.ChangeShapes Go.WideShapes
set_option maxRecDepth 100000 in
set_option maxHeartbeats 2000000 in
theorem pgood_any (z:Int) (b:Bool) (hb:b=true↔Am.Good z) (w:World) :
    Calls Tryz.prog 74 #[.int .i64 z] w fun e w'=>e=.returned (.bool b)∧w=w':=by
  have HB:=Lib.hid hb
  clear hb
  by_cases h1:0≤z
  · by_cases h2:z≤2100000000000000
    · obtain rfl:b=true:=HB.out.2 ⟨h1,h2⟩
      clear HB
      go_enter Tryz.func74,Tryz.ntmps74
      go_wp2
      go_ret
      exact⟨rfl,rfl⟩
    · obtain rfl:b=false:=by
        cases b
        · rfl
        · exact absurd (HB.out.1 rfl).2 h2
      clear HB
      go_enter Tryz.func74,Tryz.ntmps74
      go_wp2
      go_ret
      exact⟨rfl,rfl⟩
  · obtain rfl:b=false:=by
      cases b
      · rfl
      · exact absurd (HB.out.1 rfl).1 h1
    clear HB
    go_enter Tryz.func74,Tryz.ntmps74
    go_wp2
    go_ret
    exact⟨rfl,rfl⟩
set_option maxRecDepth 100000 in
set_option maxHeartbeats 2000000 in
theorem ptotal_any (a:Option Addr) (n c:Nat) (l:List Int) (w:World) (h:Nums w a n l) :
    Calls Tryz.prog 51 #[.slice a n c] w fun e w'=>e=.returned (.tuple #[.int .i64 (Am.total l 0).1,errn (Am.total l 0).2])∧w=w':=by
  have hl:=h.1
  have hmx:n≤9223372036854775807:=h.2.1
  have HL:=Lib.hid hl
  clear hl
  go_enter Tryz.func51,Tryz.ntmps51
  go_wp2
  go_loop [4,9] (fun sv iv=>∃ (i:Nat) (s:Int),i≤n∧iv=.int .i64 i∧sv=.int .i64 s∧0≤s∧s≤2100000000000000∧Hid (Am.total l 0=Am.total (l.drop i) s)) (fun _ iv=>n-(intOf iv).toNat)
  case atStart=>exact⟨0,0,Nat.zero_le _,rfl,rfl,by omega,by omega,Lib.hid rfl⟩
  case round=>
    obtain⟨i,s,hi,rfl,rfl,hs0,hs1,HT⟩:=hrel
    by_cases hlt:i<n
    · obtain⟨x,rfl,hx⟩:=h.2.2 i hlt
      have hii:(i:Int)<(n:Int):=by omega
      have hi0:(0:Int)≤(i:Int):=by omega
      obtain⟨z,hz⟩:∃ z,z=cn l i:=⟨_,rfl⟩
      rw[← hz] at hx
      have hdr:l.drop i=z :: l.drop (i+1):=by
        rw[List.drop_eq_getElem_cons (by rw[HL.out];exact hlt),hz,cn,List.getD_eq_getElem?_getD,List.getElem?_eq_getElem (by rw[HL.out];exact hlt)]
        rfl
      have HD:=Lib.hid hdr
      clear hz hdr
      by_cases hg:Am.Good z
      · obtain⟨hz0,hz1⟩:=id hg
        have HG:=Lib.hid hg
        clear hg
        by_cases hg2:Am.Good (s+z)
        · have HE:=Lib.hid (show Am.total l 0=Am.total (l.drop (i+1)) (s+z) by
            rw[HT.out,HD.out]
            show(if Am.Good z then _ else _)=_
            rw[if_pos HG.out,if_pos hg2])
          obtain⟨hz2,hz3⟩:=id hg2
          have HG2:=Lib.hid hg2
          clear hg2
          go_wp2_with (first
            | (go_at_call 74;(with_reducible refine(pgood_any z true ⟨fun _=>HG.out,fun _=>rfl⟩ _).mono ?_);rintro e w1 ⟨rfl,rfl⟩)
            | (go_at_call 74;(with_reducible refine(pgood_any (s+z) true ⟨fun _=>HG2.out,fun _=>rfl⟩ _).mono ?_);rintro e w1 ⟨rfl,rfl⟩))
          go_round
          case rel=>exact⟨i+1,s+z,by omega,by go_num,rfl,hz2,hz3,HE⟩
          case measure=>(simp[intOf];try omega)
        · have HE:=Lib.hid (show Am.total l 0=(0,9) by
            rw[HT.out,HD.out]
            show(if Am.Good z then _ else _)=_
            rw[if_pos HG.out,if_neg hg2])
          have HG2:=Lib.hid hg2
          clear hg2
          go_wp2_with (first
            | (go_at_call 74;(with_reducible refine(pgood_any z true ⟨fun _=>HG.out,fun _=>rfl⟩ _).mono ?_);rintro e w1 ⟨rfl,rfl⟩)
            | (go_at_call 74;(with_reducible refine(pgood_any (s+z) false ⟨fun e=>absurd e Bool.false_ne_true,fun e=>absurd e HG2.out⟩ _).mono ?_);rintro e w1 ⟨rfl,rfl⟩))
          go_ret2
          exact⟨by rw[HE.out];rfl,rfl⟩
      · have HE:=Lib.hid (show Am.total l 0=(0,9) by
          rw[HT.out,HD.out]
          show(if Am.Good z then _ else _)=_
          rw[if_neg hg])
        have HG:=Lib.hid hg
        clear hg
        go_wp2_with (first
          | (go_at_call 74;(with_reducible refine(pgood_any z false ⟨fun e=>absurd e Bool.false_ne_true,fun e=>absurd e HG.out⟩ _).mono ?_);rintro e w1 ⟨rfl,rfl⟩))
        go_ret2
        exact⟨by rw[HE.out];rfl,rfl⟩
    · have hii:¬ (i:Int)<(n:Int):=by omega
      have HE:=Lib.hid (show Am.total l 0=(s,0) by
        rw[HT.out,List.drop_of_length_le (by rw[HL.out];omega)]
        rfl)
      go_wp2
      go_ret2
      exact⟨by rw[HE.out];rfl,rfl⟩
end Go.Proofs.YtijemcfnlbapjaaGreatDoor
namespace Go.Proofs.YtijemcfnlbapjaaGreatDoor
open Go Go.RowKit Go.ChangeShapes Go.WideShapes
theorem wpList_bin_run {P:Program} {ops:Array Oper} {rest:List Oper} {op:Oper} {a:Act} {w:World} {Q:Exit→Act→World→Prop} (hgd:op.guard=none) (k:BinOp) (t:TypeId) (x y:Operand) (yt:TypeId) (ho:op.op=.binOp k t x y yt)
    (X Y:Array Value) (hx:a.eval x=.agg X) (hy:a.eval y=.agg Y) (hg:P.eqGuardType P.depth t=false) (v:Value) (hr:(binOp k t (.agg X) (.agg Y)).run P w=.ok v w) (h:wpList P ops Q rest (a.put op.dst v) w):wpList P ops Q (op :: rest) a w:=
  wpList_plain hgd fun K hK=>by
    unfold Oper.wp execOp
    simp only[ho,hx,hy,Sem.run_bind,run_eqGuard_agg w k t x y _ _ hg,Result.andThen_ok,hr,Sem.run_pure]
    exact hK _ _ h
theorem Has.spPoint {w:World} {g:Nat} {T:TypeId} {s:Tx.Sp} (h:Has w g T (spCells s).toArray) (hl:s.h.length=32):(Instr.loadAt 58 (.pointer (some ⟨g,0,none⟩))).run Tryz.prog w=.ok (.agg (ptCells s.h s.n).toArray) w:=by
  have h1:=run_loadCells_list (P:=Tryz.prog) w ⟨g,0,none⟩ (ptCells s.h s.n) (fun j v hj=>by
    rw[Addr.add_mid,Nat.zero_add]
    refine h.cell_at ?_
    rw[List.getElem?_toArray]
    have e:spCells s=ptCells s.h s.n++[.string (strB s.key),.int .u64 (nb64 s.sl)]:=by unfold spCells ptCells;simp
    rw[e,List.getElem?_append_left (List.getElem?_eq_some_iff.1 hj).1]
    exact hj)
  rw[ptCells_len hl] at h1
  have hsz:(Tryz.prog.info? 58).map (·.size)=some 33:=by kernel_rfl
  cases hq:Tryz.prog.info? 58 with
  | none=>simp[hq] at hsz
  | some inf=>
    have hz:inf.size=33:=by simpa [hq] using hsz
    have hagg:(isAgg 58).run Tryz.prog w=.ok true w:=by
      unfold isAgg
      rw[Sem.run_bind,run_underlying Tryz.underlying58 w]
      rfl
    simp[Instr.loadAt,Instr.sureAddr,loadVar,Sem.run_bind,hagg,sizeOf,typeInfo,hq,hz,h1]
set_option maxRecDepth 100000 in
set_option maxHeartbeats 8000000 in
theorem isnum_any (z:Int) (b:Bool) (hb:b=true↔(0≤z∧z<8)) (w:World) :
    Calls Tryz.prog 105 #[.int .i64 z] w fun e w'=>e=.returned (.bool b)∧w=w':=by
  have HB:=Lib.hid hb
  clear hb
  by_cases h1:0≤z
  · by_cases h2:z<8
    · obtain rfl:b=true:=HB.out.2 ⟨h1,h2⟩
      clear HB
      go_enter Tryz.func105,Tryz.ntmps105
      go_wp2
      go_ret
      exact⟨rfl,rfl⟩
    · obtain rfl:b=false:=by
        cases b
        · rfl
        · exact absurd (HB.out.1 rfl).2 h2
      clear HB
      go_enter Tryz.func105,Tryz.ntmps105
      go_wp2
      go_ret
      exact⟨rfl,rfl⟩
  · obtain rfl:b=false:=by
      cases b
      · rfl
      · exact absurd (HB.out.1 rfl).1 h1
    clear HB
    go_enter Tryz.func105,Tryz.ntmps105
    go_wp2
    go_ret
    exact⟨rfl,rfl⟩
set_option maxRecDepth 100000 in
set_option maxHeartbeats 8000000 in
theorem formed1_any (s:Tx.Sp) (hok:Tx.SpOk s) (b:Bool) (hb:b=true↔Tx.badSp s) (w:World) :
    Calls Tryz.prog 104 #[.agg (spCells s).toArray] w fun e w'=>e=.returned (.bool b)∧Below w.heap.size w w':=by
  obtain⟨W1,hW1⟩:∃ x,x=w.alloc (.cells (spCells s).toArray 61):=⟨_,rfl⟩
  have hBw:Below w.heap.size w W1:=by rw[hW1];exact(Below.refl _ w).alloc (Nat.le_refl _) _
  have hX:Has W1 w.heap.size 61 (spCells s).toArray:=by rw[hW1];exact Has.fresh w _ _
  have HW:=Lib.hid hW1
  clear hW1
  have c32:=hX.spN hok.1
  have c33:=hX.spKey hok.1
  have hsz:=strB_size s.key
  have hkm:s.key.length≤9223372036854775807:=hok.2.2
  obtain⟨kl,hkl⟩:∃ m,m=s.key.length:=⟨_,rfl⟩
  rw[← hkl] at hsz hkm
  obtain⟨sn,hsn⟩:∃ m,m=s.n:=⟨_,rfl⟩
  rw[← hsn] at c32
  have HB:=Lib.hid (show b=true↔(32<kl∨sn<0∨7<sn) by rw[hb,hkl,hsn];rfl)
  clear hb hkl hsn hok hX
  by_cases b1:(32:Int)<(kl:Int)
  · obtain rfl:b=true:=HB.out.2 (.inl (by omega))
    go_enter Tryz.func104,Tryz.ntmps104
    go_upto_region 1 with fail
    rw[← HW.out]
    go_wp2
    go_ret
    exact⟨rfl,hBw⟩
  · obtain⟨r,hr⟩:∃ r:Bool,r=true↔(0≤sn∧sn<8):=⟨decide (0≤sn∧sn<8),by simp⟩
    have hbr:(!r)=b:=by
      rw[Bool.eq_iff_iff,HB.out,Bool.not_eq_true',← Bool.not_eq_true,hr]
      omega
    have HR:=Lib.hid (And.intro hr hbr)
    clear hr hbr
    go_enter Tryz.func104,Tryz.ntmps104
    go_upto_region 1 with fail
    rw[← HW.out]
    go_wp2_with (go_at_call 105;refine(isnum_any sn r HR.out.1 _).mono ?_;rintro e w2 ⟨rfl,rfl⟩)
    go_ret
    exact⟨congrArg (fun b=>Ending.returned (.bool b)) HR.out.2,hBw⟩
set_option maxRecDepth 100000 in
set_option maxHeartbeats 8000000 in
theorem twice1_any (s:Tx.Sp) (hok:Tx.SpOk s) (u:Tx.Sp) (huk:Tx.SpOk u) (g:Nat) (b:Bool) (hb:b=true↔(s.h=u.h∧s.n=u.n)) (w:World) (hg:Has w g 61 (spCells u).toArray) :
    Calls Tryz.prog 106 #[.agg (spCells s).toArray,.pointer (some ⟨g,0,none⟩)] w fun e w'=>e=.returned (.bool b)∧Below w.heap.size w w':=by
  obtain⟨W1,hW1⟩:∃ x,x=w.alloc (.cells (spCells s).toArray 61):=⟨_,rfl⟩
  have hBw:Below w.heap.size w W1:=by rw[hW1];exact(Below.refl _ w).alloc (Nat.le_refl _) _
  have hX:Has W1 w.heap.size 61 (spCells s).toArray:=by rw[hW1];exact Has.fresh w _ _
  have HW:=Lib.hid hW1
  clear hW1
  have lS:=hX.spPoint hok.1
  have lU:=(hg.under hBw hg.lt).spPoint huk.1
  have HE:=Lib.hid (show(binOp .eql 58 (.agg (ptCells s.h s.n).toArray) (.agg (ptCells u.h u.n).toArray)).run Tryz.prog W1=.ok (.bool b) W1 from(eql_point W1 s.h u.h s.n u.n hok.1 huk.1).trans (by rw[show decide (s.h=u.h∧s.n=u.n)=b by rw[Bool.eq_iff_iff,decide_eq_true_iff,hb]]))
  clear hb hok huk hX hg
  go_enter Tryz.func106,Tryz.ntmps106
  go_upto_region 1 with fail
  rw[← HW.out]
  go_wp2_with (first
    | (refine wpList_load_run rfl 58 (.tmp 4) rfl _ _ rfl lS ?_)
    | (refine wpList_load_run rfl 58 (.tmp 6) rfl _ _ rfl lU ?_)
    | (refine wpList_bin_run rfl .eql 58 (.tmp 5) (.tmp 7) _ rfl _ _ rfl rfl (by kernel_rfl) _ HE.out ?_))
  go_ret
  exact⟨rfl,hBw⟩
set_option maxRecDepth 100000 in
set_option maxHeartbeats 8000000 in
theorem idx_formed1 (a:Option Addr) (n q:Nat) (L:List Tx.Sp)  (w:World) (h:Recs spRec w a n L)  :
    Calls Tryz.prog 125 #[.slice a n q,.func (.func 104) #[] #[]] w fun e w'=>(∃ z:Int,e=.returned (.int .i64 z)∧(0≤z↔∃ s,s∈L∧(Tx.badSp s)))∧Below w.heap.size w w':=by
  have hmx:n≤9223372036854775807:=h.2.1
  have hX0:=True.intro
  have HL:=Lib.hid h.1
  clear hX0
  go_enter Tryz.func125,Tryz.ntmps125
  go_wp2
  go_loopw [8] (fun iv wr=>∃ i:Nat,i≤n∧iv=.int .i64 i∧RowKit.Hid (∀ (j:Nat) (s:Tx.Sp),j<i→L[j]? = some s→¬ (Tx.badSp s))∧Below w.heap.size w wr) (fun iv _=>n-(intOf iv).toNat)
  case atStart=>exact⟨0,Nat.zero_le _,rfl,Lib.hid (fun j s hj=>by omega),Below.refl _ _⟩
  case round=>
    obtain⟨i,hi,rfl,HB,hb⟩:=hrel
    by_cases hlt:i<n
    · have hii:(i:Int)<(n:Int):=by omega
      have hi0:(0:Int)≤(i:Int):=by omega
      obtain⟨s,hs⟩:=h.get hlt
      obtain⟨x,hax,_⟩:=h.2.2.2 i s hs
      subst hax
      have hy:=spends_at (h.below hb) hs
      have HS:=Lib.hid (And.intro hs (h.okay hs))
      clear hs
      obtain⟨v,hv⟩:∃ v:Bool,v=true↔(Tx.badSp s):=⟨decide (Tx.badSp s),by simp⟩
      have HV:=Lib.hid hv
      clear hv
      cases v
      · have HB2:=Lib.hid (show ∀ (j:Nat) (u:Tx.Sp),j<i+1→L[j]? = some u→¬ (Tx.badSp u) from fun j u hj hu=>by
          rcases Nat.lt_or_ge j i with h | h
          · exact HB.out j u h hu
          · have e2:j=i:=by omega
            subst e2
            rw[HS.out.1] at hu
            injection hu with hu
            subst hu
            exact fun e=>Bool.false_ne_true (HV.out.2 e))
        go_wp2_with (first
          | (go_at_call 104;refine(formed1_any s HS.out.2 _ HV.out wr).mono ?_;rintro e w2 ⟨rfl,hb2⟩;have hbn:=hb.trans (hb2.mono hb.size))
          | (refine wpList_load_run rfl 61 (.tmp 14) rfl _ _ rfl hy ?_))
        go_roundw
        case rel=>exact⟨i+1,by omega,by go_num,HB2,hbn⟩
        case measure=>(simp[intOf];try omega)
      · have HT:=Lib.hid (show ∃ s,s∈L∧(Tx.badSp s) from⟨s,List.mem_of_getElem? HS.out.1,HV.out.1 rfl⟩)
        go_wp2_with (first
          | (go_at_call 104;refine(formed1_any s HS.out.2 _ HV.out wr).mono ?_;rintro e w2 ⟨rfl,hb2⟩;have hbn:=hb.trans (hb2.mono hb.size))
          | (refine wpList_load_run rfl 61 (.tmp 14) rfl _ _ rfl hy ?_))
        go_ret
        exact⟨⟨_,rfl,fun _=>HT.out,fun _=>by omega⟩,hbn⟩
    · have HF:=Lib.hid (show ¬ ∃ s,s∈L∧(Tx.badSp s) from fun⟨s,hm,hp⟩=>by
        obtain⟨j,hj⟩:=List.mem_iff_getElem?.1 hm
        exact HB.out j s (by have h9:j<L.length:=(List.getElem?_eq_some_iff.1 hj).1;rw[HL.out] at h9;omega) hj hp)
      have hii:¬ (i:Int)<(n:Int):=by omega
      go_wp2
      go_ret
      exact⟨⟨_,rfl,fun h=>by omega,fun h=>(HF.out h).elim⟩,hb⟩
set_option maxRecDepth 100000 in
set_option maxHeartbeats 8000000 in
theorem has_formed1 (a:Option Addr) (n q:Nat) (L:List Tx.Sp)  (w:World) (h:Recs spRec w a n L)  (r:Bool) (hr:r=true↔∃ s,s∈L∧(Tx.badSp s)) :
    Calls Tryz.prog 103 #[.slice a n q,.func (.func 104) #[] #[]] w fun e w'=>e=.returned (.bool r)∧Below w.heap.size w w':=by
  have HR:=Lib.hid hr
  have hX0:=True.intro
  clear hr
  clear hX0
  go_enter Tryz.func103,Tryz.ntmps103
  go_wp2_with (go_at_call 125;refine(idx_formed1 a n q L  w h ).mono ?_;rintro e w1 ⟨⟨z,rfl,hz⟩,hb⟩;have HZ:=Lib.hid hz;clear hz)
  go_ret
  refine⟨?_,hb⟩
  have h1:decide (0≤z)=r:=by
    rw[Bool.eq_iff_iff,decide_eq_true_iff,HZ.out,HR.out]
  exact congrArg (fun b=>Ending.returned (.bool b)) h1
set_option maxRecDepth 100000 in
set_option maxHeartbeats 8000000 in
theorem idx_twice1 (a:Option Addr) (n q:Nat) (L:List Tx.Sp) (y:Tx.Sp) (huk:Tx.SpOk y) (g:Nat) (w:World) (h:Recs spRec w a n L) (hg:Has w g 61 (spCells y).toArray) :
    Calls Tryz.prog 125 #[.slice a n q,.func (.func 106) #[] #[.pointer (some ⟨g,0,none⟩)]] w fun e w'=>(∃ z:Int,e=.returned (.int .i64 z)∧(0≤z↔∃ s,s∈L∧(s.h=y.h∧s.n=y.n)))∧Below w.heap.size w w':=by
  have hmx:n≤9223372036854775807:=h.2.1
  have HL:=Lib.hid h.1
  have HY:=Lib.hid huk
  have HG:=Lib.hid hg
  clear huk hg
  go_enter Tryz.func125,Tryz.ntmps125
  go_wp2
  go_loopw [8] (fun iv wr=>∃ i:Nat,i≤n∧iv=.int .i64 i∧RowKit.Hid (∀ (j:Nat) (s:Tx.Sp),j<i→L[j]? = some s→¬ (s.h=y.h∧s.n=y.n))∧Below w.heap.size w wr) (fun iv _=>n-(intOf iv).toNat)
  case atStart=>exact⟨0,Nat.zero_le _,rfl,Lib.hid (fun j s hj=>by omega),Below.refl _ _⟩
  case round=>
    obtain⟨i,hi,rfl,HB,hb⟩:=hrel
    by_cases hlt:i<n
    · have hii:(i:Int)<(n:Int):=by omega
      have hi0:(0:Int)≤(i:Int):=by omega
      obtain⟨s,hs⟩:=h.get hlt
      obtain⟨x,hax,_⟩:=h.2.2.2 i s hs
      subst hax
      have hy:=spends_at (h.below hb) hs
      have HS:=Lib.hid (And.intro hs (h.okay hs))
      clear hs
      obtain⟨v,hv⟩:∃ v:Bool,v=true↔(s.h=y.h∧s.n=y.n):=⟨decide (s.h=y.h∧s.n=y.n),by simp⟩
      have HV:=Lib.hid hv
      clear hv
      cases v
      · have HB2:=Lib.hid (show ∀ (j:Nat) (u:Tx.Sp),j<i+1→L[j]? = some u→¬ (u.h=y.h∧u.n=y.n) from fun j u hj hu=>by
          rcases Nat.lt_or_ge j i with h | h
          · exact HB.out j u h hu
          · have e2:j=i:=by omega
            subst e2
            rw[HS.out.1] at hu
            injection hu with hu
            subst hu
            exact fun e=>Bool.false_ne_true (HV.out.2 e))
        go_wp2_with (first
          | (go_at_call 106;refine(twice1_any s HS.out.2 y HY.out g _ HV.out wr (HG.out.under hb HG.out.lt)).mono ?_;rintro e w2 ⟨rfl,hb2⟩;have hbn:=hb.trans (hb2.mono hb.size))
          | (refine wpList_load_run rfl 61 (.tmp 14) rfl _ _ rfl hy ?_))
        go_roundw
        case rel=>exact⟨i+1,by omega,by go_num,HB2,hbn⟩
        case measure=>(simp[intOf];try omega)
      · have HT:=Lib.hid (show ∃ s,s∈L∧(s.h=y.h∧s.n=y.n) from⟨s,List.mem_of_getElem? HS.out.1,HV.out.1 rfl⟩)
        go_wp2_with (first
          | (go_at_call 106;refine(twice1_any s HS.out.2 y HY.out g _ HV.out wr (HG.out.under hb HG.out.lt)).mono ?_;rintro e w2 ⟨rfl,hb2⟩;have hbn:=hb.trans (hb2.mono hb.size))
          | (refine wpList_load_run rfl 61 (.tmp 14) rfl _ _ rfl hy ?_))
        go_ret
        exact⟨⟨_,rfl,fun _=>HT.out,fun _=>by omega⟩,hbn⟩
    · have HF:=Lib.hid (show ¬ ∃ s,s∈L∧(s.h=y.h∧s.n=y.n) from fun⟨s,hm,hp⟩=>by
        obtain⟨j,hj⟩:=List.mem_iff_getElem?.1 hm
        exact HB.out j s (by have h9:j<L.length:=(List.getElem?_eq_some_iff.1 hj).1;rw[HL.out] at h9;omega) hj hp)
      have hii:¬ (i:Int)<(n:Int):=by omega
      go_wp2
      go_ret
      exact⟨⟨_,rfl,fun h=>by omega,fun h=>(HF.out h).elim⟩,hb⟩
set_option maxRecDepth 100000 in
set_option maxHeartbeats 8000000 in
theorem has_twice1 (a:Option Addr) (n q:Nat) (L:List Tx.Sp) (y:Tx.Sp) (huk:Tx.SpOk y) (g:Nat) (w:World) (h:Recs spRec w a n L) (hg:Has w g 61 (spCells y).toArray) (r:Bool) (hr:r=true↔∃ s,s∈L∧(s.h=y.h∧s.n=y.n)) :
    Calls Tryz.prog 103 #[.slice a n q,.func (.func 106) #[] #[.pointer (some ⟨g,0,none⟩)]] w fun e w'=>e=.returned (.bool r)∧Below w.heap.size w w':=by
  have HR:=Lib.hid hr
  clear hr
  have HY:=Lib.hid huk
  have HG:=Lib.hid hg
  clear huk hg
  go_enter Tryz.func103,Tryz.ntmps103
  go_wp2_with (go_at_call 125;refine(idx_twice1 a n q L y HY.out g w h HG.out).mono ?_;rintro e w1 ⟨⟨z,rfl,hz⟩,hb⟩;have HZ:=Lib.hid hz;clear hz)
  go_ret
  refine⟨?_,hb⟩
  have h1:decide (0≤z)=r:=by
    rw[Bool.eq_iff_iff,decide_eq_true_iff,HZ.out,HR.out]
  exact congrArg (fun b=>Ending.returned (.bool b)) h1
set_option maxRecDepth 100000 in
set_option maxHeartbeats 8000000 in
theorem formed_any (a:Option Addr) (n q:Nat) (b:Option Addr) (m r:Nat) (t:Tx.T) (f:Bool) (w:World) (ht:TxAt w a n q b m r t) (z:Bool) (hz:z=true↔(Tx.Sized t∧∀ s,s∈t.sp→¬ Tx.badSp s)) :
    Calls Tryz.prog 89 #[txv a n q b m r f] w fun e w'=>e=.returned (.bool z)∧Below w.heap.size w w':=by
  obtain⟨W1,hW1⟩:∃ x,x=w.alloc (.cells #[.slice a n q,.slice b m r,.bool f] 34):=⟨_,rfl⟩
  have hBw:Below w.heap.size w W1:=by rw[hW1];exact(Below.refl _ w).alloc (Nat.le_refl _) _
  have hX:Has W1 w.heap.size 34 #[.slice a n q,.slice b m r,.bool f]:=by rw[hW1];exact Has.fresh w _ _
  have HW:=Lib.hid hW1
  clear hW1
  have HT:=Lib.hid (ht.below hBw)
  have hnl:t.sp.length=n:=ht.sp.1
  have hml:t.co.length=m:=ht.co.1
  have hnm:n≤9223372036854775807:=ht.sp.2.1
  have hmm:m≤9223372036854775807:=ht.co.2.1
  have HZ:=Lib.hid (show z=true↔((1≤n∧n≤8∧1≤m∧m≤8)∧∀ s,s∈t.sp→¬ Tx.badSp s) by rw[hz,Tx.Sized,hnl,hml])
  clear hz ht hnl hml
  go_enter Tryz.func89,Tryz.ntmps89
  go_upto_region 1 with fail
  rw[← HW.out]
  obtain⟨ws,hws⟩:∃ x,x=W1.drew:=⟨_,rfl⟩
  have hbs:Below W1.heap.size W1 ws:=by rw[hws];exact(Below.refl _ _).drew
  have hXs:=hX.under hbs hX.lt
  have hBs:=hBw.trans (hbs.mono hBw.size)
  refine wp_region_held_drew (S:=Held ws) (by kernel_rfl) (by rw[hws];exact Held.refl _) (fun hHeld=>?_)
  rw[← hws] at hHeld ⊢
  clear hws
  refine tka (v:=?_) 0 5 rfl rfl hHeld (Or.inl ⟨by rfl,?_⟩) rfl ?_
  rotate_left
  · intro wq hSw
    go_simp
    try with_reducible rfl
  simp only[ts0,ts1]
  refine tka (v:=?_) 1 6 rfl rfl hHeld (Or.inl ⟨by rfl,?_⟩) rfl ?_
  rotate_left
  · intro wq hSw
    have hst:=(hXs.under hSw hXs.lt).cell_at (i:=0) rfl
    go_simp
    try with_reducible rfl
  simp only[ts0,ts1]
  refine tka (v:=?_) 2 7 rfl rfl hHeld (Or.inl ⟨by rfl,?_⟩) rfl ?_
  rotate_left
  · intro wq hSw
    go_simp
    try with_reducible rfl
  simp only[ts0,ts1]
  refine tka (v:=?_) 3 8 rfl rfl hHeld (Or.inl ⟨by rfl,?_⟩) rfl ?_
  rotate_left
  · intro wq hSw
    go_simp
    try with_reducible rfl
  simp only[ts0,ts1]
  refine tka (v:=?_) 4 9 rfl rfl hHeld (Or.inl ⟨by rfl,?_⟩) rfl ?_
  rotate_left
  · intro wq hSw
    have hst:=(hXs.under hSw hXs.lt).cell_at (i:=1) rfl
    go_simp
    try with_reducible rfl
  simp only[ts0,ts1]
  refine tka (v:=?_) 5 10 rfl rfl hHeld (Or.inl ⟨by rfl,?_⟩) rfl ?_
  rotate_left
  · intro wq hSw
    go_simp
    try with_reducible rfl
  simp only[ts0,ts1]
  refine tka (v:=?_) 6 3 rfl rfl hHeld (Or.inl ⟨by rfl,?_⟩) rfl ?_
  rotate_left
  · intro wq hSw
    go_simp
    try with_reducible rfl
  simp only[ts0,ts1]
  refine tka (v:=?_) 7 4 rfl rfl hHeld (Or.inl ⟨by rfl,?_⟩) rfl ?_
  rotate_left
  · intro wq hSw
    go_simp
    try with_reducible rfl
  simp only[ts0,ts1]
  refine wpAnyH_done (by kernel_rfl) ?_ _
  have f0:ws.cell? ⟨w.heap.size,0,none⟩=some (.slice a n q):=hXs.cell_at rfl
  by_cases k1:(1:Int)≤(n:Int)
  · by_cases k2:(n:Int)≤(8:Int)
    · by_cases k3:(1:Int)≤(m:Int)
      · by_cases k4:(m:Int)≤(8:Int)
        · obtain⟨v,hv⟩:∃ v:Bool,v=true↔∃ s,s∈t.sp∧(Tx.badSp s):=⟨!z,by
            rw[Bool.not_eq_true',← Bool.not_eq_true,HZ.out]
            constructor
            · intro h
              refine Classical.byContradiction fun hc=>h ⟨by omega,fun s hs hb=>hc ⟨s,hs,hb⟩⟩
            · rintro ⟨s,hs,hb⟩ h
              exact h.2 s hs hb⟩
          have hvz:(!v)=z:=by
            rw[Bool.eq_iff_iff,Bool.not_eq_true',← Bool.not_eq_true,hv,HZ.out]
            constructor
            · exact fun h=>⟨by omega,fun s hs hb=>h ⟨s,hs,hb⟩⟩
            · rintro h ⟨s,hs,hb⟩
              exact h.2 s hs hb
          have HV:=Lib.hid (And.intro hv hvz)
          clear hv hvz
          go_wp2_with (go_at_call 103;refine(has_formed1 a n q t.sp ws (HT.out.sp.below hbs) v HV.out.1).mono ?_;rintro e w2 ⟨rfl,hb2⟩)
          go_ret
          exact⟨congrArg (fun b=>Ending.returned (.bool b)) HV.out.2,hBs.trans (hb2.mono hBs.size)⟩
        · obtain rfl:z=false:=by
            cases z
            · rfl
            · exact absurd (HZ.out.1 rfl).1 (by omega)
          go_wp2
          go_ret
          exact⟨rfl,hBs⟩
      · obtain rfl:z=false:=by
          cases z
          · rfl
          · exact absurd (HZ.out.1 rfl).1 (by omega)
        go_wp2
        go_ret
        exact⟨rfl,hBs⟩
    · obtain rfl:z=false:=by
        cases z
        · rfl
        · exact absurd (HZ.out.1 rfl).1 (by omega)
      go_wp2
      go_ret
      exact⟨rfl,hBs⟩
  · obtain rfl:z=false:=by
      cases z
      · rfl
      · exact absurd (HZ.out.1 rfl).1 (by omega)
    go_wp2
    go_ret
    exact⟨rfl,hBs⟩
set_option maxRecDepth 100000 in
set_option maxHeartbeats 8000000 in
theorem stwice_any (a:Option Addr) (n q:Nat) (L:List Tx.Sp) (w:World) (h:Recs spRec w a n L) (hnq:n≤q) (z:Bool) (hz:z=true↔Tx.Twice L) :
    Calls Tryz.prog 91 #[.slice a n q] w fun e w'=>e=.returned (.bool z)∧Below w.heap.size w w':=by
  have hmx:n≤9223372036854775807:=h.2.1
  have HL:=Lib.hid h.1
  have HZ:=Lib.hid hz
  clear hz
  go_enter Tryz.func91,Tryz.ntmps91
  go_wp2
  go_loopw [7] (fun iv wr=>∃ i:Nat,i≤n∧iv=.int .i64 i∧RowKit.Hid (∀ (j k:Nat) (s o:Tx.Sp),j<i→k<j→L[j]? = some s→L[k]? = some o→¬ (s.h=o.h∧s.n=o.n))∧Below w.heap.size w wr) (fun iv _=>n-(intOf iv).toNat)
  case atStart=>exact⟨0,Nat.zero_le _,rfl,Lib.hid (fun j k s o hj=>by omega),Below.refl _ _⟩
  case round=>
    obtain⟨i,hi,rfl,HB,hb⟩:=hrel
    by_cases hlt:i<n
    · have hii:(i:Int)<(n:Int):=by omega
      have hi0:(0:Int)≤(i:Int):=by omega
      have hiq:(i:Int)≤(q:Int):=by omega
      obtain⟨s,hs⟩:=h.get hlt
      obtain⟨x,hax,_⟩:=h.2.2.2 i s hs
      subst hax
      have hy:=spends_at (h.below hb) hs
      have HOK:=Lib.hid (h.okay hs)
      have HS:=Lib.hid hs
      clear hs
      go_upto_region 4 with(first
        | (refine wpList_store_mid rfl 61 (.tmp 4) (.tmp 11) rfl wr.heap.size 0 (spCells s).toArray rfl rfl (spRec.there _ _ rfl HOK.out) (spRec.size_eq size_spend HOK.out) (spRec.all_one s) ?_)
        | (refine wpList_load_run rfl 61 (.tmp 10) rfl _ _ rfl hy ?_))
      obtain⟨w5,hw5⟩:∃ x,x=(wr.alloc (.cells zSp 61)).setCells wr.heap.size 0 (spCells s):=⟨_,rfl⟩
      obtain⟨hG,hb5⟩:=Rec.new (R:=spRec) rfl HOK.out hw5
      rw[← hw5]
      clear hw5 hy
      obtain⟨g7,hg7⟩:∃ g,g=wr.heap.size:=⟨_,rfl⟩
      rw[← hg7] at hG ⊢
      clear hg7
      replace hb:=hb.trans (hb5.mono hb.size)
      clear hb5
      obtain⟨v,hv⟩:∃ v:Bool,v=true↔∃ o,o∈L.take i∧(o.h=s.h∧o.n=s.n):=⟨(L.take i).any (fun o=>decide (o.h=s.h∧o.n=s.n)),by simp⟩
      have HV:=Lib.hid hv
      clear hv
      have HTK:=Lib.hid ((h.below hb).take (show i≤n by omega))
      have HGG:=Lib.hid hG
      clear hG
      cases v
      · have HB2:=Lib.hid (show ∀ (j k:Nat) (s o:Tx.Sp),j<i+1→k<j→L[j]? = some s→L[k]? = some o→¬ (s.h=o.h∧s.n=o.n) from fun j k' u o hj hkj hu ho=>by
          rcases Nat.lt_or_ge j i with h | h
          · exact HB.out j k' u o h hkj hu ho
          · have e2:j=i:=by omega
            subst e2
            rw[HS.out] at hu
            injection hu with hu
            subst hu
            exact fun e=>Bool.false_ne_true (HV.out.2 ⟨o,List.mem_of_getElem? (show(L.take j)[k']? = some o by rw[List.getElem?_take_of_lt hkj];exact ho),e.1.symm,e.2.symm⟩))
        go_wp2_with (go_at_call 103;refine(has_twice1 (some x) i _ (L.take i) s HOK.out g7 w5 HTK.out HGG.out false HV.out).mono ?_;rintro e w6 ⟨rfl,hb6⟩)
        go_roundw
        case rel=>exact⟨i+1,by omega,by go_num,HB2,hb.trans (hb6.mono hb.size)⟩
        case measure=>(simp[intOf];try omega)
      · obtain rfl:z=true:=HZ.out.2 (by
          obtain⟨o,hm,h1,h2⟩:=HV.out.1 rfl
          obtain⟨k,hk⟩:=List.mem_iff_getElem?.1 hm
          rw[List.getElem?_take] at hk
          split at hk
          · exact⟨i,k,s,o,by assumption,HS.out,hk,h1.symm,h2.symm⟩
          · cases hk)
        go_wp2_with (go_at_call 103;refine(has_twice1 (some x) i _ (L.take i) s HOK.out g7 w5 HTK.out HGG.out true HV.out).mono ?_;rintro e w6 ⟨rfl,hb6⟩)
        go_ret
        exact⟨rfl,hb.trans (hb6.mono hb.size)⟩
    · have hii:¬ (i:Int)<(n:Int):=by omega
      obtain rfl:z=false:=by
        cases z
        · rfl
        · exfalso
          obtain⟨j,k,s,o,hkj,hj,hk,e⟩:=HZ.out.1 rfl
          exact HB.out j k s o (by have h9:j<L.length:=(List.getElem?_eq_some_iff.1 hj).1;rw[HL.out] at h9;omega) hkj hj hk e
      go_wp2
      go_ret
      exact⟨rfl,hb⟩
set_option maxRecDepth 100000 in
set_option maxHeartbeats 8000000 in
theorem pout_any (a:Option Addr) (n q:Nat) (b:Option Addr) (m r:Nat) (t:Tx.T) (f:Bool) (w:World) (ht:TxAt w a n q b m r t) (hm:m≤1000000) :
    Calls Tryz.prog 90 #[txv a n q b m r f] w fun e w'=>e=.returned (.tuple #[.int .i64 (Am.total (Tx.vals t.co) 0).1,errn (Am.total (Tx.vals t.co) 0).2])∧Below w.heap.size w w':=by
  obtain⟨W1,hW1⟩:∃ x,x=w.alloc (.cells #[.slice a n q,.slice b m r,.bool f] 34):=⟨_,rfl⟩
  have hBw:Below w.heap.size w W1:=by rw[hW1];exact(Below.refl _ w).alloc (Nat.le_refl _) _
  have hX:Has W1 w.heap.size 34 #[.slice a n q,.slice b m r,.bool f]:=by rw[hW1];exact Has.fresh w _ _
  have HW:=Lib.hid hW1
  clear hW1
  have HCO:=Lib.hid (ht.co.below hBw)
  have hml:t.co.length=m:=ht.co.1
  have HML:=Lib.hid hml
  clear ht hml
  obtain⟨vl,hvl⟩:∃ l,l=Tx.vals t.co:=⟨_,rfl⟩
  have HVL:=Lib.hid (show ∀ i c,t.co[i]? = some c→vl.take (i+1)=vl.take i++[c.v] from fun i c hc=>by
    have h1:vl[i]? = some c.v:=by rw[hvl];simp[Tx.vals,hc]
    obtain⟨h2,h3⟩:=List.getElem?_eq_some_iff.1 h1
    rw[List.take_succ_eq_append_getElem h2,h3])
  have HVN:=Lib.hid (show vl.length=m by rw[hvl,Tx.vals_len,HML.out])
  rw[← hvl]
  clear hvl
  go_enter Tryz.func90,Tryz.ntmps90
  go_upto_region 1 with fail
  rw[← HW.out]
  obtain⟨g1,hg1⟩:∃ g,g=w.heap.size:=⟨_,rfl⟩
  have HG:=Lib.hid hg1
  rw[← hg1] at hX ⊢
  clear hg1
  have f1:W1.cell? ⟨g1,1,none⟩=some (.slice b m r):=hX.cell_at rfl
  go_wp2
  clear f1
  go_loopw [4,10] (fun lv iv wr=>∃ i:Nat,i≤m∧iv=.int .i64 i∧OwnN 3 W1.heap.size wr lv (vl.take i)∧Below W1.heap.size W1 wr) (fun _ iv _=>m-(intOf iv).toNat)
  case atStart=>exact⟨0,Nat.zero_le _,rfl,by rw[List.take_zero];exact OwnN.nil _ _ _,Below.refl _ _⟩
  case round=>
    obtain⟨i,hi,rfl,ho,hb⟩:=hrel
    by_cases hlt:i<m
    · have hii:(i:Int)<(m:Int):=by omega
      have hi0:(0:Int)≤(i:Int):=by omega
      obtain⟨c,hc⟩:=HCO.out.get hlt
      obtain⟨x,hax,_⟩:=HCO.out.2.2.2 i c hc
      subst hax
      have hy:=coins_at (HCO.out.below hb) hc
      have HOK:=Lib.hid (HCO.out.okay hc)
      have HC:=Lib.hid hc
      have HL:=Lib.hid (show(vl.take i).length≤i by rw[List.length_take];omega)
      clear hc
      go_upto_region 5 with(first
        | (refine wpList_store_mid rfl 74 (.tmp 6) (.tmp 13) rfl wr.heap.size 0 (coCells c).toArray rfl rfl (coRec.there _ _ rfl HOK.out) (coRec.size_eq size_coin HOK.out) (coRec.all_one c) ?_)
        | (refine wpList_load_run rfl 74 (.tmp 12) rfl _ _ rfl hy ?_))
      obtain⟨w5,hw5⟩:∃ x,x=(wr.alloc (.cells zCo 74)).setCells wr.heap.size 0 (coCells c):=⟨_,rfl⟩
      obtain⟨hG,hb5⟩:=Rec.new (R:=coRec) rfl HOK.out hw5
      rw[← hw5]
      clear hw5 hy
      obtain⟨g7,hg7⟩:∃ g,g=wr.heap.size:=⟨_,rfl⟩
      rw[← hg7] at hG ⊢
      clear hg7
      replace hb:=hb.trans (hb5.mono hb.size)
      replace ho:=ho.below hb5
      have hsz:=hb.size
      clear hb5
      have k0:w5.cell? ⟨g7,0,none⟩=some (.int .i64 c.v):=hG.cell_at rfl
      clear hG
      go_wp2_with (first
        | (at_builtin;refine wpList_append_nums rfl (.tmp 14) (.tmp 17) 102 rfl 3 Tryz.underlying102 info_num W1.heap.size _ (vl.take i) rfl (ho.below ((Below.refl _ _).alloc (Nat.le_refl _) _)) (some ⟨w5.heap.size,0,none⟩) 1 1 [c.v] rfl (nums_lit w5 c.v) (fun e=>by cases e) (by have:=HL.out;omega) (by simp;omega) ?_;intro va w2 ho2 hg2;rw[← HVL.out i c HC.out] at ho2;have hB2:=below_own_rown (hb.alloc hsz _) hg2 ho.lt))
      go_roundw
      case rel=>exact⟨i+1,by omega,by go_num,ho2,hB2⟩
      case measure=>(simp[intOf];try omega)
    · have hii:¬ (i:Int)<(m:Int):=by omega
      have hlen:(vl.take i).length=m:=by rw[List.length_take,HVN.out];omega
      have htk:vl.take i=vl:=List.take_of_length_le (by rw[HVN.out];omega)
      rw[htk] at ho hlen
      obtain⟨oa,oc,rfl,_,_,hnu⟩:=ho.shape hlen
      clear htk hlen
      go_wp2_with (first
        | (go_at_call 51;refine(ptotal_any oa m oc vl _ hnu).mono ?_;rintro e wk ⟨rfl,rfl⟩))
      go_ret2
      exact⟨rfl,hBw.trans (hb.mono hBw.size)⟩
set_option maxRecDepth 100000 in
set_option maxHeartbeats 8000000 in
theorem pcheck_any (a:Option Addr) (n q:Nat) (b:Option Addr) (m r:Nat) (t:Tx.T) (f:Bool) (w:World) (ht:TxAt w a n q b m r t) (hm:m≤1000000) :
    Calls Tryz.prog 73 #[txv a n q b m r f] w fun e w'=>e=.returned (errn (Tx.check t))∧Below w.heap.size w w':=by
  obtain⟨W1,hW1⟩:∃ x,x=w.alloc (.cells #[.slice a n q,.slice b m r,.bool f] 34):=⟨_,rfl⟩
  have hBw:Below w.heap.size w W1:=by rw[hW1];exact(Below.refl _ w).alloc (Nat.le_refl _) _
  have hX:Has W1 w.heap.size 34 #[.slice a n q,.slice b m r,.bool f]:=by rw[hW1];exact Has.fresh w _ _
  have HW:=Lib.hid hW1
  clear hW1
  have l1:=hX.load_agg (P:=Tryz.prog) (t:=34) Tryz.underlying34 rfl (by kernel_rfl)
  have HT:=Lib.hid (ht.below hBw)
  have HM:=Lib.hid hm
  obtain⟨z,hz⟩:∃ z,z=Tx.check t:=⟨_,rfl⟩
  rw[← hz]
  obtain⟨g1,hg1⟩:∃ g,g=w.heap.size:=⟨_,rfl⟩
  rw[← hg1] at hX l1
  have HG:=Lib.hid hg1
  have HX:=Lib.hid hX
  clear hg1 hX ht hm
  go_enter Tryz.func73,Tryz.ntmps73
  go_upto_region 1 with fail
  rw[← HW.out,← HG.out]
  obtain⟨y,hy⟩:∃ y:Bool,y=true↔(Tx.Sized t∧∀ s,s∈t.sp→¬ Tx.badSp s):=⟨decide (Tx.Sized t∧∀ s,s∈t.sp→¬ Tx.badSp s),by simp⟩
  have HFM:=Lib.hid hy
  clear hy
  cases y
  · obtain rfl:z=2:=by
      rw[hz,Tx.check]
      by_cases h1:Tx.Sized t
      · rw[if_pos h1,if_neg (fun h2=>Bool.false_ne_true (HFM.out.2 ⟨h1,h2⟩))]
      · rw[if_neg h1]
    clear hz
    go_wp2_with (first
      | (go_at_call 89;refine(formed_any a n q b m r t f W1 HT.out false HFM.out).mono ?_;rintro e w2 ⟨rfl,hb2⟩;have lX2:=HX.out.under hb2 HX.out.lt;have l2:=lX2.load_agg (P:=Tryz.prog) (t:=34) Tryz.underlying34 rfl (by kernel_rfl);have d0:w2.cell? ⟨g1,0,none⟩=some (.slice a n q):=lX2.cell_at rfl)
      | (refine wpList_load_run rfl 34 (.tmp 1) rfl _ _ rfl l1 ?_))
    go_ret
    exact⟨rfl,hBw.trans (hb2.mono hBw.size)⟩
  · obtain⟨sm,hsm⟩:∃ x,x=(Am.total (Tx.vals t.co) 0).1:=⟨_,rfl⟩
    obtain⟨er,her⟩:∃ x,x=(Am.total (Tx.vals t.co) 0).2:=⟨_,rfl⟩
    have HZ2:z=if er=0 then if Tx.Twice t.sp then 8 else 0 else er:=by rw[hz,Tx.check,if_pos (HFM.out.1 rfl).1,if_pos (HFM.out.1 rfl).2,her]
    have HS:=Lib.hid (And.intro hsm her)
    clear hsm her hz
    by_cases he:er=0
    · subst he
      rw[if_pos rfl] at HZ2
      obtain⟨v,hv⟩:∃ v:Bool,v=true↔Tx.Twice t.sp:=⟨decide (Tx.Twice t.sp),by simp⟩
      have HTW:=Lib.hid hv
      clear hv
      cases v
      · obtain rfl:z=0:=by rw[HZ2,if_neg (fun h=>Bool.false_ne_true (HTW.out.2 h))]
        clear HZ2
        go_wp2_with (first
          | (go_at_call 91;refine(stwice_any a n q t.sp w3 (HT.out.sp.below hB3) HT.out.nq false HTW.out).mono ?_;rintro e w4 ⟨rfl,hb4⟩)
          | (go_at_call 90;refine(pout_any a n q b m r t f w2 (HT.out.below hb2) HM.out).mono ?_;rw[← HS.out.1,← HS.out.2,show errn 0=Value.nilIface from rfl];rintro e w3 ⟨rfl,hb3⟩;have hB3:=hb2.trans (hb3.mono hb2.size);have d1:w3.cell? ⟨g1,0,none⟩=some (.slice a n q):=(HX.out.under hB3 HX.out.lt).cell_at rfl)
          | (go_at_call 89;refine(formed_any a n q b m r t f W1 HT.out true HFM.out).mono ?_;rintro e w2 ⟨rfl,hb2⟩;have lX2:=HX.out.under hb2 HX.out.lt;have l2:=lX2.load_agg (P:=Tryz.prog) (t:=34) Tryz.underlying34 rfl (by kernel_rfl);have d0:w2.cell? ⟨g1,0,none⟩=some (.slice a n q):=lX2.cell_at rfl)
          | (refine wpList_load_run rfl 34 (.tmp 1) rfl _ _ rfl l1 ?_)
          | (refine wpList_load_run rfl 34 (.tmp 1) rfl _ _ rfl l2 ?_))
        go_ret
        exact⟨rfl,hBw.trans ((hB3.trans (hb4.mono hB3.size)).mono hBw.size)⟩
      · obtain rfl:z=8:=by rw[HZ2,if_pos (HTW.out.1 rfl)]
        have HTT:=Lib.hid (HTW.out.1 rfl)
        clear HZ2
        go_wp2_with (first
          | (go_at_call 91;refine(stwice_any a n q t.sp w3 (HT.out.sp.below hB3) HT.out.nq true ⟨fun _=>HTT.out,fun _=>rfl⟩).mono ?_;rintro e w4 ⟨rfl,hb4⟩)
          | (go_at_call 90;refine(pout_any a n q b m r t f w2 (HT.out.below hb2) HM.out).mono ?_;rw[← HS.out.1,← HS.out.2,show errn 0=Value.nilIface from rfl];rintro e w3 ⟨rfl,hb3⟩;have hB3:=hb2.trans (hb3.mono hb2.size);have d1:w3.cell? ⟨g1,0,none⟩=some (.slice a n q):=(HX.out.under hB3 HX.out.lt).cell_at rfl)
          | (go_at_call 89;refine(formed_any a n q b m r t f W1 HT.out true HFM.out).mono ?_;rintro e w2 ⟨rfl,hb2⟩;have lX2:=HX.out.under hb2 HX.out.lt;have l2:=lX2.load_agg (P:=Tryz.prog) (t:=34) Tryz.underlying34 rfl (by kernel_rfl);have d0:w2.cell? ⟨g1,0,none⟩=some (.slice a n q):=lX2.cell_at rfl)
          | (refine wpList_load_run rfl 34 (.tmp 1) rfl _ _ rfl l1 ?_)
          | (refine wpList_load_run rfl 34 (.tmp 1) rfl _ _ rfl l2 ?_))
        go_ret
        exact⟨rfl,hBw.trans ((hB3.trans (hb4.mono hB3.size)).mono hBw.size)⟩
    · obtain rfl:z=er:=by rw[HZ2,if_neg he]
      clear HZ2
      have HE:=Lib.hid (show errn z=erro z from if_neg he)
      clear he
      go_wp2_with (first
        | (go_at_call 90;refine(pout_any a n q b m r t f w2 (HT.out.below hb2) HM.out).mono ?_;rw[← HS.out.1,← HS.out.2,HE.out];rintro e w3 ⟨rfl,hb3⟩;have hB3:=hb2.trans (hb3.mono hb2.size);have d1:w3.cell? ⟨g1,0,none⟩=some (.slice a n q):=(HX.out.under hB3 HX.out.lt).cell_at rfl)
        | (go_at_call 89;refine(formed_any a n q b m r t f W1 HT.out true HFM.out).mono ?_;rintro e w2 ⟨rfl,hb2⟩;have lX2:=HX.out.under hb2 HX.out.lt;have l2:=lX2.load_agg (P:=Tryz.prog) (t:=34) Tryz.underlying34 rfl (by kernel_rfl);have d0:w2.cell? ⟨g1,0,none⟩=some (.slice a n q):=lX2.cell_at rfl)
        | (refine wpList_load_run rfl 34 (.tmp 1) rfl _ _ rfl l1 ?_)
        | (refine wpList_load_run rfl 34 (.tmp 1) rfl _ _ rfl l2 ?_))
      go_ret
      exact⟨by rw[HE.out];rfl,hBw.trans (hB3.mono hBw.size)⟩
end Go.Proofs.YtijemcfnlbapjaaGreatDoor
namespace Go.Proofs.YtijemcfnlbapjaaGreatDoor
open Go
section
variable (t:TypeId)
@[go_sem high] theorem u64_mul_vl (y:BitVec 64) (n:Nat):binOp .mul t (.int .u64 (nb64 y)) (.int .u64 (no_index (OfNat.ofNat n)))=pure (.int .u64 (nb64 (y*BitVec.ofNat 64 n))):=by
  rw[binOp_mul];show pure (Value.int .u64 (IntKind.u64.wrap (nb64 y*(n:Int))))=_
  congr 2
  have e:(y*BitVec.ofNat 64 n).toNat=(y.toNat*n)%2^64:=by rw[BitVec.toNat_mul,BitVec.toNat_ofNat,Nat.mul_mod_mod]
  rw[IntKind.wrap_u64]
  show((y.toNat:Nat):Int)*(n:Int)%_=(((y*BitVec.ofNat 64 n).toNat:Nat):Int)
  rw[e]
  rfl
@[go_sem high] theorem u32_sub_lv (y:BitVec 32) (n:Nat):binOp .sub t (.int .u32 (no_index (OfNat.ofNat n))) (.int .u32 (nb32 y))=pure (.int .u32 (nb32 (BitVec.ofNat 32 n-y))):=by
  rw[binOp_sub];show pure (Value.int .u32 (IntKind.u32.wrap ((n:Int)-nb32 y)))=_
  congr 2
  rw[IntKind.wrap_u32']
  have e:(BitVec.ofNat 32 n-y).toNat=(2^32-y.toNat+n%2^32)%2^32:=by rw[BitVec.toNat_sub,BitVec.toNat_ofNat]
  have hy:=y.isLt
  show((n:Int)-((y.toNat:Nat):Int))%_=(((BitVec.ofNat 32 n-y).toNat:Nat):Int)
  rw[e]
  omega
end
@[go_sem high] theorem u64_to_u8 (x:BitVec 64):IntKind.u8.wrap (nb64 x)=nb8 (x.setWidth 8):=by
  rw[IntKind.wrap_u8];simp only[nb8,nb64,BitVec.toNat_setWidth];have:=x.isLt;omega
theorem nat_to_u64 (r:Nat):IntKind.u64.wrap (r:Int)=nb64 (BitVec.ofNat 64 r):=by
  rw[IntKind.wrap_u64];simp only[nb64,BitVec.toNat_ofNat];omega
end Go.Proofs.YtijemcfnlbapjaaGreatDoor
namespace Go.Proofs.YtijemcfnlbapjaaGreatDoor.Pk
open Go.Proofs.YtijemcfnlbapjaaGreatDoor
def le (x:BitVec 64) (k:Nat):List (BitVec 8):=(List.range k).map fun i=>(x>>>(8*i)).setWidth 8
theorem le_len (x:BitVec 64) (k:Nat):(le x k).length=k:=by simp[le]
theorem le_snoc (x:BitVec 64) (k:Nat):le x (k+1)=le x k++[(x>>>(8*k)).setWidth 8]:=by unfold le;rw[List.range_succ,List.map_append];rfl
theorem quo_shr (x:BitVec 64) (k:Nat):(x>>>(8*k)) / 256#64=x>>>(8*(k+1)):=by
  apply BitVec.eq_of_toNat_eq
  simp only[BitVec.toNat_udiv,BitVec.toNat_ushiftRight,BitVec.toNat_ofNat,Nat.shiftRight_eq_div_pow]
  rw[Nat.div_div_eq_div_mul,show 8*(k+1)=8*k+8 by omega,Nat.pow_add]
theorem rem_low (y:BitVec 64):(y%256#64).setWidth 8=y.setWidth 8:=by
  apply BitVec.eq_of_toNat_eq
  rw[BitVec.toNat_setWidth,BitVec.toNat_setWidth,BitVec.toNat_umod,show(256#64).toNat=256 from rfl]
  omega
def okSize (z:Int):Prop:=z=1∨z=2∨z=4∨z=8
instance (z:Int):Decidable (okSize z):=by unfold okSize;infer_instance
def num (x:BitVec 64) (z:Int):List (BitVec 8):=if okSize z then le x z.toNat else[]
def count (n:Int):List (BitVec 8):=
  if n<0 then[] else if n≤252 then le (BitVec.ofInt 64 n) 1 else if n≤65535 then[253#8]++le (BitVec.ofInt 64 n) 2 else if n≤4294967295 then[254#8]++le (BitVec.ofInt 64 n) 4 else[255#8]++le (BitVec.ofInt 64 n) 8
def text (s:List (BitVec 8)):List (BitVec 8):=count s.length++s
theorem count_le (n:Int):(count n).length≤9:=by
  unfold count
  split
  · simp
  · split
    · rw[le_len];omega
    · split
      · simp[le_len]
      · split<;>simp[le_len]
end Go.Proofs.YtijemcfnlbapjaaGreatDoor.Pk
