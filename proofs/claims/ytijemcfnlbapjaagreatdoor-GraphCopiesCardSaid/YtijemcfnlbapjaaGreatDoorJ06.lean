/- Slices of ints: how they are read and appended to, compared. Nothing of the program's own. · the reference: With, Total, Compare · the reference's Out, Check · errors as numbers: gossamernum's Num and Is · what package amount answers, as a premise; the example; AmountTotals over it -/
import Derived.Test.YtijemcfnlbapjaaGreatDoorRows
import Derived.Test.YtijemcfnlbapjaaGreatDoorJ01
import Derived.Laws.AppendOwnNone
import Derived.Maps.AppendAt
import Derived.OpenShut
import Derived.BigQuiet
import Derived.Deep.QuietTactic
import Derived.Lib.Hide
import Derived.Test.YtijemcfnlbapjaaGreatDoorJ05
import Derived.Deep.Cut
import Derived.WalkKit
import Derived.ProofKit
import Derived.Test.YtijemcfnlbapjaaGreatDoorJ03
import Derived.Deep.RegionHeld3
namespace Go.Proofs.YtijemcfnlbapjaaGreatDoor
open Go Go.RowKit Go.ChangeShapes Go.WideShapes
theorem info_num:(Tryz.prog.info? 3).map (fun i=>(i.zero,i.size,i.bytes))=some (some (.int .i64 0),1,8):=by kernel_rfl
def cn (l:List (Int)) (i:Nat):Int:=l.getD i 0
def nlist (l:List (Int)):List Value:=l.map fun x=>.int .i64 (x)
theorem nlist_length (l:List (Int)):(nlist l).length=l.length:=by simp[nlist]
theorem nlist_at (l:List (Int)) (i:Nat) (h:i<l.length):(nlist l)[i]? = some (.int .i64 ((cn l i))):=by
  rw[nlist,List.getElem?_map,cn,List.getD_eq_getElem?_getD,List.getElem?_eq_getElem h];rfl
theorem nlist_one (l:List (Int)):∀ v∈nlist l,v.oneCell'=true:=by
  intro v hv
  rw[nlist,List.mem_map] at hv
  obtain⟨x,_,rfl⟩:=hv
  rfl
theorem nlist_app (l m:List (Int)):nlist (l++m)=nlist l++nlist m:=by simp[nlist]
def Nums (w:World) (a:Option Addr) (n:Nat) (l:List (Int)):Prop:=
  l.length=n∧n≤maxLen∧∀ i,i<n→∃ x,a=some x∧w.cell? (x.add i)=some (.int .i64 ((cn l i)))
theorem nums_none (w:World):Nums w none 0 []:=⟨rfl,by unfold maxLen;omega,fun i hi=>by omega⟩
def OwnN (T:TypeId) (B:Nat) (w:World) (v:Value) (l:List (Int)):Prop:=w.ownsRow B T 1 v l.length (nlist l)
section
variable {T:TypeId} {B:Nat} {w w':World} {v:Value} {l:List (Int)}
theorem OwnN.nil (T:TypeId) (B:Nat) (w:World):OwnN T B w (.slice none 0 0) []:=World.ownsRow_nil _ _ _ _
theorem OwnN.all {m:List (Int)} {k:Nat} (hk:m.length=k) (h:w'.ownsRow B T 1 v (l.length+k) (nlist l++nlist m)):OwnN T B w' v (l++m):=by
  subst hk
  unfold OwnN
  rw[nlist_app]
  simpa using h
theorem OwnN.lt (h:OwnN T B w v l):∀ k,v.ownBlock=some k→B≤k:=fun k hk=>(World.ownsRow.lt h k hk).1
theorem OwnN.below (h:OwnN T B w v l) (hb:Below w.heap.size w w'):OwnN T B w' v l:=by
  refine⟨h.1,?_⟩
  rcases h.2 with hn | ⟨G,cap,cur,rfl,h1,h2,rest⟩
  · exact .inl hn
  · exact .inr ⟨G,cap,cur,rfl,h1,(hb.block _ (Array.getElem?_eq_some_iff.1 h2).1).trans h2,rest⟩
theorem OwnN.shape {K:Nat} (h:OwnN T B w v l) (hK:l.length=K):∃ a c,v=.slice a K c∧K≤c∧(a=none→c=0)∧Nums w a K l:=by
  subst hK
  obtain⟨hl,⟨rfl,h0⟩ | ⟨g,cap,cur,rfl,hg,hh,hn,hm,hc,ht⟩⟩:=h
  · obtain rfl:=List.length_eq_zero_iff.1 h0
    exact⟨none,0,rfl,Nat.le_refl _,fun _=>rfl,nums_none w⟩
  · refine⟨_,cap,rfl,hn,(fun e=>by cases e),rfl,by omega,fun i hi=>⟨_,rfl,?_⟩⟩
    rw[Addr.add_mid,Nat.zero_add,(show Has w g T cur from hh).cell i,← nlist_at l i hi,← ht,List.getElem?_take,if_pos (by omega),Array.getElem?_toList]
end
theorem below_own_rown {w0 w w':World} {row:Option Nat} (hb:Below w0.heap.size w0 w) (hg:w.grownBy w' row) (hr:∀ k,row=some k→w0.heap.size≤k):Below w0.heap.size w0 w':=hb.grown hg hb.size hr
theorem wpList_append_nums {P:Program} {w:World} {ops:Array Oper} {rest:List Oper} {o:Oper} {a:Act} {Q:Exit→Act→World→Prop} (hgd:o.guard=none) (s x:Operand) (t:TypeId)
    (ho:o.op=.call { callee:=.builtin .append,args:=#[s,x],argTypes:=#[t,t] })
    (T:TypeId) (ht:P.underlying t=some (.slice T)) (hinfo:(P.info? T).map (fun i=>(i.zero,i.size,i.bytes))=some (some (.int .i64 0),1,8))
    (B:Nat) (v:Value) (l:List (Int)) (hs:a.eval s=v) (hown:OwnN T B w v l) (ad:Option Addr) (m c:Nat) (l2:List (Int)) (hx:a.eval x=.slice ad m c) (hw:Nums w ad m l2) (hc:ad=none→c=0)
    (h63:l.length+m≤1099511627776) (hbase:B≤w.heap.size)
    (h:∀ v' w',OwnN T B w' v' (l++l2)→w.grownBy w' v.ownBlock→wpList P ops Q rest (a.put o.dst v') w'):wpList P ops Q (o :: rest) a w:=by
  obtain⟨i0,hi,hz0,hz1,hz2⟩:=info_parts hinfo
  obtain⟨hl2,hm,hcell⟩:=hw
  rcases ad with _ | ad
  · have h0:m=0:=by
      rcases Nat.eq_zero_or_pos m with h0 | h0
      · exact h0
      · obtain⟨_,e,_⟩:=hcell 0 h0
        cases e
    subst h0
    obtain rfl:=List.length_eq_zero_iff.1 hl2
    obtain rfl:=hc rfl
    exact wpList_append_own_none hgd s x t ho B T i0 1 ht hi v _ _ hs hown hx (h v w (by simpa using hown) (World.grownBy.refl w _))
  · refine wpList_append_own w hgd s x t ho B T i0 (.int .i64 0) 1 8 ht hi hz0 hz1 hz2 rfl (by decide) v _ _ hs hown ad m c (nlist l2) hx (by rw[nlist_length,hl2,Nat.mul_one]) (fun j u hj=>?_) (nlist_one _) (by unfold maxLen;omega) (by omega) hbase ?_
    · have hj2:j<l2.length:=by
        have:=(List.getElem?_eq_some_iff.1 hj).1
        rwa [nlist_length] at this
      obtain⟨ad',e,hx2⟩:=hcell j (by omega)
      injection e with e
      subst e
      rw[hx2,← hj,nlist_at l2 j hj2]
    · intro v' w' h1 h2 _
      exact h v' w' (OwnN.all hl2 h1) h2
section
variable {H:Type} {enc:TypeId×Value→H} {P:Program} {W:World} {base:Nat} {v:Value} {d:DataW H} {p:List MemPlace}
end
end Go.Proofs.YtijemcfnlbapjaaGreatDoor
namespace Go.Proofs.YtijemcfnlbapjaaGreatDoor
open Go Go.RowKit Go.ChangeShapes Go.WideShapes
def Am.Fits (f v g u:Int):Prop:=Am.Right f v∧Am.Right g u∧Am.Right (f+g) (v+u)
instance (f v g u:Int):Decidable (Am.Fits f v g u):=inferInstanceAs (Decidable (_∧_))
set_option maxRecDepth 100000 in
set_option maxHeartbeats 2000000 in
theorem atotal_any (a:Option Addr) (n c:Nat) (l:List Int) (w:World) (h:Nums w a n l) :
    Calls Tryz.prog 119 #[.slice a n c] w fun e w'=>e=.returned (.tuple #[.int .i64 (Am.total l 0).1,.int .i64 (Am.total l 0).2])∧w=w':=by
  have hl:=h.1
  have hmx:n≤9223372036854775807:=h.2.1
  have HL:=Lib.hid hl
  clear hl
  go_enter Tryz.func119,Tryz.ntmps119
  go_wp2
  go_loop [4,5] (fun sv iv=>∃ (i:Nat) (s:Int),i≤n∧iv=.int .i64 i∧sv=.int .i64 s∧0≤s∧s≤2100000000000000∧Hid (Am.total l 0=Am.total (l.drop i) s)) (fun _ iv=>n-(intOf iv).toNat)
  case atStart=>exact⟨0,0,Nat.zero_le _,rfl,rfl,by omega,by omega,Lib.hid rfl⟩
  case round=>
    obtain⟨i,s,hi,rfl,rfl,hs0,hs1,HT⟩:=hrel
    by_cases hlt:i<n
    · obtain⟨x,rfl,hx⟩:=h.2.2 i hlt
      have hii:(i:Int)<(n:Int):=by omega
      have hi0:(0:Int)≤(i:Int):=by omega
      obtain⟨z,hz⟩:∃ z,z=cn l i:=⟨_,rfl⟩
      rw[← hz] at hx
      have hdr:l.drop i=z :: l.drop (i+1):=by
        rw[List.drop_eq_getElem_cons (by rw[HL.out];exact hlt),hz,cn,List.getD_eq_getElem?_getD,List.getElem?_eq_getElem (by rw[HL.out];exact hlt)]
        rfl
      have HD:=Lib.hid hdr
      clear hz hdr
      by_cases hg:Am.Good z
      · obtain⟨hz0,hz1⟩:=id hg
        have HG:=Lib.hid hg
        clear hg
        by_cases hg2:Am.Good (s+z)
        · have HE:=Lib.hid (show Am.total l 0=Am.total (l.drop (i+1)) (s+z) by
            rw[HT.out,HD.out]
            show(if Am.Good z then _ else _)=_
            rw[if_pos HG.out,if_pos hg2])
          obtain⟨hz2,hz3⟩:=id hg2
          have HG2:=Lib.hid hg2
          clear hg2
          go_wp2_with (first
            | (go_at_call 55;(with_reducible refine(agood_any z true ⟨fun _=>HG.out,fun _=>rfl⟩ _).mono ?_);rintro e w1 ⟨rfl,rfl⟩)
            | (go_at_call 55;(with_reducible refine(agood_any (s+z) true ⟨fun _=>HG2.out,fun _=>rfl⟩ _).mono ?_);rintro e w1 ⟨rfl,rfl⟩))
          go_round
          case rel=>exact⟨i+1,s+z,by omega,by go_num,rfl,hz2,hz3,HE⟩
          case measure=>(simp[intOf];try omega)
        · have HE:=Lib.hid (show Am.total l 0=(0,9) by
            rw[HT.out,HD.out]
            show(if Am.Good z then _ else _)=_
            rw[if_pos HG.out,if_neg hg2])
          have HG2:=Lib.hid hg2
          clear hg2
          go_wp2_with (first
            | (go_at_call 55;(with_reducible refine(agood_any z true ⟨fun _=>HG.out,fun _=>rfl⟩ _).mono ?_);rintro e w1 ⟨rfl,rfl⟩)
            | (go_at_call 55;(with_reducible refine(agood_any (s+z) false ⟨fun e=>absurd e Bool.false_ne_true,fun e=>absurd e HG2.out⟩ _).mono ?_);rintro e w1 ⟨rfl,rfl⟩))
          go_ret2
          exact⟨by rw[HE.out];rfl,rfl⟩
      · have HE:=Lib.hid (show Am.total l 0=(0,9) by
          rw[HT.out,HD.out]
          show(if Am.Good z then _ else _)=_
          rw[if_neg hg])
        have HG:=Lib.hid hg
        clear hg
        go_wp2_with (first
          | (go_at_call 55;(with_reducible refine(agood_any z false ⟨fun e=>absurd e Bool.false_ne_true,fun e=>absurd e HG.out⟩ _).mono ?_);rintro e w1 ⟨rfl,rfl⟩))
        go_ret2
        exact⟨by rw[HE.out];rfl,rfl⟩
    · have hii:¬ (i:Int)<(n:Int):=by omega
      have HE:=Lib.hid (show Am.total l 0=(s,0) by
        rw[HT.out,List.drop_of_length_le (by rw[HL.out];omega)]
        rfl)
      go_wp2
      go_ret2
      exact⟨by rw[HE.out];rfl,rfl⟩
end Go.Proofs.YtijemcfnlbapjaaGreatDoor
namespace Go.Proofs.YtijemcfnlbapjaaGreatDoor
open Go Go.RowKit Go.ChangeShapes Go.WideShapes
namespace Tx
def vals (l:List Co):List Int:=l.map (·.v)
theorem vals_len (l:List Co):(vals l).length=l.length:=by simp[vals]
end Tx
theorem nums_lit (w:World) (v:Int):Nums (w.alloc (.cells #[.int .i64 v] 3)) (some ⟨w.heap.size,0,none⟩) 1 [v]:=by
  refine⟨rfl,by unfold maxLen;omega,fun i hi=>⟨_,rfl,?_⟩⟩
  obtain rfl:i=0:=by omega
  exact(Has.fresh w _ _).cell_at rfl
set_option maxRecDepth 100000 in
set_option maxHeartbeats 8000000 in
theorem rout_any (a:Option Addr) (n q:Nat) (b:Option Addr) (m r:Nat) (t:Tx.T) (w:World) (ht:TxAt w a n q b m r t) (hm:m≤1000000) :
    Calls Tryz.prog 99 #[txv a n q b m r t.firm] w fun e w'=>e=.returned (.tuple #[.int .i64 (Am.total (Tx.vals t.co) 0).1,.int .i64 (Am.total (Tx.vals t.co) 0).2])∧Below w.heap.size w w':=by
  obtain⟨f,hf⟩:∃ f,f=t.firm:=⟨_,rfl⟩
  rw[← hf]
  clear hf
  obtain⟨W1,hW1⟩:∃ x,x=w.alloc (.cells #[.slice a n q,.slice b m r,.bool f] 34):=⟨_,rfl⟩
  have hBw:Below w.heap.size w W1:=by rw[hW1];exact(Below.refl _ w).alloc (Nat.le_refl _) _
  have hX:Has W1 w.heap.size 34 #[.slice a n q,.slice b m r,.bool f]:=by rw[hW1];exact Has.fresh w _ _
  have HCO:=Lib.hid (ht.co.below hBw)
  have hml:t.co.length=m:=ht.co.1
  have HML:=Lib.hid hml
  clear ht hml
  obtain⟨vl,hvl⟩:∃ l,l=Tx.vals t.co:=⟨_,rfl⟩
  have HVL:=Lib.hid (show ∀ i c,t.co[i]? = some c→vl.take (i+1)=vl.take i++[c.v] from fun i c hc=>by
    have h1:vl[i]? = some c.v:=by rw[hvl];simp[Tx.vals,hc]
    obtain⟨h2,h3⟩:=List.getElem?_eq_some_iff.1 h1
    rw[List.take_succ_eq_append_getElem h2,h3])
  have HVN:=Lib.hid (show vl.length=m by rw[hvl,Tx.vals_len,HML.out])
  rw[← hvl]
  have HW:=Lib.hid hW1
  clear hW1 hvl
  go_enter Tryz.func99,Tryz.ntmps99
  go_upto_region 1 with fail
  rw[← HW.out]
  obtain⟨g1,hg1⟩:∃ g,g=w.heap.size:=⟨_,rfl⟩
  have HG:=Lib.hid hg1
  rw[← hg1] at hX ⊢
  clear hg1
  go_wp2
  go_loopw [4,5] (fun lv iv wr=>∃ i:Nat,i≤m∧iv=.int .i64 i∧OwnN 3 W1.heap.size wr lv (vl.take i)∧Below W1.heap.size W1 wr) (fun _ iv _=>m-(intOf iv).toNat)
  case atStart=>exact⟨0,Nat.zero_le _,rfl,by rw[List.take_zero];exact OwnN.nil _ _ _,Below.refl _ _⟩
  case round=>
    obtain⟨i,hi,rfl,ho,hb⟩:=hrel
    have f1:wr.cell? ⟨g1,1,none⟩=some (.slice b m r):=(hX.under hb hX.lt).cell_at rfl
    have hsz:=hb.size
    by_cases hlt:i<m
    · have hii:(i:Int)<(m:Int):=by omega
      have hi0:(0:Int)≤(i:Int):=by omega
      obtain⟨c,hc⟩:=HCO.out.get hlt
      obtain⟨x,hax,_⟩:=HCO.out.2.2.2 i c hc
      subst hax
      have k0:wr.cell? (x.add (i*2))=some (.int .i64 c.v):=(HCO.out.below hb).field (R:=coRec) (j:=0) hc rfl
      have HC:=Lib.hid hc
      have HL:=Lib.hid (show(vl.take i).length≤i by rw[List.length_take];omega)
      clear hc
      go_wp2_with (first
        | (at_builtin;refine wpList_append_nums rfl (.tmp 13) (.tmp 20) 102 rfl 3 Tryz.underlying102 info_num W1.heap.size _ (vl.take i) rfl (ho.below ((Below.refl _ _).alloc (Nat.le_refl _) _)) (some ⟨wr.heap.size,0,none⟩) 1 1 [c.v] rfl (nums_lit wr c.v) (fun e=>by cases e) (by have:=HL.out;omega) (by simp;omega) ?_;intro va w2 ho2 hg2;rw[← HVL.out i c HC.out] at ho2;have hB2:=below_own_rown (hb.alloc hsz _) hg2 ho.lt))
      go_roundw
      case rel=>exact⟨i+1,by omega,by go_num,ho2,hB2⟩
      case measure=>(simp[intOf];try omega)
    · have hii:¬ (i:Int)<(m:Int):=by omega
      have hlen:(vl.take i).length=m:=by rw[List.length_take,HVN.out];omega
      have htk:vl.take i=vl:=List.take_of_length_le (by rw[HVN.out];omega)
      rw[htk] at ho hlen
      obtain⟨oa,oc,rfl,_,_,hnu⟩:=ho.shape hlen
      clear htk hlen
      go_wp2_with (first
        | (go_at_call 119;refine(atotal_any oa m oc vl _ hnu).mono ?_;rintro e wk ⟨rfl,rfl⟩))
      go_ret2
      exact⟨rfl,hBw.trans (hb.mono hBw.size)⟩
theorem point_at {w:World} {x:Addr} {n i:Nat} {L:List Tx.Sp} {s:Tx.Sp} (h:Recs spRec w (some x) n L) (hi:L[i]? = some s):(Instr.loadAt 58 (.pointer (some (x.add (i*35))))).run Tryz.prog w=.ok (.agg (ptCells s.h s.n).toArray) w:=by
  have hok:=h.okay hi
  have h1:=run_loadCells_list (P:=Tryz.prog) w (x.add (i*35)) (ptCells s.h s.n) (fun j v hj=>by
    rw[Addr.add_add]
    refine h.field (R:=spRec) hi ?_
    show(spCells s)[j]? = some v
    have e:spCells s=ptCells s.h s.n++[.string (strB s.key),.int .u64 (nb64 s.sl)]:=by unfold spCells ptCells;simp
    rw[e,List.getElem?_append_left (List.getElem?_eq_some_iff.1 hj).1]
    exact hj)
  rw[ptCells_len hok.1] at h1
  have hsz:(Tryz.prog.info? 58).map (·.size)=some 33:=by kernel_rfl
  cases hq:Tryz.prog.info? 58 with
  | none=>simp[hq] at hsz
  | some inf=>
    have hz:inf.size=33:=by simpa [hq] using hsz
    have hagg:(isAgg 58).run Tryz.prog w=.ok true w:=by
      unfold isAgg
      rw[Sem.run_bind,run_underlying Tryz.underlying58 w]
      rfl
    simp[Instr.loadAt,Instr.sureAddr,loadVar,Sem.run_bind,hagg,sizeOf,typeInfo,hq,hz,h1]
def Tx.badSp (s:Tx.Sp):Prop:=32<s.key.length∨s.n<0∨7<s.n
instance (s:Tx.Sp):Decidable (Tx.badSp s):=inferInstanceAs (Decidable (_∨_))
def Tx.Twice (l:List Tx.Sp):Prop:=∃ (i k:Nat) (s o:Tx.Sp),k<i∧l[i]? = some s∧l[k]? = some o∧(s.h=o.h∧s.n=o.n)
def Tx.twice:List Tx.Sp→Bool
  | []=>false
  | s :: l=>l.any (fun o=>decide (o.h=s.h∧o.n=s.n))||Tx.twice l
theorem Tx.twice_iff:∀ l:List Tx.Sp,Tx.twice l=true↔Tx.Twice l
  | []=>⟨(fun h=>by cases h),(fun⟨i,k,s,o,_,hi,_⟩=>by simp at hi)⟩
  | s :: l=>by
    unfold Tx.twice
    rw[Bool.or_eq_true,List.any_eq_true,Tx.twice_iff l]
    constructor
    · rintro(⟨o,ho,h⟩ | ⟨i,k,u,o,hk,hi,hk2,h⟩)
      · obtain⟨i,hi⟩:=List.mem_iff_getElem?.1 ho
        exact⟨i+1,0,o,s,by omega,by simpa using hi,rfl,by simpa using h⟩
      · exact⟨i+1,k+1,u,o,by omega,by simpa using hi,by simpa using hk2,h⟩
    · rintro ⟨i,k,u,o,hk,hi,hk2,h⟩
      cases i with
      | zero=>omega
      | succ i=>
        have hi':l[i]? = some u:=by simpa using hi
        cases k with
        | zero=>
          obtain rfl:s=o:=by simpa using hk2
          exact .inl ⟨u,List.mem_of_getElem? hi',by simpa using h⟩
        | succ k=>exact .inr ⟨i,k,u,o,by omega,hi',by simpa using hk2,h⟩
instance (l:List Tx.Sp):Decidable (Tx.Twice l):=decidable_of_iff _ (Tx.twice_iff l)
def Tx.Sized (t:Tx.T):Prop:=1≤t.sp.length∧t.sp.length≤8∧1≤t.co.length∧t.co.length≤8
instance (t:Tx.T):Decidable (Tx.Sized t):=inferInstanceAs (Decidable (_∧_))
def Tx.check (t:Tx.T):Int:=
  if Tx.Sized t then
    if ∀ s,s∈t.sp→¬ Tx.badSp s then
      if(Am.total (Tx.vals t.co) 0).2=0 then if Tx.Twice t.sp then 8 else 0
      else(Am.total (Tx.vals t.co) 0).2
    else 2
  else 2
set_option maxRecDepth 100000 in
set_option maxHeartbeats 8000000 in
theorem rcheck_any (a:Option Addr) (n q:Nat) (b:Option Addr) (m r:Nat) (t:Tx.T) (w:World) (ht:TxAt w a n q b m r t) :
    Calls Tryz.prog 81 #[txv a n q b m r t.firm] w fun e w'=>e=.returned (.int .i64 (Tx.check t))∧Below w.heap.size w w':=by
  obtain⟨f,hf⟩:∃ f,f=t.firm:=⟨_,rfl⟩
  rw[← hf]
  obtain⟨W1,hW1⟩:∃ x,x=w.alloc (.cells #[.slice a n q,.slice b m r,.bool f] 34):=⟨_,rfl⟩
  have hBw:Below w.heap.size w W1:=by rw[hW1];exact(Below.refl _ w).alloc (Nat.le_refl _) _
  have hX:Has W1 w.heap.size 34 #[.slice a n q,.slice b m r,.bool f]:=by rw[hW1];exact Has.fresh w _ _
  have HT:=Lib.hid (ht.below hBw)
  have HF:=Lib.hid hf
  have hnl:t.sp.length=n:=ht.sp.1
  have hml:t.co.length=m:=ht.co.1
  have hnm:n≤9223372036854775807:=ht.sp.2.1
  have hmm:m≤9223372036854775807:=ht.co.2.1
  clear ht
  have HW:=Lib.hid hW1
  clear hW1 hf
  obtain⟨z,hz⟩:∃ z,z=Tx.check t:=⟨_,rfl⟩
  rw[← hz]
  have f0:W1.cell? ⟨w.heap.size,0,none⟩=some (.slice a n q):=hX.cell_at rfl
  have f1:W1.cell? ⟨w.heap.size,1,none⟩=some (.slice b m r):=hX.cell_at rfl
  by_cases hA:Tx.Sized t
  · have hZ:z=if ∀ s,s∈t.sp→¬ Tx.badSp s then(if(Am.total (Tx.vals t.co) 0).2=0 then if Tx.Twice t.sp then 8 else 0 else(Am.total (Tx.vals t.co) 0).2) else 2:=by rw[hz,Tx.check,if_pos hA]
    obtain⟨h1,h2,h3,h4⟩:=hA
    rw[hnl] at h1 h2
    rw[hml] at h3 h4
    have HZ:=Lib.hid hZ
    have HL:=Lib.hid hnl
    clear hz hZ hnl hml
    have k1:¬ (n:Int)<1:=by omega
    have k2:¬ (8:Int)<(n:Int):=by omega
    have k3:¬ (m:Int)<1:=by omega
    have k4:¬ (8:Int)<(m:Int):=by omega
    go_enter Tryz.func81,Tryz.ntmps81
    go_upto_region 1 with fail
    rw[← HW.out]
    go_wp2
    go_loop [3] (fun iv=>∃ i:Nat,i≤n∧iv=.int .i64 i∧RowKit.Hid (∀ j s,j<i→t.sp[j]? = some s→¬ Tx.badSp s)) (fun iv=>n-(intOf iv).toNat)
    case atStart=>exact⟨0,Nat.zero_le _,rfl,Lib.hid (fun j s hj=>by omega)⟩
    case round=>
      obtain⟨i,hi,rfl,HB⟩:=hrel
      by_cases hlt:i<n
      · have hii:(i:Int)<(n:Int):=by omega
        have hi0:(0:Int)≤(i:Int):=by omega
        obtain⟨s,hs⟩:=HT.out.sp.get hlt
        obtain⟨x,hax,_⟩:=HT.out.sp.2.2.2 i s hs
        subst hax
        have hok:=HT.out.sp.okay hs
        have e33:(spCells s)[33]? = some (.string (strB s.key)):=by rw[show(33:Nat)=32+1 from rfl,spCells_at hok.1];rfl
        have e32:(spCells s)[32]? = some (.int .i64 s.n):=by rw[show(32:Nat)=32+0 from rfl,spCells_at hok.1];rfl
        have c33:W1.cell? ⟨(x.add (i*35)).block,(x.add (i*35)).off+33,none⟩=some (.string (strB s.key)):=HT.out.sp.fieldS (R:=spRec) (j:=32) hs e33
        have c32:W1.cell? ⟨(x.add (i*35)).block,(x.add (i*35)).off+32,none⟩=some (.int .i64 s.n):=HT.out.sp.fieldS (R:=spRec) (j:=31) hs e32
        have hsz:=strB_size s.key
        obtain⟨kl,hkl⟩:∃ m,m=s.key.length:=⟨_,rfl⟩
        rw[← hkl] at hsz
        obtain⟨sn,hsn⟩:∃ m,m=s.n:=⟨_,rfl⟩
        rw[← hsn] at c32
        have HS:=Lib.hid (And.intro hs (And.intro hkl hsn))
        clear hs hkl hsn hok e33 e32
        by_cases b1:(32:Int)<(kl:Int)
        · have HE:=Lib.hid (show z=2 by
            rw[HZ.out,if_neg]
            intro h
            exact h s (List.mem_of_getElem? HS.out.1) (.inl (by have:=HS.out.2.1;omega)))
          go_wp2
          go_ret
          exact⟨by rw[HE.out];rfl,hBw⟩
        · by_cases b2:sn<0
          · have HE:=Lib.hid (show z=2 by
              rw[HZ.out,if_neg]
              intro h
              exact h s (List.mem_of_getElem? HS.out.1) (.inr (.inl (by have:=HS.out.2.2;omega))))
            go_wp2
            go_ret
            exact⟨by rw[HE.out];rfl,hBw⟩
          · by_cases b3:7<sn
            · have HE:=Lib.hid (show z=2 by
                rw[HZ.out,if_neg]
                intro h
                exact h s (List.mem_of_getElem? HS.out.1) (.inr (.inr (by have:=HS.out.2.2;omega))))
              go_wp2
              go_ret
              exact⟨by rw[HE.out];rfl,hBw⟩
            · have HB2:=Lib.hid (show ∀ j s,j<i+1→t.sp[j]? = some s→¬ Tx.badSp s from fun j u hj hu=>by
                rcases Nat.lt_or_ge j i with h | h
                · exact HB.out j u h hu
                · have e2:j=i:=by omega
                  subst e2
                  rw[HS.out.1] at hu
                  injection hu with hu
                  subst hu
                  have e3:=HS.out.2.1
                  have e4:=HS.out.2.2
                  rintro(h | h | h)<;>omega)
              go_wp2
              go_round
              case rel=>exact⟨i+1,by omega,by go_num,HB2⟩
              case measure=>(simp[intOf];try omega)
      · have hii:¬ (i:Int)<(n:Int):=by omega
        have HG:=Lib.hid (show ∀ s,s∈t.sp→¬ Tx.badSp s from fun s hs=>by
          obtain⟨j,hj⟩:=List.mem_iff_getElem?.1 hs
          exact HB.out j s (by have h9:j<t.sp.length:=(List.getElem?_eq_some_iff.1 hj).1;rw[HL.out] at h9;omega) hj)
        have HZ2:=Lib.hid (show z=if(Am.total (Tx.vals t.co) 0).2=0 then if Tx.Twice t.sp then 8 else 0 else(Am.total (Tx.vals t.co) 0).2 by rw[HZ.out,if_pos HG.out])
        clear HB HG HZ
        obtain⟨sm,hsm⟩:∃ x,x=(Am.total (Tx.vals t.co) 0).1:=⟨_,rfl⟩
        obtain⟨er,her⟩:∃ x,x=(Am.total (Tx.vals t.co) 0).2:=⟨_,rfl⟩
        rw[← her] at HZ2
        have HS:=Lib.hid (And.intro hsm her)
        clear hsm her
        have lX:=hX.load_agg (P:=Tryz.prog) (t:=34) Tryz.underlying34 rfl (by kernel_rfl)
        by_cases he:er=0
        · subst he
          rw[if_pos rfl] at HZ2
          go_upto_region 11 with(first
            | (go_at_call 99;rw[HF.out];refine(rout_any a n q b m r t W1 HT.out (by omega)).mono ?_;rw[← HS.out.1,← HS.out.2];rintro e w2 ⟨rfl,hb2⟩)
            | (refine wpList_load_run rfl 34 (.tmp 1) rfl _ _ rfl lX ?_))
          clear lX
          have hX2:=hX.under hb2 hX.lt
          have hB2:=hBw.trans (hb2.mono hBw.size)
          replace HT:=Lib.hid (HT.out.below hb2)
          have hg:W1.heap.size≤w2.heap.size:=hb2.size
          have d0:w2.cell? ⟨w.heap.size,0,none⟩=some (.slice a n q):=hX2.cell_at rfl
          clear hX hb2 hBw f0 f1
          go_wp2
          go_loopw [6] (fun iv wr=>∃ i:Nat,i≤n∧iv=.int .i64 i∧RowKit.Hid (∀ (j k:Nat) (s o:Tx.Sp),j<i→k<j→t.sp[j]? = some s→t.sp[k]? = some o→¬ (s.h=o.h∧s.n=o.n))∧Below w2.heap.size w2 wr) (fun iv _=>n-(intOf iv).toNat)
          case atStart=>exact⟨0,Nat.zero_le _,rfl,Lib.hid (fun j k s o hj=>by omega),Below.refl _ _⟩
          case round=>
            obtain⟨i,hi,rfl,HB,hb⟩:=hrel
            have d1:wr.cell? ⟨w.heap.size,0,none⟩=some (.slice a n q):=(hX2.under hb hX2.lt).cell_at rfl
            by_cases hlt:i<n
            · have hii:(i:Int)<(n:Int):=by omega
              have hi0:(0:Int)≤(i:Int):=by omega
              obtain⟨s,hs⟩:=HT.out.sp.get hlt
              obtain⟨x,hax,_⟩:=HT.out.sp.2.2.2 i s hs
              subst hax
              have HSI:=Lib.hid (And.intro hs (HT.out.sp.okay hs))
              clear hs
              go_wp2
              go_loopw [7] (fun kv wr=>∃ k:Nat,k≤i∧kv=.int .i64 k∧RowKit.Hid (∀ (j:Nat) (o:Tx.Sp),j<k→t.sp[j]? = some o→¬ (s.h=o.h∧s.n=o.n))∧Below w2.heap.size w2 wr) (fun kv _=>i-(intOf kv).toNat)
              case atStart=>exact⟨0,Nat.zero_le _,rfl,Lib.hid (fun j o hj=>by omega),hb⟩
              case round=>
                obtain⟨k,hk,rfl,HK,hbk⟩:=hrel
                by_cases hlk:k<i
                · have hki:(k:Int)<(i:Int):=by omega
                  have hkn:(k:Int)<(n:Int):=by omega
                  have hk0:(0:Int)≤(k:Int):=by omega
                  obtain⟨o,ho⟩:=HT.out.sp.get (show k<n by omega)
                  have HOK:=Lib.hid (And.intro ho (HT.out.sp.okay ho))
                  clear ho
                  go_upto_region 17 with fail
                  obtain⟨ws,hws⟩:∃ x,x=wr.drew:=⟨_,rfl⟩
                  have hbs:Below wr.heap.size wr ws:=by rw[hws];exact(Below.refl _ _).drew
                  have hXs:=(hX2.under hbk hX2.lt).under hbs (hX2.under hbk hX2.lt).lt
                  have lS:=fun(wq:World) (hSw:Held ws wq)=>point_at (((HT.out.sp.below hbk).below hbs).below hSw) HSI.out.1
                  have lO:=fun(wq:World) (hSw:Held ws wq)=>point_at (((HT.out.sp.below hbk).below hbs).below hSw) HOK.out.1
                  have hbws:=hbk.trans (hbs.mono hbk.size)
                  refine wp_region_held_drew (S:=Held ws) (by kernel_rfl) (by rw[hws];exact Held.refl _) (fun hHeld=>?_)
                  rw[← hws] at hHeld ⊢
                  clear hws hbs
                  by_cases hso:s.h=o.h∧s.n=o.n
                  · have HEQ:=Lib.hid (show ∀ w,(binOp .eql 58 (.agg (ptCells s.h s.n).toArray) (.agg (ptCells o.h o.n).toArray)).run Tryz.prog w=.ok (.bool true) w from fun w=>(eql_point w s.h o.h s.n o.n HSI.out.2.1 HOK.out.2.1).trans (by rw[decide_eq_true hso]))
                    have HE:=Lib.hid (show z=8 by rw[HZ2.out,if_pos ⟨i,k,s,o,hlk,HSI.out.1,HOK.out.1,hso⟩])
                    clear hso
                    refine tka (v:=?_) 0 85 rfl rfl hHeld (Or.inl ⟨by rfl,?_⟩) rfl ?_
                    rotate_left
                    · intro wq hSw
                      go_simp
                      try with_reducible rfl
                    simp only[ts0,ts1]
                    refine tka (v:=?_) 1 86 rfl rfl hHeld (Or.inl ⟨by rfl,?_⟩) rfl ?_
                    rotate_left
                    · intro wq hSw
                      have hst:=(hXs.under hSw hXs.lt).cell_at (i:=0) rfl
                      go_simp
                      try with_reducible rfl
                    simp only[ts0,ts1]
                    refine tka (v:=?_) 2 87 rfl rfl hHeld (Or.inl ⟨by rfl,?_⟩) rfl ?_
                    rotate_left
                    · intro wq hSw
                      go_simp
                      try with_reducible rfl
                    simp only[ts0,ts1]
                    refine tka (v:=?_) 3 88 rfl rfl hHeld (Or.inl ⟨by rfl,?_⟩) rfl ?_
                    rotate_left
                    · intro wq hSw
                      go_simp
                      try with_reducible rfl
                    simp only[ts0,ts1]
                    refine tka (v:=?_) 4 89 rfl rfl hHeld (Or.inl ⟨by rfl,?_⟩) rfl ?_
                    rotate_left
                    · intro wq hSw
                      go_simp
                      try with_reducible rfl
                    simp only[ts0,ts1]
                    refine tka 5 90 rfl rfl hHeld (yieldsIf_load_agg (by rfl) 58 (.tmp 89) rfl _ _ (by rfl) (fun wq hSw=>lS wq hSw)) rfl ?_
                    simp only[ts0,ts1]
                    refine tka (v:=?_) 6 91 rfl rfl hHeld (Or.inl ⟨by rfl,?_⟩) rfl ?_
                    rotate_left
                    · intro wq hSw
                      go_simp
                      try with_reducible rfl
                    simp only[ts0,ts1]
                    refine tka (v:=?_) 7 92 rfl rfl hHeld (Or.inl ⟨by rfl,?_⟩) rfl ?_
                    rotate_left
                    · intro wq hSw
                      have hst:=(hXs.under hSw hXs.lt).cell_at (i:=0) rfl
                      go_simp
                      try with_reducible rfl
                    simp only[ts0,ts1]
                    refine tka (v:=?_) 8 93 rfl rfl hHeld (Or.inl ⟨by rfl,?_⟩) rfl ?_
                    rotate_left
                    · intro wq hSw
                      go_simp
                      try with_reducible rfl
                    simp only[ts0,ts1]
                    refine tka (v:=?_) 9 94 rfl rfl hHeld (Or.inl ⟨by rfl,?_⟩) rfl ?_
                    rotate_left
                    · intro wq hSw
                      go_simp
                      try with_reducible rfl
                    simp only[ts0,ts1]
                    refine tka (v:=?_) 10 95 rfl rfl hHeld (Or.inl ⟨by rfl,?_⟩) rfl ?_
                    rotate_left
                    · intro wq hSw
                      go_simp
                      try with_reducible rfl
                    simp only[ts0,ts1]
                    refine tka 11 96 rfl rfl hHeld (yieldsIf_load_agg (by rfl) 58 (.tmp 95) rfl _ _ (by rfl) (fun wq hSw=>lO wq hSw)) rfl ?_
                    simp only[ts0,ts1]
                    refine tka (v:=.bool true) 12 97 rfl rfl hHeld (yieldsIf_bin (by rfl) .eql 58 (.tmp 90) (.tmp 96) _ rfl (ptCells s.h s.n).toArray (ptCells o.h o.n).toArray (by rfl) (by rfl) (by kernel_rfl) _ HEQ.out) rfl ?_
                    simp only[ts0,ts1]
                    refine wpAnyH_done (by kernel_rfl) ?_ _
                    go_wp2
                    go_ret
                    exact⟨by rw[HE.out];rfl,hB2.trans (hbws.mono hB2.size)⟩
                  · have HEQ:=Lib.hid (show ∀ w,(binOp .eql 58 (.agg (ptCells s.h s.n).toArray) (.agg (ptCells o.h o.n).toArray)).run Tryz.prog w=.ok (.bool false) w from fun w=>(eql_point w s.h o.h s.n o.n HSI.out.2.1 HOK.out.2.1).trans (by rw[decide_eq_false hso]))
                    have HK2:=Lib.hid (show ∀ (j:Nat) (u:Tx.Sp),j<k+1→t.sp[j]? = some u→¬ (s.h=u.h∧s.n=u.n) from fun j u hj hu=>by
                      rcases Nat.lt_or_ge j k with h | h
                      · exact HK.out j u h hu
                      · have e2:j=k:=by omega
                        subst e2
                        rw[HOK.out.1] at hu
                        injection hu with hu
                        subst hu
                        exact hso)
                    clear hso
                    refine tka (v:=?_) 0 85 rfl rfl hHeld (Or.inl ⟨by rfl,?_⟩) rfl ?_
                    rotate_left
                    · intro wq hSw
                      go_simp
                      try with_reducible rfl
                    simp only[ts0,ts1]
                    refine tka (v:=?_) 1 86 rfl rfl hHeld (Or.inl ⟨by rfl,?_⟩) rfl ?_
                    rotate_left
                    · intro wq hSw
                      have hst:=(hXs.under hSw hXs.lt).cell_at (i:=0) rfl
                      go_simp
                      try with_reducible rfl
                    simp only[ts0,ts1]
                    refine tka (v:=?_) 2 87 rfl rfl hHeld (Or.inl ⟨by rfl,?_⟩) rfl ?_
                    rotate_left
                    · intro wq hSw
                      go_simp
                      try with_reducible rfl
                    simp only[ts0,ts1]
                    refine tka (v:=?_) 3 88 rfl rfl hHeld (Or.inl ⟨by rfl,?_⟩) rfl ?_
                    rotate_left
                    · intro wq hSw
                      go_simp
                      try with_reducible rfl
                    simp only[ts0,ts1]
                    refine tka (v:=?_) 4 89 rfl rfl hHeld (Or.inl ⟨by rfl,?_⟩) rfl ?_
                    rotate_left
                    · intro wq hSw
                      go_simp
                      try with_reducible rfl
                    simp only[ts0,ts1]
                    refine tka 5 90 rfl rfl hHeld (yieldsIf_load_agg (by rfl) 58 (.tmp 89) rfl _ _ (by rfl) (fun wq hSw=>lS wq hSw)) rfl ?_
                    simp only[ts0,ts1]
                    refine tka (v:=?_) 6 91 rfl rfl hHeld (Or.inl ⟨by rfl,?_⟩) rfl ?_
                    rotate_left
                    · intro wq hSw
                      go_simp
                      try with_reducible rfl
                    simp only[ts0,ts1]
                    refine tka (v:=?_) 7 92 rfl rfl hHeld (Or.inl ⟨by rfl,?_⟩) rfl ?_
                    rotate_left
                    · intro wq hSw
                      have hst:=(hXs.under hSw hXs.lt).cell_at (i:=0) rfl
                      go_simp
                      try with_reducible rfl
                    simp only[ts0,ts1]
                    refine tka (v:=?_) 8 93 rfl rfl hHeld (Or.inl ⟨by rfl,?_⟩) rfl ?_
                    rotate_left
                    · intro wq hSw
                      go_simp
                      try with_reducible rfl
                    simp only[ts0,ts1]
                    refine tka (v:=?_) 9 94 rfl rfl hHeld (Or.inl ⟨by rfl,?_⟩) rfl ?_
                    rotate_left
                    · intro wq hSw
                      go_simp
                      try with_reducible rfl
                    simp only[ts0,ts1]
                    refine tka (v:=?_) 10 95 rfl rfl hHeld (Or.inl ⟨by rfl,?_⟩) rfl ?_
                    rotate_left
                    · intro wq hSw
                      go_simp
                      try with_reducible rfl
                    simp only[ts0,ts1]
                    refine tka 11 96 rfl rfl hHeld (yieldsIf_load_agg (by rfl) 58 (.tmp 95) rfl _ _ (by rfl) (fun wq hSw=>lO wq hSw)) rfl ?_
                    simp only[ts0,ts1]
                    refine tka (v:=.bool false) 12 97 rfl rfl hHeld (yieldsIf_bin (by rfl) .eql 58 (.tmp 90) (.tmp 96) _ rfl (ptCells s.h s.n).toArray (ptCells o.h o.n).toArray (by rfl) (by rfl) (by kernel_rfl) _ HEQ.out) rfl ?_
                    simp only[ts0,ts1]
                    refine wpAnyH_done (by kernel_rfl) ?_ _
                    go_wp2
                    go_roundw
                    case rel=>exact⟨k+1,by omega,by go_num,HK2,hbws⟩
                    case measure=>(simp[intOf];try omega)
                · have hki:¬ (k:Int)<(i:Int):=by omega
                  have hke:k=i:=by omega
                  have HB2:=Lib.hid (show ∀ (j k:Nat) (s o:Tx.Sp),j<i+1→k<j→t.sp[j]? = some s→t.sp[k]? = some o→¬ (s.h=o.h∧s.n=o.n) from fun j k' u o hj hkj hu ho=>by
                    rcases Nat.lt_or_ge j i with h | h
                    · exact HB.out j k' u o h hkj hu ho
                    · have e2:j=i:=by omega
                      subst e2
                      rw[HSI.out.1] at hu
                      injection hu with hu
                      subst hu
                      exact HK.out k' o (by omega) ho)
                  clear hke
                  go_wp2
                  go_roundw
                  case rel=>exact⟨i+1,by omega,by go_num,HB2,hbk⟩
                  case measure=>(simp[intOf];try omega)
            · have hii:¬ (i:Int)<(n:Int):=by omega
              have HE:=Lib.hid (show z=0 by
                rw[HZ2.out,if_neg]
                rintro ⟨j,k,s,o,hkj,hj,hk,h⟩
                exact HB.out j k s o (by have h9:j<t.sp.length:=(List.getElem?_eq_some_iff.1 hj).1;rw[HL.out] at h9;omega) hkj hj hk h)
              go_wp2
              go_ret
              exact⟨by rw[HE.out];rfl,hB2.trans (hb.mono hB2.size)⟩
        · have HE:=Lib.hid (show z=er by rw[HZ2.out,if_neg he])
          have he2:(er != 0)=true:=by simpa using he
          clear he
          go_wp2_with (first
            | (go_at_call 99;rw[HF.out];refine(rout_any a n q b m r t W1 HT.out (by omega)).mono ?_;rw[← HS.out.1,← HS.out.2];rintro e w2 ⟨rfl,hb2⟩)
            | (refine wpList_load_run rfl 34 (.tmp 1) rfl _ _ rfl lX ?_))
          go_ret
          exact⟨by rw[HE.out];rfl,hBw.trans (hb2.mono hBw.size)⟩
  · have HE:=Lib.hid (show z=2 by rw[hz,Tx.check,if_neg hA])
    have hA2:¬ (1≤n∧n≤8∧1≤m∧m≤8):=by rw[← hnl,← hml];exact hA
    clear hA hz hnl hml
    by_cases k1:(n:Int)<1
    · go_enter Tryz.func81,Tryz.ntmps81
      go_upto_region 1 with fail
      rw[← HW.out]
      go_wp2
      go_ret
      exact⟨by rw[HE.out];rfl,hBw⟩
    · by_cases k2:(8:Int)<(n:Int)
      · go_enter Tryz.func81,Tryz.ntmps81
        go_upto_region 1 with fail
        rw[← HW.out]
        go_wp2
        go_ret
        exact⟨by rw[HE.out];rfl,hBw⟩
      · by_cases k3:(m:Int)<1
        · go_enter Tryz.func81,Tryz.ntmps81
          go_upto_region 1 with fail
          rw[← HW.out]
          go_wp2
          go_ret
          exact⟨by rw[HE.out];rfl,hBw⟩
        · have k4:(8:Int)<(m:Int):=by omega
          go_enter Tryz.func81,Tryz.ntmps81
          go_upto_region 1 with fail
          rw[← HW.out]
          go_wp2
          go_ret
          exact⟨by rw[HE.out];rfl,hBw⟩
end Go.Proofs.YtijemcfnlbapjaaGreatDoor
namespace Go.Proofs.YtijemcfnlbapjaaGreatDoor
open Go Go.RowKit
abbrev erro (z:Int):Value:=.iface 79 (.int .i64 z)
def errn (z:Int):Value:=if z=0 then .nilIface else erro z
theorem num_nil (w:World):Calls Tryz.prog 25 #[.nilIface] w fun e w'=>e=.returned (.int .i64 0)∧w=w':=by
  go_enter Tryz.func25,Tryz.ntmps25
  go_wp2
  go_ret
  exact⟨rfl,rfl⟩
theorem num_err (z:Int) (hz:(z != 0)=true) (w:World):Calls Tryz.prog 25 #[erro z] w fun e w'=>e=.returned (.int .i64 z)∧w=w':=by
  have hta:∀ w:World,(Instr.typeAssert (.iface 79 (.int .i64 z)) 39 79 true).run Tryz.prog w=.ok (.tuple #[.int .i64 z,.bool true]) w:=fun w=>by kernel_rfl
  go_enter Tryz.func25,Tryz.ntmps25
  go_wp2
  go_ret
  exact⟨rfl,rfl⟩
theorem num_any (z:Int) (w:World):Calls Tryz.prog 25 #[errn z] w fun e w'=>e=.returned (.int .i64 z)∧w=w':=by
  unfold errn
  split
  · rename_i h
    subst h
    exact num_nil w
  · rename_i h
    exact num_err z (by simp[h]) w
theorem is_erro (z:Int) (hz:(z != 0)=true) (w:World):Calls Tryz.prog 36 #[erro z,.int .i64 z] w fun e w'=>e=.returned (.bool true)∧w=w':=by
  go_enter Tryz.func36,Tryz.ntmps36
  go_wp2_with (first | (go_at_call 25;refine(num_err z hz _).mono ?_;rintro e w1 ⟨rfl,rfl⟩))
  go_ret
  exact⟨rfl,rfl⟩
end Go.Proofs.YtijemcfnlbapjaaGreatDoor
namespace Go.Proofs.YtijemcfnlbapjaaGreatDoor
open Go Go.RowKit Go.ChangeShapes Go.WideShapes
def Am.Fees (a b:Int):Prop:=Am.Good a∧Am.Good b∧b≤a
instance (a b:Int):Decidable (Am.Fees a b):=inferInstanceAs (Decidable (_∧_))
end Go.Proofs.YtijemcfnlbapjaaGreatDoor
