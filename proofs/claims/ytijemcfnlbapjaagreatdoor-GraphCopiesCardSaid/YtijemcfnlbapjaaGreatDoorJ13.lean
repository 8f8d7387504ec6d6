/- package digest: padding · Slices of slices of bytes. Nothing of the program but its types. · A range over a function whose body is told what the iterator has just read. Nothing of the program. · A region that draws its order, within a round of a range over a function: its head only reads, its tail is forced. Nothing of the program. · A range over a function that writes blocks of its own; its body is never left early. Nothing of the program. · package digest: the parts and the padding, one after the other -/
import Derived.Test.YtijemcfnlbapjaaGreatDoorJ12
import Derived.Test.YtijemcfnlbapjaaGreatDoorJ01
import Derived.Test.YtijemcfnlbapjaaGreatDoorRows
import Derived.Test.YtijemcfnlbapjaaGreatDoorJ02
import Derived.Deep.Slices
import Derived.RangeFuncNested
import Derived.RangeFuncBound
import Derived.RangeFuncCalls
import Derived.RangeFuncLeaves
import Derived.StillTailTactics
import Derived.OrdersIn
import Derived.TacticsIn
import Derived.Deep.MidRow
import Derived.Shelf.Abstract
import Derived.Shelf.RegionOpen
import Derived.WalkKit
import Derived.OwnWalkIn
import Derived.TacticsInMore
import Derived.LoopNIn
import Derived.LoopIn
namespace Go.Proofs.YtijemcfnlbapjaaGreatDoor
open Go Go.RowKit Go.ChangeShapes Go.WideShapes
theorem bytes_has {w:World} {g m:Nat} {T:TypeId} {l:List (BitVec 8)} (h:Has w g T (blist l).toArray) (hl:l.length=m) (hm:m≤1000000):Bytes8 w (some ⟨g,0,none⟩) m l:=
  ⟨hl,by unfold maxLen;omega,fun i hi=>⟨_,rfl,by
    rw[Addr.add_mid,Nat.zero_add]
    exact h.cell_at (by rw[List.getElem?_toArray];exact blist_at l i (by omega))⟩⟩
def Dg.pd (n:Nat):List (BitVec 8):=[128#8]++List.replicate (Dg.zs n) 0#8++(List.range 8).map (Dg.be (n*8))
theorem Dg.pad_pd (l:List (BitVec 8)):Dg.pad l=l++Dg.pd l.length:=by unfold Dg.pad Dg.pd;simp
theorem Dg.pd_len (n:Nat):(Dg.pd n).length=1+Dg.zs n+8:=by simp[Dg.pd];omega
def Dg.pdF (Y:BitVec 64) (M e j:Nat):BitVec 8:=if j=0 then 128#8 else if M-e≤j then(Y>>>(8*(M-1 - j))).setWidth 8 else 0
theorem pdF_zero (Y:BitVec 64) (M:Nat) (hM:0<M):(bcells M fun _=>0).setIfInBounds 0 (.int .u8 128)=bcells M (Dg.pdF Y M 0):=
  cellsOf_put _ _ 0 _ (by rfl) (fun j hj h0=>by
    unfold Dg.pdF
    rw[if_neg h0,if_neg (by omega)])
theorem pdF_step (Y:BitVec 64) (M e i:Nat) (he:e+1<M) (hi:i=M-1 - e) (x:BitVec 64) (hx:x=Y>>>(8*e)):(bcells M (Dg.pdF Y M e)).setIfInBounds i (.int .u8 (nb8 (x.setWidth 8)))=bcells M (Dg.pdF Y M (e+1)):=
  cellsOf_put _ _ i _ (by
    unfold Dg.pdF
    rw[if_neg (by omega),if_pos (by omega),hx,show M-1 - i=e by omega]) (fun j hj h0=>by
    unfold Dg.pdF
    by_cases h1:j=0
    · rw[if_pos h1,if_pos h1]
    · rw[if_neg h1,if_neg h1]
      by_cases h2:M-e≤j
      · rw[if_pos h2,if_pos (by omega)]
      · rw[if_neg h2,if_neg (by omega)])
theorem shr_shr (Y:BitVec 64) (a b:Nat):(Y>>>a)>>>b=Y>>>(a+b):=(BitVec.shiftRight_add Y a b).symm
theorem pdF_end (n e:Nat) (he:e≤8) (h0:BitVec.ofNat 64 (n*8)>>>(8*e)=0#64):bcells (1+Dg.zs n+8) (Dg.pdF (BitVec.ofNat 64 (n*8)) (1+Dg.zs n+8) e)=(blist (Dg.pd n)).toArray:=by
  obtain⟨z,hz⟩:∃ z,z=Dg.zs n:=⟨_,rfl⟩
  apply Array.ext'
  apply List.ext_getElem?
  intro j
  rw[Array.getElem?_toList]
  by_cases h:j<1+Dg.zs n+8
  · rw[bcells_at _ h,blist_at _ j (by rw[Dg.pd_len];exact h)]
    congr 3
    unfold cb Dg.pd Dg.pdF
    rw[← hz] at h ⊢
    rw[List.getD_eq_getElem?_getD]
    by_cases h1:j=0
    · subst h1;rfl
    · rw[if_neg h1]
      by_cases h2:j<1+z
      · rw[if_neg (by omega),List.getElem?_append_left (by simp;omega),List.getElem?_append_right (by simp;omega),List.getElem?_replicate,if_pos (by simp;omega)]
        rfl
      · rw[List.getElem?_append_right (by simp;omega)]
        obtain⟨k,hk⟩:∃ k,k=j-(1+z):=⟨_,rfl⟩
        rw[show j-([128#8]++List.replicate z 0#8).length=k by simp;omega,List.getElem?_map,List.getElem?_range (by omega)]
        show _=Dg.be (n*8) k
        unfold Dg.be
        rw[show 1+z+8-1 - j=7-k by omega,show 56-8*k=8*(7-k) by omega]
        by_cases h3:1+z+8-e≤j
        · rw[if_pos h3]
        · rw[if_neg h3,show 8*(7-k)=8*e+(8*(7-k)-8*e) by omega,← shr_shr,h0]
          simp
  · rw[Array.getElem?_eq_none (by simp[bcells,cellsOf_size];omega),List.getElem?_eq_none (by rw[blist_length,Dg.pd_len];omega)]
theorem make_bytes_u64 (n:Nat) (hn:n≤1099511627776) (w:World) :
    (Instr.makeSlice 130 (.int .u64 (n:Int)) (.int .u64 (n:Int))).run Tryz.prog w=.ok (.slice (some ⟨w.heap.size,0,none⟩) n n) (w.alloc (.cells (bcells n fun _=>0) 5)):=by
  rw[run_make_row' 130 5 _ 1 Tryz.underlying130 info_byte rfl .u64 .u64 n (by omega) (by omega) w]
  have:madeCells #[.int .u8 0] n=bcells n fun _=>0:=by
    apply Array.ext_getElem?
    intro j
    rw[← Array.getElem?_toList,toList_madeCells_one,List.getElem?_replicate]
    rcases Nat.lt_or_ge j n with h | h
    · rw[if_pos h,bcells_at _ h];rfl
    · rw[if_neg (by omega),Array.getElem?_eq_none (by unfold bcells;rw[cellsOf_size];exact h)]
  rw[this]
set_option maxRecDepth 100000 in
set_option maxHeartbeats 4000000 in
theorem padding_any (n:Nat) (hn:n≤1000000) (x:BitVec 64) (hx:x=BitVec.ofNat 64 n) (w:World) :
    Calls Tryz.prog 148 #[.int .u64 (nb64 x)] w fun e w'=>
      e=.returned (.slice (some ⟨w.heap.size,0,none⟩) (1+Dg.zs n+8) (1+Dg.zs n+8))∧Has w' w.heap.size 5 (blist (Dg.pd n)).toArray∧Below w.heap.size w w':=by
  obtain⟨z,hz⟩:∃ z,z=Dg.zs n:=⟨_,rfl⟩
  rw[← hz]
  have hz64:z<64:=by rw[hz];exact Nat.mod_lt _ (by omega)
  have hxn:nb64 x=(n:Int):=by rw[hx];simp only[nb64,BitVec.toNat_ofNat];omega
  obtain⟨Y,hY⟩:∃ Y,Y=BitVec.ofNat 64 (n*8):=⟨_,rfl⟩
  have h3:(IntKind.u64.wrap (-IntKind.u64.wrap (IntKind.u64.wrap ((n:Int)+1)+8))).tmod 64=(z:Int):=by
    obtain⟨q,hq⟩:∃ q:Nat,q=18446744073709551616-(n+9):=⟨_,rfl⟩
    have e1:IntKind.u64.wrap (-IntKind.u64.wrap (IntKind.u64.wrap ((n:Int)+1)+8))=(q:Int):=by rw[IntKind.wrap_u64,IntKind.wrap_u64,IntKind.wrap_u64];omega
    rw[e1,hz];unfold Dg.zs
    rw[show(q:Int).tmod 64=((q%64:Nat):Int) from rfl,hq]
    omega
  obtain⟨p,hp⟩:∃ p:Nat,p=1+z:=⟨_,rfl⟩
  have h5:IntKind.u64.wrap (1+(z:Int))=(p:Int):=by rw[IntKind.wrap_u64];omega
  obtain⟨M,hM⟩:∃ M:Nat,M=1+z+8:=⟨_,rfl⟩
  rw[← hM]
  have h6:IntKind.u64.wrap ((p:Int)+8)=(M:Int):=by rw[IntKind.wrap_u64];omega
  have h7:IntKind.u64.wrap ((n:Int)*8)=nb64 Y:=by rw[IntKind.wrap_u64,hY];simp only[nb64,BitVec.toNat_ofNat];omega
  have h8:IntKind.i64.wrap ((M:Int)-1)=((M-1:Nat):Int):=by rw[IntWalk.i64_in _ (by omega)];omega
  have hmk:=make_bytes_u64 M (by omega) w
  have hM0:(0:Int)<(M:Int):=by omega
  have HN:=Lib.hid (And.intro hz (And.intro hY (And.intro hn (And.intro hM hz64))))
  rw[hxn]
  have H3:=Lib.hid h3
  clear hz hY hn hp hx hxn hz64 hM h3
  go_enter Tryz.func148,Tryz.ntmps148
  go_upto_region 2 with fail
  rw[H3.out]
  go_upto_region 3 with fail
  have hP0:=Has.fresh w 5 (bcells M fun _=>0)
  have cP:=hP0.cell_at (bcells_at (fun _=>(0:BitVec 8)) (show 0<M by have:=HN.out;omega))
  have fP:=hP0.loose 0
  have hB0:Below w.heap.size w (w.alloc (.cells (bcells M fun _=>0) 5)):=(Below.refl _ _).alloc (Nat.le_refl _) _
  generalize w.alloc (.cells (bcells M fun _=>0) 5)=w0 at hP0 cP fP hB0 ⊢
  go_upto_region 4 with fail
  have hP:=hP0.put 0 (.int .u8 128)
  rw[pdF_zero Y M (by have:=HN.out;omega)] at hP
  have hB:=hB0.setCell (p:=⟨w.heap.size,0,none⟩) (Nat.le_refl _) (.int .u8 128)
  generalize w0.setCell ⟨w.heap.size,0,none⟩ (.int .u8 128)=wB at hP hB ⊢
  clear hmk hP0 cP fP hB0 h5 h6
  go_wp2_with fail
  go_loopw [5,6] (fun xv iv wr=>∃ e:Nat,e≤8∧iv=.int .i64 ((M:Int)-1 - e)∧xv=.int .u64 (nb64 (Y>>>(8*e)))∧Has wr w.heap.size 5 (bcells M (Dg.pdF Y M e))∧Below w.heap.size w wr) (fun _ iv _=>(intOf iv).toNat)
  case atStart=>exact⟨0,Nat.zero_le _,by go_num,by simp,hP,hB⟩
  case round=>
    clear hP hB
    obtain⟨e,he,rfl,rfl,hP,hB⟩:=hrel
    obtain⟨X,hX⟩:∃ X,X=Y>>>(8*e):=⟨_,rfl⟩
    rw[← hX]
    obtain⟨i,hi⟩:∃ i:Nat,i=M-1 - e:=⟨_,rfl⟩
    have hMn:9≤M:=by have:=HN.out;omega
    have hii:(M:Int)-1 - e=(i:Int):=by omega
    rw[hii]
    by_cases h0:X=0#64
    · have h0':¬ (X≠0#64):=by simpa using h0
      have HE:=Lib.hid (show bcells M (Dg.pdF Y M e)=(blist (Dg.pd n)).toArray by
        rw[HN.out.2.2.2.1,HN.out.1,HN.out.2.1]
        exact pdF_end n e he (by rw[← HN.out.2.1,← hX];exact h0))
      rw[HE.out] at hP
      clear hX hi hii h0
      go_wp2_with fail
      go_ret
      exact⟨rfl,hP,hB⟩
    · have he8:e<8:=by
        rcases Nat.lt_or_ge e 8 with h | h
        · exact h
        · exfalso
          apply h0
          rw[hX,show e=8 by omega]
          exact BitVec.ushiftRight_eq_zero (by omega)
      have hi0:(0:Int)≤(i:Int):=by omega
      have hiM:(i:Int)<(M:Int):=by omega
      have hiw:IntKind.i64.wrap ((i:Int)-1)=(i:Int)-1:=IntWalk.i64_in _ (by have:=HN.out;omega)
      have cP:=hP.cell_at (bcells_at (Dg.pdF Y M e) (show i<M by omega))
      have fP:=hP.loose i
      have HX:=Lib.hid (And.intro hX (And.intro hi (show X>>>8=Y>>>(8*(e+1)) by rw[hX,shr_shr];rfl)))
      clear hX hi
      have h0n:X≠0#64:=h0
      go_wp2_with fail
      have hP2:=hP.put i (.int .u8 (nb8 (X.setWidth 8)))
      rw[pdF_step Y M e i (by omega) HX.out.2.1 X HX.out.1] at hP2
      have hB2:=hB.setCell (p:=⟨w.heap.size,i,none⟩) (Nat.le_refl _) (.int .u8 (nb8 (X.setWidth 8)))
      go_roundw
      case rel=>exact⟨e+1,by omega,by have:=HX.out.2.1;go_num,by rw[HX.out.2.2],hP2,hB2⟩
      case measure=>(simp[intOf];try omega)
end Go.Proofs.YtijemcfnlbapjaaGreatDoor
namespace Go.Proofs.YtijemcfnlbapjaaGreatDoor
open Go Go.RowKit Go.ChangeShapes Go.WideShapes
def Parts (w:World) (a:Option Addr) (n:Nat) (LL:List (List (BitVec 8))):Prop:=
  LL.length=n∧n≤maxLen∧∀ i,i<n→∃ x ad m c,a=some x∧w.cell? (x.add i)=some (.slice ad m c)∧Bytes8 w ad m (LL.getD i [])∧m≤c∧(ad=none→c=0)
theorem Parts.keep {w w':World} {a:Option Addr} {n:Nat} {LL:List (List (BitVec 8))} (h:Parts w a n LL) (hk:∀ p:Addr,(w.cell? p).isSome=true→w'.cell? p=w.cell? p):Parts w' a n LL:=by
  refine⟨h.1,h.2.1,fun i hi=>?_⟩
  obtain⟨x,ad,m,c,rfl,hx,hb,h1,h2⟩:=h.2.2 i hi
  exact⟨x,ad,m,c,rfl,by rw[hk _ (by rw[hx];rfl)];exact hx,hb.keep hk,h1,h2⟩
theorem Parts.below {w w':World} {a:Option Addr} {n:Nat} {LL:List (List (BitVec 8))} (h:Parts w a n LL) (hb:Below w.heap.size w w'):Parts w' a n LL:=h.keep fun _ hp=>hb.cell (isSome_lt hp)
theorem parts_one {w:World} {ad:Option Addr} {m c:Nat} {l:List (BitVec 8)} (T:TypeId) (h:Bytes8 w ad m l) (hc:m≤c) (h0:ad=none→c=0):Parts (w.alloc (.cells #[.slice ad m c] T)) (some ⟨w.heap.size,0,none⟩) 1 [l]:=
  ⟨rfl,by unfold maxLen;omega,fun i hi=>by
    obtain rfl:i=0:=by omega
    exact⟨_,ad,m,c,rfl,by rw[Addr.add_mid,Nat.zero_add,(Has.fresh w T _).cell];rfl,h.past _,hc,h0⟩⟩
section
variable {H:Type} {enc:TypeId×Value→H} {P:Program} {W:World} {base:Nat} {v:Value} {d:DataW H} {p:List MemPlace}
end
end Go.Proofs.YtijemcfnlbapjaaGreatDoor
namespace Go.Proofs.YtijemcfnlbapjaaGreatDoor
open Go Go.RowKit
section
variable {F:Fence} {n:Nat} {P:Program}
end
theorem Has.kept {W W':World} {row:Option Nat} {g:Nat} {t:TypeId} {cs:Array Value} (h:Has W g t cs) (hg:W.grownBy W' row) (hr:∀ r,row=some r→∃ o:Obj,W.heap[r]? = some o∧o.isCells=false):Has W' g t cs:=
  (grownBy_keeps_cells hg hr h rfl).trans h
theorem below_putObj {B l:Nat} {a w:World} (hb:Below B a w) (hB:B≤w.heap.size) (hl:B≤l) (o:Obj):Below B a (w.putObj l o):=
  hb.grown (grownBy_putObj' w l o) hB (fun k e=>by cases e;exact hl)
end Go.Proofs.YtijemcfnlbapjaaGreatDoor
namespace Go.Proofs.YtijemcfnlbapjaaGreatDoor
open Go Go.RowKit
section
variable {P:Program} {lp n:Nat} {ops:Array Oper} {Q:Exit→Act→World→Prop} {a:Act} {w:World}
theorem operIn_round {o:Oper} {K K':Act→World→Prop} (hnd:∀ c,o.op≠.defer c) (hK:∀ a w,K a w→K' a w) (h:o.wp P a w K Q):o.wpIn (Fence.wide.inRound lp) n P a w K' Q:=by
  refine⟨fun _ _=>trivial,?_⟩
  rw[Fence.inRound_round,Oper.semAt_some _ _ _ hnd]
  unfold Oper.wp at h
  generalize (execOp a.eval o).run P w=r at h ⊢
  unfold Oper.upon at h
  unfold Oper.uponIn
  split at h
  · exact hK _ _ h
  · exact hK _ _ h
  · exact hK _ _ h
  · refine⟨fun hd=>by simp[Fence.inRound,Fence.wide] at hd,CallsIn.inRound lp (callsIn_wide.2 (h.mono fun e w2 h2=>?_))⟩
    cases e
    · exact hK _ _ h2
    · exact h2
    · exact h2
  · refine⟨fun hd=>by simp[Fence.inRound,Fence.wide] at hd,fun c cs _=>?_⟩
    obtain⟨v,w2,h1,h2⟩:=h c cs
    exact⟨v,w2,hK _ _ h1,stepsIn_wide.2 h2⟩
  · exact h
  · exact h.elim
theorem opIn_round (hlo:¬ LetsOut Q) {i:Nat} {K K':Act→World→Prop} (hnd:∀ o,ops[i]? = some o→∀ c,o.op≠.defer c) (hK:∀ a w,K a w→K' a w) (h:wpOp P ops Q i K a w):wpOpIn (Fence.wide.inRound lp) n P ops Q i K' a w:=by
  unfold wpOp at h
  unfold wpOpIn
  cases ho:ops[i]? with
  | none=>rw[ho] at h;exact hK _ _ h
  | some o=>
    rw[ho] at h
    by_cases hw:Region.wanted o (yielded ops a.tmps)=true
    · simp only[hw,if_true] at h ⊢
      exact operIn_round (hnd o ho) hK (h.resolve_right fun h2=>hlo h2.2)
    · simp only[hw] at h ⊢
      exact⟨fun _ _=>trivial,hK _ _ h⟩
theorem anyIn_round (hlo:¬ LetsOut Q) {md:Region.Mode} (hnd:∀ (i:Nat) (o:Oper),ops[i]? = some o→∀ c,o.op≠.defer c):∀ (fuel:Nat) (listed:Array Bool) (a:Act) (w:World),wpAny P md ops Q fuel listed a w→wpAnyIn (Fence.wide.inRound lp) n P md ops Q fuel listed a w
  | 0,_,_,_,h=>h
  | fuel+1,_,_,_,h=>⟨h.1,fun i hi=>opIn_round hlo (hnd i) (fun a w=>anyIn_round hlo hnd fuel _ a w) (h.2 i hi)⟩
end
theorem wpIn_round_still_tail {P:Program} {lp n id:Nat} {Q:Exit→Act→World→Prop} {a:Act} {w:World} {l:List Oper} (m:Nat) (hm:P.follows .mixedOrders=true) (hB:Region.lexTailB .any l.toArray m=true)
    (hnd:∀ o∈l,∀ c,o.op≠.defer c) (hlo:¬ LetsOut Q)
    (h:wpStill P l.toArray { w with drawn:=w.drawn+1 } (fun a'=>wpList P l.toArray Q (l.drop m) a' { w with drawn:=w.drawn+1 }) (l.take m) a):(Code.region id l.toArray true).wpIn (Fence.wide.inRound lp) n P Q a w:=by
  simp only[Region.lexTailB,Bool.and_eq_true,decide_eq_true_eq] at hB
  obtain⟨⟨⟨⟨hsel,hn⟩,hs⟩,hc⟩,hlex⟩:=hB
  have hn':m<l.length:=by simpa using hn
  have htl:(l.take m).length=m:=by simp;omega
  have hdl:(l.drop m).length=l.toArray.size-m:=by simp
  have inv0:HeadInv .any l.toArray m (Array.replicate l.toArray.size false):=
    ⟨by simp,fun j oj _ hl=>(by rw[getD_replicate_false] at hl;cases hl),fun t _ ht=>getD_in (by simpa using ht) (getD_replicate_false _ _)⟩
  have H:=wpAnyL_lex (md:=.any) (g:=l.toArray.size-m) hsel hs hc hn (l.take m) 0 _ a (fun j hj=>by
    have hj':j<m:=by rw[htl] at hj;exact hj
    simp[hj']) (by simpa using htl) inv0 (by rw[htl];exact hlex) h
  refine wpIn_region_any hm (anyIn_round hlo (fun i o ho=>hnd o (by
    rw[List.getElem?_toArray] at ho
    exact List.mem_of_getElem? ho)) _ _ _ _ ?_)
  have h2:=wpAny_of_head (Q':=Q) (g:=l.toArray.size-m) (fun listed a' hL=>by
    have:=wpAny_of_seq (md:=.any) (Q':=Q) (l.drop m) m listed a' { w with drawn:=w.drawn+1 } (fun j=>by simp[List.getElem?_drop]) (by rw[hdl];exact hL.1) hL.2
    rwa [hdl] at this) _ _ _ H
  rw[htl,show m+(l.toArray.size-m)=l.toArray.size by omega] at h2
  exact h2
end Go.Proofs.YtijemcfnlbapjaaGreatDoor
namespace Go.Proofs.YtijemcfnlbapjaaGreatDoor
open Go Go.RowKit
def Keeps (B:Nat) (W W':World):Prop:=W.heap.size≤W'.heap.size∧∀ k,B≤k→k<W.heap.size→W'.heap[k]? = W.heap[k]?
theorem Keeps.refl (B:Nat) (W:World):Keeps B W W:=⟨Nat.le_refl _,fun _ _ _=>rfl⟩
theorem Keeps.trans {B:Nat} {a b c:World} (h:Keeps B a b) (k:Keeps B b c):Keeps B a c:=
  ⟨Nat.le_trans h.1 k.1,fun i hi hl=>(k.2 i hi (Nat.lt_of_lt_of_le hl h.1)).trans (h.2 i hi hl)⟩
theorem Keeps.up {B B':Nat} {a b:World} (h:Keeps B a b) (hB:B≤B'):Keeps B' a b:=⟨h.1,fun k hk=>h.2 k (Nat.le_trans hB hk)⟩
theorem Keeps.below {B:Nat} {a b:World} (h:Below a.heap.size a b):Keeps B a b:=⟨h.size,fun k _ hl=>h.block k hl⟩
theorem Keeps.grown {B g:Nat} {a b:World} (h:a.grownBy b (some g)) (hg:g<B):Keeps B a b:=⟨h.size,fun k hk hl=>h.block k hl (fun e=>by injection e;omega)⟩
theorem Keeps.putObj {B l:Nat} (W:World) (o:Obj) (hl:l<B):Keeps B W (W.putObj l o):=Keeps.grown (grownBy_putObj' W l o) hl
theorem Keeps.at {B:Nat} {a b:World} (h:Keeps B a b) {k:Nat} {o:Obj} (hk:B≤k) (ho:a.heap[k]? = some o):b.heap[k]? = some o:=(h.2 k hk (Array.getElem?_eq_some_iff.1 ho).1).trans ho
theorem Keeps.has {B:Nat} {a b:World} (h:Keeps B a b) {g:Nat} {t:TypeId} {cs:Array Value} (hk:B≤g) (ho:Has a g t cs):Has b g t cs:=h.at hk ho
def Stands {σ:Type} (B:Nat) (J:σ→World→Prop):Prop:=∀ s W W',J s W→Below B W W'→J s W'
theorem below_put_at {B l:Nat} {a w:World} (hb:Below B a w) (hB:B≤w.heap.size) (hl:B≤l) (o:Obj):Below B a (w.putObj l o):=below_putObj hb hB hl o
theorem below_put_one {B l:Nat} (w:World) (hl:B≤l) (o:Obj):Below B w (w.putObj l o):=
  ⟨rfl,rfl,rfl,by rw[World.putObj_size];exact Nat.le_refl _,fun k hk=>World.putObj_heap_other (by omega)⟩
theorem RoundIn.atWide {P:Program} {m m' l lp:Nat} {f:FuncId} {tmps:Array Value} {assign body:Code} {w:World} {R:Ending→World→Prop} (h:RoundIn Fence.wide m P l f tmps assign body w R):RoundIn (Fence.wide.inRound lp) m' P l f tmps assign body w R:=
  ⟨trivial,fun c cs _=>h.2 c cs (room_wide _)⟩
def IterK {σ α:Type} (F:Fence) (n:Nat) (P:Program) (g:Nat) (lb:Array Value) (encs:α→Array Value) (Gd:World→Prop) (s0:σ) (Rd:Nat→σ→World→α→σ→Prop) (fin:σ→Prop) (w:World):Prop:=
  ∀ (l:Nat) (J:σ→World→Prop) (W:World),Below w.heap.size w W→Stands W.heap.size J→(∀ s W1,J s W1→Gd W1)→
    (∀ s x s' W1,J s W1→W.heap.size≤W1.heap.size→Rd W.heap.size s W1 x s'→YieldAt F (n-1) P l (encs x) W1 fun e W2=>e=.returned (.bool true)∧J s' W2∧Keeps W.heap.size W1 W2)→
    J s0 W→CallsIn F n P g (#[.func (.yield l) #[] #[]]++lb) W fun e W2=>(∃ v,e=.returned v)∧∃ s,fin s∧J s W2∧W.heap.size≤W2.heap.size
def keepPost {σ:Type} (B:Nat) (I:σ→World→Prop) (s:σ) (W:World):Exit→Act→World→Prop
  | .normal,_,W'=>Keeps B W W'∧I s W'
  | _,_,_=>False
section
variable {F:Fence} {n:Nat} {P:Program}
theorem wpIn_range_keep {σ α:Type} {g:Operand} {ps:Array Tmp} {assign body:Code} {Q:Exit→Act→World→Prop} {a:Act} {w:World}
    (hro:F.round=none) (h1:1≤n) {gf:Nat} {lb:Array Value} (hg:a.eval g=.func (.func gf) #[] lb) (hFg:F.fn gf) (eg:∀ args w,(callFunc gf args).run P w=.ok (.enter gf args) w)
    {encs:α→Array Value} {Gd:World→Prop} {s0:σ} {Rd:Nat→σ→World→α→σ→Prop} {fin:σ→Prop} {w0:World}
    (hseq:IterK F (n-1) P gf lb encs Gd s0 Rd fin w0) (hb0:Below w0.heap.size w0 w) (hps:∀ x,(encs x).size=ps.size)
    (I:σ→World→Prop) (hI:Stands w.heap.size I) (hG:∀ s W,I s W→Gd W) (h0:I s0 w)
    (Ax:σ→α→σ→Act→World→Prop) (hAx:∀ x s' a',OwnFrom w.heap.size (fun s W=>Ax s x s' a' W))
    (hassign:∀ (l:Nat) (s:σ) (x:α) (s':σ) (W:World) (K:Act→World→Prop),I s W→w.heap.size+2≤W.heap.size→Rd (w.heap.size+2) s W x s'→(∀ a' W',Keeps w.heap.size W W'→I s W'→Ax s x s' a' W'→K a' W')→
      assign.wpIn (F.inRound l) (n-1 - 1) P (Exit.then K (fun _ _ _=>False)) { tmps:=(ps.zip (encs x)).foldl (fun t (p,v)=>t.setIfInBounds p v) a.tmps,defers:=[] } W)
    (hbody:∀ (l:Nat) (s:σ) (x:α) (s':σ) (a':Act) (W:World),I s W→w.heap.size+2≤W.heap.size→Ax s x s' a' W→body.wpIn (F.inRound l) (n-1 - 1) P (keepPost w.heap.size I s' W) a' W)
    (hdone:∀ (D:Nat) (s:σ) (W:World),D=w.heap.size→fin s→I s W→W.heap[D]? = some (.deferred (some []))→Q .normal { a with defers:={ target:=.collected D,args:=#[] } :: a.defers } W) :
    (Code.rangeFunc g ps assign body).wpIn F n P Q a w:=by
  refine wpIn_rangeFunc fun fn hfn=>?_
  rw[hro]
  generalize hD:w.heap.size=D at *
  let rec_:LoopState→Option Code→Loop:=fun st pe=>{ state:=st,pending:=pe,fn,tmps:=a.tmps,params:=ps,assign,body,defers:=D }
  have hout:=run_enterLoop_outer (P:=P) (w:=w) fn a.tmps ps assign body
  rw[hD] at hout
  generalize hW1:(w.alloc (.deferred (some []))).alloc (.loop (rec_ .ready none))=W1
  have hs1:W1.heap.size=D+2:=by rw[← hW1];simp[hD]
  have hm1:W1.heap[D]? = some (.deferred (some [])):=by
    rw[← hW1,Below.heap_alloc _ _ _ (by simp[hD])]
    have:=World.alloc_heap_new w (.deferred (some []))
    rwa [hD] at this
  have hl1:W1.heap[D+1]? = some (.loop (rec_ .ready none)):=by
    rw[← hW1]
    have:=World.alloc_heap_new (w.alloc (.deferred (some []))) (.loop (rec_ .ready none))
    rwa [World.size_alloc,hD] at this
  have hI1:I s0 W1:=by
    rw[← hW1]
    exact hI _ _ _ h0 (((Below.refl D w).alloc (by omega) _).alloc (by rw[World.size_alloc];omega) _)
  have hbw:Below w0.heap.size w0 W1:=by
    rw[← hW1]
    exact(hb0.alloc hb0.size _).alloc (by rw[World.size_alloc];have:=hb0.size;omega) _
  refine⟨D+1,[{ target:=.collected D,args:=#[] }],W1,{ target:=.fn (.func gf) lb,args:=#[.func (.yield (D+1)) #[] #[]] },W1,gf,
    #[.func (.yield (D+1)) #[] #[]]++lb,W1,by rw[← hW1];exact hout,?_,?_,?_,fun _=>h1,?_⟩
  · simp only[resolve,hg]
    simp[go_sem]
  · intro f' hf'
    simp[Target.leads] at hf'
    subst hf'
    exact hFg
  · simp[invoke,go_sem,eg]
  refine(hseq (D+1) (fun s W=>I s W∧W.heap[D+1]? = some (.loop (rec_ .ready none))∧W.heap[D]? = some (.deferred (some []))) W1 hbw
    (fun s A B hs hb=>⟨hI _ _ _ hs.1 (hb.mono (by omega)),(hb.block _ (by omega)).trans hs.2.1,(hb.block _ (by omega)).trans hs.2.2⟩)
    (fun s A hs=>hG _ _ hs.1) ?_ ⟨hI1,hl1,hm1⟩).mono ?_
  · rintro s x s' W ⟨hi,hl,hm⟩ hsz hrd
    rw[hs1] at hsz hrd ⊢
    refine⟨fn,_,assign,body,run_yield (P:=P) hl (hps x),roundIn_of_wpIn hfn (hassign _ s x s' W _ hi hsz hrd ?_)⟩
    intro a' Wa hka hia hax
    have hla:=hka.at (Nat.le_succ D) hl
    have hma:=hka.at (Nat.le_refl D) hm
    have hsza:D+2≤Wa.heap.size:=Nat.le_trans hsz hka.1
    have hlt:D+1<Wa.heap.size:=by omega
    refine⟨_,run_beginRound hla rfl,?_⟩
    have hlb:=World.putObj_heap_same (r:=D+1) (w:=Wa) (o:=.loop { rec_ .ready none with state:=.busy }) hlt
    have hmb:=(World.putObj_heap_other (w:=Wa) (r:=D+1) (o:=.loop { rec_ .ready none with state:=.busy }) (show D≠D+1 by omega)).trans hma
    have hib:=hI _ _ _ hia (below_put_one (l:=D+1) Wa (by omega) (.loop { rec_ .ready none with state:=.busy }))
    have hab:=(hAx x s' a').putObj (.loop { rec_ .ready none with state:=.busy }) hax (by omega) hla rfl
    refine wpIn_mono (hbody _ s x s' a' _ hib (by rw[World.putObj_size];omega) hab) ?_
    rintro e a3 W3 hp
    cases e with
    | normal=>
      obtain⟨hk3,hi3⟩:=hp
      have hl3:=hk3.at (Nat.le_succ D) hlb
      have hm3:=hk3.at (Nat.le_refl D) hmb
      refine⟨_,_,run_endRound (P:=P) none hl3,rfl,⟨hI _ _ _ hi3 (below_put_one W3 (by omega) _),?_,?_⟩,?_⟩
      · exact World.putObj_heap_same (Array.getElem?_eq_some_iff.1 hl3).1
      · exact(World.putObj_heap_other (by omega)).trans hm3
      · exact(hka.up (B':=D+2) (by omega)).trans (((Keeps.putObj (B:=D+2) Wa _ (by omega)).trans (hk3.up (by omega))).trans (Keeps.putObj (B:=D+2) W3 _ (by omega)))
    | _=>exact hp.elim
  · rintro e W2 ⟨⟨v,rfl⟩,s,hf,⟨hi,hl,hm⟩,hsz⟩
    exact⟨none,_,run_endLoop (P:=P) hl (by simp[rec_]),hdone D s _ rfl hf (hI _ _ _ hi (below_put_one W2 (by omega) _)) ((World.putObj_heap_other (by omega)).trans hm)⟩
end
theorem leaves_none {P:Program} {fn:Func} {n:Nat} (h:fn.results=#[]) {tmps:Array Value} {D:Nat} {w:World} {R:Ending→World→Prop} {e:Exit} (he:e=.ret∨e=.normal)
    (hK:w.heap[D]? = some (.deferred (some []))) (hR:∀ v,R (.returned v) (w.putObj D (.deferred none))) :
    bodyPostM Fence.wide n P fn R e { tmps:=tmps,defers:=[{ target:=.collected D,args:=#[] }] } w:=by
  rcases he with rfl | rfl
  all_goals
    refine⟨by simp,.inl ⟨_,_,rfl,run_takeDeferred hK,⟨_,results_none h _ _ _,hR _⟩⟩⟩
theorem wpListIn_of_wp {P:Program} {lp n:Nat} {ops:Array Oper} {rest:List Oper} {op:Oper} {a:Act} {w:World} {Q:Exit→Act→World→Prop} (hw:Region.wanted op (yielded ops a.tmps)=true) (hnd:∀ c,op.op≠.defer c)
    (h:∀ K:Act→World→Prop,(∀ a w,wpListIn (Fence.wide.inRound lp) n P ops Q rest a w→K a w)→op.wp P a w K Q):wpListIn (Fence.wide.inRound lp) n P ops Q (op :: rest) a w:=
  wpListIn_step fun K hK=>by
    rw[if_pos hw]
    exact operIn_round hnd (fun _ _ h=>h) (h K hK)
theorem wpListInR_load {P:Program} {lp n:Nat} {ops:Array Oper} {rest:List Oper} {op:Oper} {a:Act} {w:World} {Q:Exit→Act→World→Prop} (hw:Region.wanted op (yielded ops a.tmps)=true) (ty:TypeId) (x:Operand) (ho:op.op=.load ty x)
    (p v:Value) (hx:a.eval x=p) (hr:(Instr.loadAt ty p).run P w=.ok v w) (h:wpListIn (Fence.wide.inRound lp) n P ops Q rest (a.put op.dst v) w):wpListIn (Fence.wide.inRound lp) n P ops Q (op :: rest) a w:=
  wpListIn_of_wp hw (fun c=>by rw[ho];exact fun e=>by cases e) fun K hK=>by
    unfold Oper.wp execOp
    simp only[ho,hx,Sem.run_bind,Sem.run_pure,Result.andThen_ok,hr]
    exact hK _ _ h
theorem wpListInR_store {P:Program} {lp n:Nat} {ops:Array Oper} {rest:List Oper} {op:Oper} {a:Act} {w:World} {Q:Exit→Act→World→Prop} (hw:Region.wanted op (yielded ops a.tmps)=true) (ty:TypeId) (x y:Operand) (ho:op.op=.store ty x y)
    (b o:Nat) (cells:Array Value) (hx:a.eval x=.pointer (some ⟨b,o,none⟩)) (hy:a.eval y=.agg cells)
    (ht:w.there b o cells.size) (hi:(P.info? ty).map (·.size)=some cells.size) (h1:cells.all (·.oneCell')=true)
    (h:wpListIn (Fence.wide.inRound lp) n P ops Q rest (a.put op.dst undef) (w.setCells b o cells.toList)):wpListIn (Fence.wide.inRound lp) n P ops Q (op :: rest) a w:=
  wpListIn_of_wp hw (fun c=>by rw[ho];exact fun e=>by cases e) fun K hK=>wp_store_mid ty x y ho b o cells hx hy ht hi h1 (hK _ _ h)
end Go.Proofs.YtijemcfnlbapjaaGreatDoor
namespace Go.Proofs.YtijemcfnlbapjaaGreatDoor
open Go Go.RowKit Go.Shelf Go.ChangeShapes Go.WideShapes
attribute [local go_sem] Oper.semAt_some
def Src (C:Nat) (w0 W:World) (a:Option Addr) (n:Nat) (l:List (BitVec 8)):Prop:=Bytes8 w0 a n l∨∃ g o,C≤g∧g<W.heap.size∧a=some ⟨g,o,none⟩∧Bytes8 W a n l
theorem Src.bytes {C n:Nat} {w0 W:World} {a:Option Addr} {l:List (BitVec 8)} (h:Src C w0 W a n l) (hb:Below w0.heap.size w0 W):Bytes8 W a n l:=by
  rcases h with h | ⟨g,o,_,_,_,h⟩
  · exact h.below hb
  · exact h
theorem bytes_block {w w':World} {g o n:Nat} {l:List (BitVec 8)} (h:Bytes8 w (some ⟨g,o,none⟩) n l) (hk:w'.heap[g]? = w.heap[g]?):Bytes8 w' (some ⟨g,o,none⟩) n l:=by
  refine⟨h.1,h.2.1,fun i hi=>?_⟩
  obtain⟨x,e,hx⟩:=h.2.2 i hi
  injection e with e
  subst e
  refine⟨_,rfl,?_⟩
  rw[Addr.add_mid] at hx ⊢
  rw[World.cell?_of_block (w:=w) hk]
  exact hx
theorem Src.keeps {C n:Nat} {w0 W W':World} {a:Option Addr} {l:List (BitVec 8)} (h:Src C w0 W a n l) (hk:Keeps C W W'):Src C w0 W' a n l:=by
  rcases h with h | ⟨g,o,hC,hg,rfl,h⟩
  · exact Or.inl h
  · exact Or.inr ⟨g,o,hC,Nat.lt_of_lt_of_le hg hk.1,rfl,bytes_block h (hk.2 g hC hg)⟩
theorem Src.own {B C n:Nat} {w0 W W':World} {row:Option Nat} {a:Option Addr} {l:List (BitVec 8)} (h:Src C w0 W a n l) (hg:W.grownBy W' row) (hr:∀ r,row=some r→B≤r∧∃ o:Obj,W.heap[r]? = some o∧o.isCells=false):Src C w0 W' a n l:=by
  rcases h with h | ⟨g,o,hC,hgs,rfl,h⟩
  · exact Or.inl h
  · refine Or.inr ⟨g,o,hC,Nat.lt_of_lt_of_le hgs hg.size,rfl,h.1,h.2.1,fun i hi=>?_⟩
    obtain⟨x,e,hx⟩:=h.2.2 i hi
    exact⟨x,e,cell_kept hx hg (fun r e=>(hr r e).2)⟩
abbrev Sl3:=Option Addr×Nat×Nat
def encS (x:Sl3):Array Value:=#[.slice x.1 x.2.1 x.2.2]
def Dg.parts (LL:List (List (BitVec 8))):List (List (BitVec 8)):=LL++[Dg.pd LL.flatten.length]
def Dg.off (LL:List (List (BitVec 8))) (k:Nat):Nat:=((Dg.parts LL).take k).flatten.length
theorem Dg.parts_flat (LL:List (List (BitVec 8))):(Dg.parts LL).flatten=Dg.pad LL.flatten:=by
  rw[Dg.pad_pd];unfold Dg.parts;simp
theorem Dg.parts_at (LL:List (List (BitVec 8))) {k:Nat} (h:k<LL.length):(Dg.parts LL).getD k []=LL.getD k []:=by
  unfold Dg.parts
  rw[List.getD_eq_getElem?_getD,List.getD_eq_getElem?_getD,List.getElem?_append_left h]
theorem Dg.parts_last (LL:List (List (BitVec 8))):(Dg.parts LL).getD LL.length []=Dg.pd LL.flatten.length:=by
  unfold Dg.parts
  rw[List.getD_eq_getElem?_getD,List.getElem?_append_right (Nat.le_refl _),Nat.sub_self]
  rfl
theorem take_snoc {α:Type} (L:List (List α)) {k:Nat} (h:k<L.length):(L.take (k+1)).flatten=(L.take k).flatten++L.getD k []:=by
  rw[List.take_succ_eq_append_getElem h,List.flatten_append,List.getD_eq_getElem?_getD,List.getElem?_eq_getElem h]
  simp
theorem Dg.off_step (LL:List (List (BitVec 8))) {k:Nat} (h:k≤LL.length):Dg.off LL (k+1)=Dg.off LL k+((Dg.parts LL).getD k []).length:=by
  unfold Dg.off
  rw[take_snoc _ (by simp[Dg.parts];omega),List.length_append]
theorem Dg.off_end (LL:List (List (BitVec 8))):Dg.off LL LL.length=LL.flatten.length:=by
  unfold Dg.off Dg.parts
  rw[List.take_append_of_le_length (Nat.le_refl _),List.take_length]
theorem Dg.off_all (LL:List (List (BitVec 8))):Dg.off LL (LL.length+1)=(Dg.pad LL.flatten).length:=by
  unfold Dg.off
  rw[← Dg.parts_flat,show LL.length+1=(Dg.parts LL).length by simp[Dg.parts],List.take_length]
def RdP (w0:World) (LL:List (List (BitVec 8))) (C k:Nat) (W:World) (x:Sl3) (k':Nat):Prop:=
  k'=k+1∧k≤LL.length∧x.2.1≤x.2.2∧Src C w0 W x.1 x.2.1 ((Dg.parts LL).getD k [])
def GdP (w0:World) (Bx:Nat) (a:Option Addr) (n c:Nat) (W:World):Prop:=Below w0.heap.size w0 W∧Has W Bx 143 #[.slice a n c]
theorem padded_any (a:Option Addr) (n c:Nat) (w:World) :
    Calls Tryz.prog 138 #[.slice a n c] w fun e w'=>
      e=.returned (.func (.func 147) #[] #[.pointer (some ⟨w.heap.size,0,none⟩)])∧w'=w.alloc (.cells #[.slice a n c] 143):=by
  go_enter Tryz.func138,Tryz.ntmps138
  go_wp2
  go_ret
  exact⟨rfl,rfl⟩
set_option maxRecDepth 100000 in
set_option maxHeartbeats 4000000 in
theorem padded_iter (m:Nat) (hm:1≤m) (Bx:Nat) (a:Option Addr) (n c:Nat) (LL:List (List (BitVec 8))) (w0 w:World) (hP:Parts w0 a n LL) (hfl:LL.flatten.length≤1000000) (hnn:n≤1000000) :
    IterK Fence.wide m Tryz.prog 147 #[.pointer (some ⟨Bx,0,none⟩)] encS (GdP w0 Bx a n c) 0 (RdP w0 LL) (fun k=>k=n+1) w:=by
  intro lp J W hW hJ hG hY h0
  have hb:=(hG 0 W h0).2.cell_at (i:=0) rfl
  have HL:=Lib.hid (And.intro hP.1 (And.intro hfl hnn))
  have hlenL:LL.length=n:=hP.1
  refine callsIn_of_wp Tryz.func147 rfl trivial ?_ rfl
  simp only[Tryz.ntmps147,List.size_toArray,List.length_cons,List.length_nil,Nat.reduceAdd,Nat.reduceSub,Array.replicate_succ,Array.replicate_zero,List.push_toArray,List.append_toArray,List.nil_append,List.cons_append]
  gi_wp2
  gi_loopw [8,3] (fun i s wr=>∃ k:Nat,k≤n∧i=.int .i64 (k:Int)∧s=.int .u64 (nb64 (BitVec.ofNat 64 (Dg.off LL k)))∧J k wr∧W.heap.size≤wr.heap.size) (fun i _ _=>n-(intOf i).toNat)
  case atStart=>exact⟨0,Nat.zero_le _,rfl,rfl,h0,Nat.le_refl _⟩
  case round=>
    clear hb h0
    obtain⟨k,hk,rfl,rfl,hJs,hsz⟩:=hrel
    by_cases hlt:k<n
    · have hlti:(k:Int)<(n:Int):=by omega
      have hk0:(0:Int)≤(k:Int):=by omega
      obtain⟨y,ad,pm,pc,rfl,hy,hby,hpc,_⟩:=hP.2.2 k hlt
      have hc:wr.cell? (y.add k)=some (.slice ad pm pc):=by
        rw[(hG k wr hJs).1.cell (isSome_lt (w:=w0) (by rw[hy];rfl))];exact hy
      have hpml:((Dg.parts LL).getD k []).length=pm:=by rw[Dg.parts_at LL (by omega)];exact hby.1
      obtain⟨fn,tmps,assign,body,hy2,hR⟩:=hY k (ad,pm,pc) (k+1) wr hJs hsz ⟨rfl,by omega,hpc,Or.inl (by rw[Dg.parts_at LL (by omega)];exact hby)⟩
      dsimp only[encS] at hy2
      have hcv:=nat_to_u64 pm
      have HO:=Lib.hid (show BitVec.ofNat 64 (Dg.off LL k)+BitVec.ofNat 64 pm=BitVec.ofNat 64 (Dg.off LL (k+1)) by rw[Dg.off_step LL (by omega),hpml,BitVec.ofNat_add])
      obtain⟨O,hO⟩:∃ O,O=BitVec.ofNat 64 (Dg.off LL k):=⟨_,rfl⟩
      rw[← hO] at HO ⊢
      obtain⟨D,hD⟩:∃ O,O=BitVec.ofNat 64 pm:=⟨_,rfl⟩
      rw[← hD] at HO hcv
      clear hO hD hby hpml
      gi_wp2
      refine hR.mono ?_
      rintro e W3 ⟨rfl,hJ3,hk3⟩
      gi_wp2
      go_roundw
      case rel=>exact⟨k+1,by omega,by go_num,by rw[HO.out],hJ3,Nat.le_trans hsz hk3.1⟩
      case measure=>(simp[intOf];try omega)
    · have hkn:k=n:=by omega
      subst hkn
      have hlti:¬ (k:Int)<(k:Int):=by omega
      have HO:=Lib.hid (show BitVec.ofNat 64 (Dg.off LL k)=BitVec.ofNat 64 LL.flatten.length by rw[← hlenL,Dg.off_end])
      obtain⟨O,hO⟩:∃ O,O=BitVec.ofNat 64 (Dg.off LL k):=⟨_,rfl⟩
      rw[← hO] at HO ⊢
      have HLT:=Lib.hid hlenL
      clear hO hlenL
      obtain⟨M,hM⟩:∃ M,M=1+Dg.zs LL.flatten.length+8:=⟨_,rfl⟩
      have hpad:=padding_any LL.flatten.length HL.out.2.1 O HO.out wr
      rw[← hM] at hpad
      have HPD:=Lib.hid hpad
      have HM:=Lib.hid (show(Dg.pd LL.flatten.length).length=M∧M≤1000000 by
        rw[Dg.pd_len,hM]
        have:Dg.zs LL.flatten.length<64:=Nat.mod_lt _ (by omega)
        exact⟨rfl,by omega⟩)
      have HL2:=Lib.hid (show(Dg.parts LL).getD k []=Dg.pd LL.flatten.length by rw[← HLT.out,Dg.parts_last])
      obtain⟨pl,hpl⟩:∃ pl,pl=Dg.pd LL.flatten.length:=⟨_,rfl⟩
      rw[← hpl] at HPD HM HL2
      clear hM hpad hpl
      gi_wp2_with (refine⟨trivial,?_⟩;(gi_at_call 148;refine(callsIn_wide.2 HPD.out).mono ?_;rintro e wP ⟨rfl,hPd,hbP⟩;have hJP:=hJ _ _ _ hJs (hbP.mono hsz);have hszP:W.heap.size≤wP.heap.size:=Nat.le_trans hsz hbP.size;obtain⟨fn,tmps,assign,body,hy2,hR⟩:=hY k (some ⟨wr.heap.size,0,none⟩,M,M) (k+1) wP hJP hszP ⟨rfl,by have:=HLT.out;omega,Nat.le_refl _,Or.inr ⟨wr.heap.size,0,hsz,hPd.lt,rfl,by rw[HL2.out];exact bytes_has hPd HM.out.1 HM.out.2⟩⟩;dsimp only[encS] at hy2))
      refine hR.mono ?_
      rintro e W3 ⟨rfl,hJ3,hk3⟩
      gi_wp2
      go_end0
      exact⟨⟨_,rfl⟩,k+1,rfl,hJ3,Nat.le_trans hszP hk3.1⟩
end Go.Proofs.YtijemcfnlbapjaaGreatDoor
