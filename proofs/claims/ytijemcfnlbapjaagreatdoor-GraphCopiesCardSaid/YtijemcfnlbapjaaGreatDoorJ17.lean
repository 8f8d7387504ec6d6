/- a tree of two, four or eight digests is the double digest of both halves' trees. Nothing of the program. · Slices of digests that are the call's own: what they hold, appended to; loads in a drawn region · the reference's Double, Tree · ids: package tx's and the reference's (mktxi.py) · package graph: its nodes, its maps, what a graph is · package graph: the library's sort of nodes by a function, laid · package graph: all, Len, Has, spender, creator (mkgrb.py) -/
import Derived.Test.YtijemcfnlbapjaaGreatDoorJ11
import Derived.Test.YtijemcfnlbapjaaGreatDoorJ02
import Derived.Test.YtijemcfnlbapjaaGreatDoorJ01
import Derived.Laws.AppendOwn
import Derived.Laws.AppendOwnNone
import Derived.Test.YtijemcfnlbapjaaGreatDoorJ16
import Derived.Test.YtijemcfnlbapjaaGreatDoorJ08
import Derived.Test.YtijemcfnlbapjaaGreatDoorJ10
import Derived.Test.YtijemcfnlbapjaaGreatDoorJ15
import Derived.Test.YtijemcfnlbapjaaGreatDoorJ04
import Derived.Shelf.SlSortCmp.Whole1
import Derived.Shelf.SlSortCmp.NoneTotal
namespace Go.Proofs.YtijemcfnlbapjaaGreatDoor.Dg
open Go.Proofs.YtijemcfnlbapjaaGreatDoor
end Go.Proofs.YtijemcfnlbapjaaGreatDoor.Dg
namespace Go.Proofs.YtijemcfnlbapjaaGreatDoor
open Go Go.RowKit
set_option maxRecDepth 100000
section
variable {T:TypeId} {B:Nat} {w w':World} {v:Value} {L:List (List (BitVec 8))}
end
theorem zeros_hash:(Array.range (1*32)).map (z32[·%z32.size]!)=z32:=by kernel_rfl
theorem fill_hash (l:List (BitVec 8)) (hl:l.length=32):Instr.fill (fun i=>some (i*32,32)) ((Array.range (1*32)).map (z32[·%z32.size]!)) [(0,.agg (blist l).toArray)]=some (blist l).toArray:=by
  rw[zeros_hash]
  match l,hl with
  | [x0,x1,x2,x3,x4,x5,x6,x7,x8,x9,x10,x11,x12,x13,x14,x15,x16,x17,x18,x19,x20,x21,x22,x23,x24,x25,x26,x27,x28,x29,x30,x31],_=>
    have hc:∀ cs:Array Value,(Value.agg cs).cells=cs:=fun _=>rfl
    simp[Instr.fill,hc,blist]
theorem run_build_hash {P:Program} {t T:TypeId} (ht:P.underlying t=some (.slice T)) (hi:(P.info? T).map (fun i=>(i.zero,i.size,i.bytes))=some (some (.agg z32),32,32)) (l:List (BitVec 8)) (hl:l.length=32) (w:World) :
    (Instr.buildSlice t 1 #[(0,.agg (blist l).toArray)]).run P w=.ok (.slice (some ⟨w.heap.size,0,none⟩) 1 1) (w.alloc (.cells (blist l).toArray T)):=by
  obtain⟨i0,hi0,hz0,hz1,hz2⟩:=info_parts hi
  have hf:=fill_hash l hl
  have hz:(Value.agg z32).cells=z32:=rfl
  simp at hf
  simp[Instr.buildSlice,Sem.run_bind,run_underlying ht,sizeOf,typeInfo,zeroValue,hi0,hz0,hz1,hz,newRow,hf]
end Go.Proofs.YtijemcfnlbapjaaGreatDoor
namespace Go.Proofs.YtijemcfnlbapjaaGreatDoor
open Go Go.RowKit Go.ChangeShapes Go.WideShapes
set_option maxRecDepth 100000 in
set_option maxHeartbeats 4000000 in
theorem rdouble_any (ad:Option Addr) (n cp:Nat) (l:List (BitVec 8)) (w:World) (hw:Bytes8 w ad n l) (hn:n≤1000000) (hc0:ad=none→cp=0) (hT:Tab32 w 1 Dg.kL) :
    Calls Tryz.prog 87 #[.slice ad n cp] w fun e w'=>e=.returned (.agg (blist (Dg.double l)).toArray)∧Below w.heap.size w w':=by
  go_enter Tryz.func87,Tryz.ntmps87
  go_upto_region 1 with fail
  obtain⟨w0,hw0⟩:∃ x,x=w.alloc (.cells z32 46):=⟨_,rfl⟩
  rw[← hw0]
  have hR0:Has w0 w.heap.size 46 z32:=by rw[hw0];exact Has.fresh _ _ _
  have hB0:Below w.heap.size w w0:=by rw[hw0];exact(Below.refl _ _).alloc (Nat.le_refl _) _
  have hT0:=hT.below hB0
  clear hw0
  have hsz:=size_hash' (Dg.double_len l)
  have hone:=one_hash (Dg.double l)
  have HT:=Lib.hid (And.intro hsz hone)
  clear hsz hone
  go_wp2_with (first
    | (refine wpList_store_mid rfl 46 (.tmp 2) (.tmp 6) rfl w.heap.size 0 (blist (Dg.double l)).toArray rfl rfl hth HT.out.1 HT.out.2 ?_)
    | (go_at_call 101;refine(rsum_any a2 32 c2 (Dg.sum l) w2 hby2 (by omega) hc2 hT2).mono ?_;rintro e w3 ⟨rfl,hb3⟩;have hR3:=hR2.under hb3 hR2.lt;have hB3:=hB2.trans (hb3.mono hB2.size);have hth:=hR3.there 0 (blist (Dg.double l)).toArray.size (by rw[List.size_toArray,blist_length,Dg.double_len];decide))
    | (go_at_call 102;refine(rbytes_any (Dg.sum l) (Dg.sum_len l) w1).mono ?_;rintro e w2 ⟨v2,rfl,ho2,hb2⟩;obtain⟨a2,c2,rfl,_,hc2,hby2⟩:=ho2.shape (Dg.sum_len l);have hR2:=hR1.under hb2 hR1.lt;have hB2:=hB1.trans (hb2.mono hB1.size);have hT2:=hT1.below hb2)
    | (go_at_call 101;refine(rsum_any ad n cp l w0 (hw.below hB0) hn hc0 hT0).mono ?_;rintro e w1 ⟨rfl,hb1⟩;have hR1:=hR0.under hb1 hR0.lt;have hB1:=hB0.trans (hb1.mono hB0.size);have hT1:=hT0.below hb1))
  have hE:=hR3.whole (l:=Dg.double l) (by rw[Dg.double_len];rfl)
  have hS:=size_hash (Dg.double_len l)
  exact bodyPost_ret (results_one_cell rfl _ _ w.heap.size rfl _ (run_loadVar_mid _ _ 0 46 _ _ hE.range Tryz.underlying46 rfl hS)) rfl ⟨rfl,below_setAll (Nat.le_refl _) _ 0 hB3⟩
end Go.Proofs.YtijemcfnlbapjaaGreatDoor
namespace Go.Proofs.YtijemcfnlbapjaaGreatDoor
open Go Go.RowKit Go.ChangeShapes Go.WideShapes
def Tx.idOf (all:Bool) (t:Tx.T):List (BitVec 8):=Dg.double (Tx.enc all t)
theorem Tx.idOf_len (all:Bool) (t:Tx.T):(Tx.idOf all t).length=32:=Dg.double_len _
abbrev zPt:Array Value:=#[.int .u8 0,.int .u8 0,.int .u8 0,.int .u8 0,.int .u8 0,.int .u8 0,.int .u8 0,.int .u8 0,.int .u8 0,.int .u8 0,.int .u8 0,.int .u8 0,.int .u8 0,.int .u8 0,.int .u8 0,.int .u8 0,.int .u8 0,.int .u8 0,.int .u8 0,.int .u8 0,.int .u8 0,.int .u8 0,.int .u8 0,.int .u8 0,.int .u8 0,.int .u8 0,.int .u8 0,.int .u8 0,.int .u8 0,.int .u8 0,.int .u8 0,.int .u8 0,.int .i64 0]
set_option maxRecDepth 100000 in
theorem built_pt32 (d0 d1 d2 d3 d4 d5 d6 d7 d8 d9 d10 d11 d12 d13 d14 d15 d16 d17 d18 d19 d20 d21 d22 d23 d24 d25 d26 d27 d28 d29 d30 d31:BitVec 8) (z:Int):Tryz.prog.built 58 [(0,.agg (blist [d0,d1,d2,d3,d4,d5,d6,d7,d8,d9,d10,d11,d12,d13,d14,d15,d16,d17,d18,d19,d20,d21,d22,d23,d24,d25,d26,d27,d28,d29,d30,d31]).toArray),(1,.int .i64 z)]=some (ptCells [d0,d1,d2,d3,d4,d5,d6,d7,d8,d9,d10,d11,d12,d13,d14,d15,d16,d17,d18,d19,d20,d21,d22,d23,d24,d25,d26,d27,d28,d29,d30,d31] z).toArray:=by kernel_rfl
theorem built_pt:∀ (D:List (BitVec 8)),D.length=32→∀ z:Int,Tryz.prog.built 58 [(0,.agg (blist D).toArray),(1,.int .i64 z)]=some (ptCells D z).toArray
  | [d0,d1,d2,d3,d4,d5,d6,d7,d8,d9,d10,d11,d12,d13,d14,d15,d16,d17,d18,d19,d20,d21,d22,d23,d24,d25,d26,d27,d28,d29,d30,d31],_,z=>built_pt32 d0 d1 d2 d3 d4 d5 d6 d7 d8 d9 d10 d11 d12 d13 d14 d15 d16 d17 d18 d19 d20 d21 d22 d23 d24 d25 d26 d27 d28 d29 d30 d31 z
theorem pt_one (D:List (BitVec 8)) (z:Int):(ptCells D z).toArray.all (·.oneCell')=true:=by
  rw[show((ptCells D z).toArray.all (·.oneCell'))=(ptCells D z).all (·.oneCell') from by simp,List.all_eq_true]
  intro v hv
  unfold ptCells at hv
  rcases List.mem_append.1 hv with h | h
  · exact blist_one _ v h
  · simp at h
    subst h
    rfl
theorem wpList_build_pt {ops:Array Oper} {rest:List Oper} {o:Oper} {a:Act} {w:World} {Q:Exit→Act→World→Prop} {PC:Array Value} (hgd:o.guard=none) (x y:Operand) (ho:o.op=.build 58 #[(0,x),(1,y)]) (D:List (BitVec 8)) (z:Int)
    (hx:a.eval x=.agg (blist D).toArray) (hy:a.eval y=.int .i64 z) (hPC:PC=(ptCells D z).toArray) (hD:D.length=32) (h:wpList Tryz.prog ops Q rest (a.put o.dst (.agg PC)) w):wpList Tryz.prog ops Q (o :: rest) a w:=
  wpList_plain hgd fun K hK=>by
    have hr:=run_build (P:=Tryz.prog) w 58 #[(0,.agg (blist D).toArray),(1,.int .i64 z)] _ (built_pt D hD z)
    subst hPC
    unfold Oper.wp execOp
    simp only[ho,List.map_toArray,List.map_cons,List.map_nil,hx,hy,Sem.run_bind,Sem.run_pure,Result.andThen_ok,hr]
    exact hK _ _ h
set_option maxRecDepth 100000 in
set_option maxHeartbeats 8000000 in
theorem pid_any (a:Option Addr) (n q:Nat) (b:Option Addr) (m r:Nat) (t:Tx.T) (f:Bool) (hf:f=t.firm) (w:World) (ht:TxAt w a n q b m r t) (hs:Tx.Small t) (hK:KDg w) :
    Calls Tryz.prog 42 #[txv a n q b m r f] w fun e w'=>e=.returned (.agg (blist (Tx.idOf false t)).toArray)∧Below w.heap.size w w':=by
  obtain⟨W1,hW1⟩:∃ x,x=(w.alloc (.cells #[.slice a n q,.slice b m r,.bool f] 34)).alloc (.cells z32 46):=⟨_,rfl⟩
  have hBw:Below w.heap.size w W1:=by
    rw[hW1]
    exact((Below.refl _ w).alloc (Nat.le_refl _) _).alloc (by simp) _
  have hX:Has W1 w.heap.size 34 #[.slice a n q,.slice b m r,.bool f]:=by rw[hW1];exact(Has.fresh w _ _).past _
  have hR:Has W1 (w.heap.size+1) 46 z32:=by rw[hW1];exact Has.fresh_at _ _ _ (by simp)
  have lX:=hX.load_agg (P:=Tryz.prog) (t:=34) Tryz.underlying34 rfl (by kernel_rfl)
  have HW:=Lib.hid hW1
  have HT:=Lib.hid (ht.below hBw)
  have HS:=Lib.hid hs
  have HK:=Lib.hid hK
  have HF:=Lib.hid hf
  clear hf
  obtain⟨E,hE⟩:∃ E,E=Tx.enc false t:=⟨_,rfl⟩
  obtain⟨K,hKl⟩:∃ K,K=E.length:=⟨_,rfl⟩
  have HL:=Lib.hid (show E.length=K∧K≤1000000∧E=Tx.enc false t from⟨hKl.symm,by have:=Tx.enc_len false t hs (fun s hx=>(ht.sp.2.2.1 s hx).1);rw[hKl,hE];omega,hE⟩)
  obtain⟨D,hDd⟩:∃ D,D=Dg.double E:=⟨_,rfl⟩
  have hDl:D.length=32:=by rw[hDd];exact Dg.double_len _
  have HD:=Lib.hid (show D=Dg.double E∧D.length=32∧Tx.idOf false t=D from⟨hDd,hDl,by rw[Tx.idOf,← hE,hDd]⟩)
  have hsz:=size_hash' hDl
  have HO:=Lib.hid (And.intro hsz (one_hash D))
  obtain⟨g1,hg1⟩:∃ g,g=w.heap.size:=⟨_,rfl⟩
  have HG:=Lib.hid hg1
  rw[← hg1] at lX hR
  clear hW1 ht hs hX hK hE hKl hDd hDl hsz hg1
  rw[HD.out.2.2]
  go_enter Tryz.func42,Tryz.ntmps42
  go_upto_region 1 with fail
  rw[← HW.out,← HG.out]
  go_wp2_with (first
    | (refine wpList_store_mid rfl 46 (.tmp 2) (.tmp 6) rfl (g1+1) 0 (blist D).toArray rfl rfl hth HO.out.1 HO.out.2 ?_)
    | (go_at_call 79;refine hS4.mono ?_;rintro e w5 ⟨rfl,hb5⟩;have hR5:=(hR2.past _).under hb5 (hR2.past _).lt;have hth:=hR5.there 0 (blist D).toArray.size (by rw[List.size_toArray,blist_length,HD.out.2.1];decide))
    | (go_at_call 80;refine(pbase_any a n q b m r t f HF.out W1 HT.out HS.out).mono ?_;rw[← HL.out.2.2];rintro e w2 ⟨v2,rfl,ho2,hb2⟩;obtain⟨x2,c2,rfl,hc2,h02,hby2⟩:=ho2.shape HL.out.1;have hR2:=hR.under hb2 hR.lt;have hB2:=hBw.trans (hb2.mono hBw.size);have hP:=parts_one (c:=c2) 130 hby2 hc2 h02;have hB4:=hB2.alloc hB2.size (.cells #[.slice x2 K c2] 130);have hS4:=ddouble_any _ 1 1 [E] _ (HK.out.below hB4) hP (by omega) (by rw[List.flatten_singleton,HL.out.1];have:=HL.out.2.1;omega);rw[List.flatten_singleton] at hS4;rw[← HD.out.1] at hS4)
    | (refine wpList_load_run rfl 34 (.tmp 1) rfl _ _ rfl lX ?_))
  have hE:=hR5.whole (l:=D) (by rw[HD.out.2.1];rfl)
  have hS:=size_hash HD.out.2.1
  exact bodyPost_ret (results_one_cell rfl _ _ (g1+1) rfl _ (run_loadVar_mid _ _ 0 46 _ _ hE.range Tryz.underlying46 rfl hS)) rfl ⟨rfl,below_setAll (by have:=HG.out;omega) _ 0 (hB4.trans (hb5.mono hB4.size))⟩
set_option maxRecDepth 100000 in
set_option maxHeartbeats 8000000 in
theorem rid_any (a:Option Addr) (n q:Nat) (b:Option Addr) (m r:Nat) (t:Tx.T) (w:World) (ht:TxAt w a n q b m r t) (hs:Tx.Small t) (hK:Tab32 w 1 Dg.kL) :
    Calls Tryz.prog 68 #[txv a n q b m r t.firm] w fun e w'=>e=.returned (.agg (blist (Tx.idOf false t)).toArray)∧Below w.heap.size w w':=by
  obtain⟨W1,hW1⟩:∃ x,x=(w.alloc (.cells #[.slice a n q,.slice b m r,.bool t.firm] 34)).alloc (.cells z32 46):=⟨_,rfl⟩
  have hBw:Below w.heap.size w W1:=by
    rw[hW1]
    exact((Below.refl _ w).alloc (Nat.le_refl _) _).alloc (by simp) _
  have hX:Has W1 w.heap.size 34 #[.slice a n q,.slice b m r,.bool t.firm]:=by rw[hW1];exact(Has.fresh w _ _).past _
  have hR:Has W1 (w.heap.size+1) 46 z32:=by rw[hW1];exact Has.fresh_at _ _ _ (by simp)
  have lX:=hX.load_agg (P:=Tryz.prog) (t:=34) Tryz.underlying34 rfl (by kernel_rfl)
  have HW:=Lib.hid hW1
  have HT:=Lib.hid (ht.below hBw)
  have HS:=Lib.hid hs
  have HK:=Lib.hid hK
  obtain⟨E,hE⟩:∃ E,E=Tx.enc false t:=⟨_,rfl⟩
  obtain⟨K,hKl⟩:∃ K,K=E.length:=⟨_,rfl⟩
  have HL:=Lib.hid (show E.length=K∧K≤1000000∧E=Tx.enc false t from⟨hKl.symm,by have:=Tx.enc_len false t hs (fun s hx=>(ht.sp.2.2.1 s hx).1);rw[hKl,hE];omega,hE⟩)
  obtain⟨D,hDd⟩:∃ D,D=Dg.double E:=⟨_,rfl⟩
  have hDl:D.length=32:=by rw[hDd];exact Dg.double_len _
  have HD:=Lib.hid (show D=Dg.double E∧D.length=32∧Tx.idOf false t=D from⟨hDd,hDl,by rw[Tx.idOf,← hE,hDd]⟩)
  have hsz:=size_hash' hDl
  have HO:=Lib.hid (And.intro hsz (one_hash D))
  obtain⟨g1,hg1⟩:∃ g,g=w.heap.size:=⟨_,rfl⟩
  have HG:=Lib.hid hg1
  rw[← hg1] at lX hR
  clear hW1 ht hs hX hK hE hKl hDd hDl hsz hg1
  rw[HD.out.2.2]
  go_enter Tryz.func68,Tryz.ntmps68
  go_upto_region 1 with fail
  rw[← HW.out,← HG.out]
  go_wp2_with (first
    | (refine wpList_store_mid rfl 46 (.tmp 2) (.tmp 5) rfl (g1+1) 0 (blist D).toArray rfl rfl hth HO.out.1 HO.out.2 ?_)
    | (go_at_call 87;refine hS4.mono ?_;rintro e w5 ⟨rfl,hb5⟩;have hR5:=hR2.under hb5 hR2.lt;have hth:=hR5.there 0 (blist D).toArray.size (by rw[List.size_toArray,blist_length,HD.out.2.1];decide))
    | (go_at_call 83;refine(rbase_any a n q b m r t W1 HT.out HS.out).mono ?_;rw[← HL.out.2.2];rintro e w2 ⟨v2,rfl,ho2,hb2⟩;obtain⟨x2,c2,rfl,hc2,h02,hby2⟩:=ho2.shape HL.out.1;have hR2:=hR.under hb2 hR.lt;have hB2:=hBw.trans (hb2.mono hBw.size);have hS4:=rdouble_any x2 K c2 E w2 hby2 HL.out.2.1 h02 (HK.out.below hB2);rw[← HD.out.1] at hS4)
    | (refine wpList_load_run rfl 34 (.tmp 1) rfl _ _ rfl lX ?_))
  have hE:=hR5.whole (l:=D) (by rw[HD.out.2.1];rfl)
  have hS:=size_hash HD.out.2.1
  exact bodyPost_ret (results_one_cell rfl _ _ (g1+1) rfl _ (run_loadVar_mid _ _ 0 46 _ _ hE.range Tryz.underlying46 rfl hS)) rfl ⟨rfl,below_setAll (by have:=HG.out;omega) _ 0 (hB2.trans (hb5.mono hB2.size))⟩
set_option maxRecDepth 100000 in
set_option maxHeartbeats 8000000 in
theorem ppoint_any (a:Option Addr) (n q:Nat) (b:Option Addr) (m r:Nat) (t:Tx.T) (f:Bool) (hf:f=t.firm) (z:Int) (w:World) (ht:TxAt w a n q b m r t) (hs:Tx.Small t) (hK:KDg w) :
    Calls Tryz.prog 41 #[txv a n q b m r f,.int .i64 z] w fun e w'=>e=.returned (.agg (ptCells (Tx.idOf false t) z).toArray)∧Below w.heap.size w w':=by
  obtain⟨W1,hW1⟩:∃ x,x=(w.alloc (.cells #[.slice a n q,.slice b m r,.bool f] 34)).alloc (.cells zPt 58):=⟨_,rfl⟩
  have hBw:Below w.heap.size w W1:=by
    rw[hW1]
    exact((Below.refl _ w).alloc (Nat.le_refl _) _).alloc (by simp) _
  have hX:Has W1 w.heap.size 34 #[.slice a n q,.slice b m r,.bool f]:=by rw[hW1];exact(Has.fresh w _ _).past _
  have hR:Has W1 (w.heap.size+1) 58 zPt:=by rw[hW1];exact Has.fresh_at _ _ _ (by simp)
  have lX:=hX.load_agg (P:=Tryz.prog) (t:=34) Tryz.underlying34 rfl (by kernel_rfl)
  have HW:=Lib.hid hW1
  have HT:=Lib.hid (ht.below hBw)
  have HS:=Lib.hid hs
  have HK:=Lib.hid (hK.below hBw)
  have HF:=Lib.hid hf
  obtain⟨D,hDd⟩:∃ D,D=Tx.idOf false t:=⟨_,rfl⟩
  have HD:=Lib.hid (show Tx.idOf false t=D∧D.length=32 from⟨hDd.symm,by rw[hDd];exact Tx.idOf_len _ _⟩)
  obtain⟨g1,hg1⟩:∃ g,g=w.heap.size:=⟨_,rfl⟩
  have HG:=Lib.hid hg1
  rw[← hg1] at lX hR
  clear hW1 ht hs hX hK hDd hg1 hf
  rw[HD.out.1]
  obtain⟨PC,hPC⟩:∃ P,P=(ptCells D z).toArray:=⟨_,rfl⟩
  have HP:=Lib.hid (show PC=(ptCells D z).toArray∧PC.size=33 from⟨hPC,by rw[hPC,List.size_toArray,ptCells_len HD.out.2]⟩)
  have hone:PC.all (·.oneCell')=true:=by rw[hPC];exact pt_one D z
  have hszP:(Tryz.prog.info? 58).map (·.size)=some PC.size:=by rw[HP.out.2];kernel_rfl
  have HO:=Lib.hid (And.intro hszP hone)
  rw[← hPC]
  clear hPC hone hszP
  go_enter Tryz.func41,Tryz.ntmps41
  go_upto_region 1 with fail
  rw[← HW.out,← HG.out]
  go_wp2_with (first
    | (refine wpList_store_mid rfl 58 (.tmp 4) (.tmp 8) rfl (g1+1) 0 PC rfl rfl hth HO.out.1 HO.out.2 ?_)
    | (refine wpList_build_pt (PC:=PC) rfl (.tmp 6) (.tmp 7) rfl D z rfl rfl HP.out.1 HD.out.2 ?_)
    | (go_at_call 42;refine(pid_any a n q b m r t f HF.out W1 HT.out HS.out HK.out).mono ?_;rw[HD.out.1];rintro e w5 ⟨rfl,hb5⟩;have hR5:=hR.under hb5 hR.lt;have hth:=hR5.there 0 PC.size (by rw[HP.out.2];decide);have hB5:=hBw.trans (hb5.mono hBw.size))
    | (refine wpList_load_run rfl 34 (.tmp 1) rfl _ _ rfl lX ?_)
    | (refine wpList_load_run rfl 34 (.tmp 2) rfl _ _ rfl lX ?_))
  have hE:=hR5.whole_cs (cs2:=PC) (by rw[HP.out.2];rfl)
  exact bodyPost_ret (results_one_cell rfl _ _ (g1+1) rfl _ (hE.load_var Tryz.underlying58 rfl HO.out.1)) rfl ⟨rfl,below_setAll (by have:=HG.out;omega) _ 0 hB5⟩
end Go.Proofs.YtijemcfnlbapjaaGreatDoor
namespace Go.Proofs.YtijemcfnlbapjaaGreatDoor
open Go Go.RowKit Go.ChangeShapes Go.WideShapes
namespace Gr
def hsV (h:List (BitVec 8)):Value:=.agg (blist h).toArray
def ptrV:Option Nat→Value
  | some a=>.pointer (some ⟨a,0,none⟩)
  | none=>.pointer none
structure Nd where
  x:Tx.V
  id:List (BitVec 8)
  fee:Int
  wt:Int
  pl:Nat
  g:Nat
def Nd.cells (x:Nd):List Value:=vCells x.x++(blist x.id++[.int .i64 x.fee,.int .i64 x.wt,.int .i64 x.pl])
def Nd.pts (x:Nd):List Cs.Pt:=x.x.t.sp.map fun s=>(s.h,s.n)
end Gr
theorem Gr.load_mid {P:Program} {w:World} {g:Nat} {T t:TypeId} {cs:Array Value} {d:TypeDesc} (h:Has w g T cs) (off:Nat) (sub:List Value) (hsub:∀ (j:Nat) (v:Value),sub[j]? = some v→cs[off+j]? = some v)
    (hu:P.underlying t=some d) (hd:d.isRow=true) (hi:(P.info? t).map (·.size)=some sub.length):(Instr.loadAt t (.pointer (some ⟨g,off,none⟩))).run P w=.ok (.agg sub.toArray) w:=by
  have h1:=run_loadVar_mid (P:=P) w g off t sub d (fun j v hj=>by rw[h.cell];exact hsub j v hj) hu hd hi
  simp only[Instr.loadAt,Instr.sureAddr,Sem.run_bind,Sem.run_pure,Result.andThen_ok,h1]
set_option maxRecDepth 100000 in
theorem run_checkHs32 (em:Bool) (w:World) (d0 d1 d2 d3 d4 d5 d6 d7 d8 d9 d10 d11 d12 d13 d14 d15 d16 d17 d18 d19 d20 d21 d22 d23 d24 d25 d26 d27 d28 d29 d30 d31:BitVec 8):(Instr.checkKey em 10000 46 (.agg (blist [d0,d1,d2,d3,d4,d5,d6,d7,d8,d9,d10,d11,d12,d13,d14,d15,d16,d17,d18,d19,d20,d21,d22,d23,d24,d25,d26,d27,d28,d29,d30,d31]).toArray)).run Tryz.prog w=.ok () w:=by kernel_rfl
theorem run_checkHs (em:Bool) (w:World):∀ (p:List (BitVec 8)),p.length=32→(Instr.checkKey em 10000 46 (Gr.hsV p)).run Tryz.prog w=.ok () w
  | [d0,d1,d2,d3,d4,d5,d6,d7,d8,d9,d10,d11,d12,d13,d14,d15,d16,d17,d18,d19,d20,d21,d22,d23,d24,d25,d26,d27,d28,d29,d30,d31],_=>run_checkHs32 em w d0 d1 d2 d3 d4 d5 d6 d7 d8 d9 d10 d11 d12 d13 d14 d15 d16 d17 d18 d19 d20 d21 d22 d23 d24 d25 d26 d27 d28 d29 d30 d31
theorem same_hs (p:List (BitVec 8)):Instr.sameBits 10000 (Gr.hsV p) (Gr.hsV p)=true:=by
  have h:=same_ints (blist p) (blist_ints p)
  show(_==_&&_)=true
  rw[beq_self_eq_true,Bool.true_and]
  exact h
theorem keep_hs (w:World) (p:List (BitVec 8)):(Instr.keyThatStays (Gr.hsV p) (Gr.hsV p)).run Tryz.prog w=.ok (Gr.hsV p) w:=by
  simp[Instr.keyThatStays,same_hs p]
theorem eq_hsG (w:World) (k k':List (BitVec 8)) (h:k.length=32) (h':k'.length=32):(Op.equalIn 10000 46 (Gr.hsV k) (Gr.hsV k')).run Tryz.prog w=.ok (decide (k=k')) w:=
  run_equal_bytes (P:=Tryz.prog) w (d:=9998) Tryz.underlying46 Tryz.underlying5 (by kernel_rfl) k k' h h'
theorem eq_ptG (w:World) (k k':Cs.Pt) (h:Cs.ptOk k) (h':Cs.ptOk k'):(Op.equalIn 10000 58 (Cs.ptV k) (Cs.ptV k')).run Tryz.prog w=.ok (decide (k=k')) w:=by
  have he:=run_eq_point w 9997 k.1 k'.1 k.2 k'.2 h.1 h'.1
  have hd:decide (k.1=k'.1∧k.2=k'.2)=decide (k=k'):=decide_eq_decide.2 ⟨fun e=>Prod.ext e.1 e.2,fun e=>by rw[e];exact⟨rfl,rfl⟩⟩
  rw[hd] at he
  exact he
def Gr.dH:MapT Tryz.prog (List (BitVec 8)) (Option Nat) where
  tm:=90
  tk:=46
  te:=104
  kv:=Gr.hsV
  kok:=fun h=>h.length=32
  vv:=Gr.ptrV
  vok:=fun o=>o.isSome=true
  z:=none
  under:=Tryz.underlying90
  find:=fun w k es=>run_findKey_eq (P:=Tryz.prog) (w:=w) (k:=46) (by rw[Tryz.underlying46]) (Gr.hsV k) es
  check:=fun em w k hk=>run_checkHs em w k hk
  eq:=eq_hsG
  keep:=keep_hs
  zero:=fun w=>by kernel_rfl
def Gr.dP:MapT Tryz.prog Cs.Pt (Option Nat) where
  tm:=91
  tk:=58
  te:=104
  kv:=Cs.ptV
  kok:=Cs.ptOk
  vv:=Gr.ptrV
  vok:=fun o=>o.isSome=true
  z:=none
  under:=Tryz.underlying91
  find:=fun w k es=>run_findKey_eq (P:=Tryz.prog) (w:=w) (k:=58) (by rw[Tryz.underlying58]) (Cs.ptV k) es
  check:=fun em w k hk=>run_checkPt em w k hk.1
  eq:=eq_ptG
  keep:=keep_pt
  zero:=fun w=>by kernel_rfl
namespace Gr
abbrev ents (L:List Nd):List (List (BitVec 8)×Option Nat):=L.map fun x=>(x.id,some x.g)
structure NdAt (w:World) (x:Nd):Prop where
  has:Has w x.g 106 x.cells.toArray
  own:TxOwn 0 w x.x.a x.x.n x.x.q x.x.b x.x.m x.x.r x.x.t
  id:x.id.length=32
  sm:Tx.Small x.x.t
  ck:Tx.check x.x.t=0
def Nd.F (x:Nd):Nat→Prop:=fun j=>j=x.g∨(Value.slice x.x.a x.x.n x.x.q).ownBlock=some j∨(Value.slice x.x.b x.x.m x.x.r).ownBlock=some j
structure GrpAt (w:World) (b:Nat) (L:List Nd):Prop where
  map:MapG dH w b (ents L)
  nd:∀ x,x∈L→NdAt w x
end Gr
namespace Gr
def find (M:List Nd) (id:List (BitVec 8)):Option Nd:=M.find? fun x=>decide (id=x.id)
theorem idx_ents (M:List Nd) (id:List (BitVec 8)):(Mp.idx id (ents M)).map (·.2)=(find M id).map fun x=>some x.g:=by
  induction M with
  | nil=>rfl
  | cons x M ih=>
    unfold Mp.idx find
    rw[List.find?_cons]
    by_cases hx:id=x.id
    · simp[ents,hx]
    · have e:decide (id=x.id)=false:=decide_eq_false hx
      simp only[ents,List.map_cons] at ih ⊢
      rw[if_neg hx,e,Option.map_map]
      exact ih
theorem look_ents (M:List Nd) (id:List (BitVec 8)):Mp.look (ents M) id=(find M id).map fun x=>some x.g:=idx_ents M id
theorem find_mem {M:List Nd} {id:List (BitVec 8)} {x:Nd} (h:find M id=some x):x∈M∧x.id=id:=by
  refine⟨List.mem_of_find?_eq_some h,?_⟩
  have:=List.find?_some h
  exact(of_decide_eq_true this).symm
theorem find_none {M:List Nd} {id:List (BitVec 8)} : find M id=none↔∀ x,x∈M→x.id≠id:=by
  unfold find
  rw[List.find?_eq_none]
  refine⟨fun h x hx e=>h x hx (decide_eq_true e.symm),fun h x hx e=>h x hx (of_decide_eq_true e).symm⟩
def maker (M:List Nd) (p:Cs.Pt):Option Nd:=(find M p.1).filter fun x=>decide (0≤p.2∧p.2<x.x.m)
theorem maker_some {M:List Nd} {p:Cs.Pt} {x:Nd} : maker M p=some x↔find M p.1=some x∧0≤p.2∧p.2<x.x.m:=by
  unfold maker
  rw[Option.filter_eq_some_iff]
  simp
section
variable {w w':World} {x:Nd}
theorem cells_id (h:x.id.length=32) (j:Nat) (hj:j<32):x.cells[3+j]? = (blist x.id)[j]?:=by
  unfold Nd.cells
  rw[List.getElem?_append_right (by simp[vCells]),show(vCells x.x).length=3 from rfl,Nat.add_sub_cancel_left,List.getElem?_append_left (by rw[blist_length,h];exact hj)]
theorem cells_end (h:x.id.length=32) (j:Nat):x.cells[35+j]? = ([.int .i64 x.fee,.int .i64 x.wt,.int .i64 x.pl]:List Value)[j]?:=by
  unfold Nd.cells
  rw[List.getElem?_append_right (by simp[vCells];omega),show(vCells x.x).length=3 from rfl,List.getElem?_append_right (by rw[blist_length,h];omega),blist_length,h,show 35+j-3 - 32=j by omega]
theorem NdAt.sp (h:NdAt w x):w.cell? ⟨x.g,0,none⟩=some (.slice x.x.a x.x.n x.x.q):=h.has.cell_at rfl
theorem NdAt.co (h:NdAt w x):w.cell? ⟨x.g,1,none⟩=some (.slice x.x.b x.x.m x.x.r):=h.has.cell_at rfl
theorem NdAt.fee (h:NdAt w x):w.cell? ⟨x.g,35,none⟩=some (.int .i64 x.fee):=h.has.cell_at (by rw[List.getElem?_toArray];exact cells_end h.id 0)
theorem NdAt.wt (h:NdAt w x):w.cell? ⟨x.g,36,none⟩=some (.int .i64 x.wt):=h.has.cell_at (by rw[List.getElem?_toArray];exact cells_end h.id 1)
theorem NdAt.pl (h:NdAt w x):w.cell? ⟨x.g,37,none⟩=some (.int .i64 x.pl):=h.has.cell_at (by rw[List.getElem?_toArray];exact cells_end h.id 2)
theorem NdAt.lid (h:NdAt w x):(Instr.loadAt 46 (.pointer (some ⟨x.g,3,none⟩))).run Tryz.prog w=.ok (.agg (blist x.id).toArray) w:=
  Gr.load_mid h.has 3 (blist x.id) (fun j v hj=>by
    have hl:j<32:=by have:=(List.getElem?_eq_some_iff.1 hj).1;rw[blist_length,h.id] at this;exact this
    rw[List.getElem?_toArray,cells_id h.id j hl]
    exact hj) Tryz.underlying46 rfl (by rw[blist_length,h.id];kernel_rfl)
theorem NdAt.ltx (h:NdAt w x):(Instr.loadAt 34 (.pointer (some ⟨x.g,0,none⟩))).run Tryz.prog w=.ok (txv x.x.a x.x.n x.x.q x.x.b x.x.m x.x.r x.x.t.firm) w:=
  Gr.load_mid h.has 0 (vCells x.x) (fun j v hj=>by
    rw[Nat.zero_add,List.getElem?_toArray]
    unfold Nd.cells
    rw[List.getElem?_append_left (List.getElem?_eq_some_iff.1 hj).1]
    exact hj) Tryz.underlying34 rfl (by kernel_rfl)
theorem NdAt.moved {G:Nat→Prop} (h:NdAt w x) (hm:Moved G w w') (hF:∀ j,x.F j→¬ G j):NdAt w' x:=
  ⟨h.has.moved hm (hF _ (.inl rfl)),⟨h.own.sp.moved hm (fun k hk=>hF k (.inr (.inl hk))),h.own.co.moved hm (fun k hk=>hF k (.inr (.inr hk)))⟩,h.id,h.sm,h.ck⟩
theorem NdAt.below (h:NdAt w x) (hb:Below w.heap.size w w'):NdAt w' x:=h.moved (G:=fun _=>False) (Moved.of_below hb) (fun _ _ e=>e)
theorem NdAt.lt (h:NdAt w x) {j:Nat} (hj:x.F j):j<w.heap.size:=by
  rcases hj with rfl | hj | hj
  · exact h.has.lt
  · exact(h.own.sp.lt_size j hj).2
  · exact(h.own.co.lt_size j hj).2
theorem NdAt.at (h:NdAt w x):x.x.At w:=h.own.at
theorem GrpAt.moved {G:Nat→Prop} {b:Nat} {M:List Nd} (h:GrpAt w b M) (hm:Moved G w w') (hb:¬ G b) (hF:∀ x,x∈M→∀ j,x.F j→¬ G j):GrpAt w' b M:=
  ⟨h.map.moved hm hb,fun x hx=>(h.nd x hx).moved hm (hF x hx)⟩
theorem GrpAt.below {b:Nat} {M:List Nd} (h:GrpAt w b M) (hb:Below w.heap.size w w'):GrpAt w' b M:=h.moved (G:=fun _=>False) (Moved.of_below hb) (fun e=>e) (fun _ _ _ _ e=>e)
end
end Gr
end Go.Proofs.YtijemcfnlbapjaaGreatDoor
namespace Go.Proofs.YtijemcfnlbapjaaGreatDoor
open Go Go.RowKit
def sortNd_ren:Go.Shelf.Ren:=⟨fun | 6=>93 | 15=>111 | 14=>110 | 28=>135 | 29=>136 | 20=>127 | 21=>128 | 22=>129 | 23=>130 | 24=>131 | 25=>132 | 26=>133 | 27=>134 | 46=>142 | 47=>143 | 48=>144 | 49=>145 | 50=>146 | 57=>151 | n=>n,fun | 22=>122 | 24=>104 | 25=>142 | 3=>3 | 39=>157 | 0=>0 | 53=>158 | 55=>59 | 4=>4 | 46=>180 | 45=>179 | 50=>184 | 5=>5 | 9=>9 | 66=>196 | 70=>200 | 76=>205 | 77=>147 | n=>n,fun | n=>n⟩
theorem sortNd:Go.Proofs.SlLaysF.n6 Tryz.prog sortNd_ren where
  mixed:=by kernel_rfl
  f6:=⟨ "slices.SortFunc[[]*gossamer/graph.node,*gossamer/graph.node]",by decide,Tryz.func93.trans (congrArg some (by kernel_rfl))⟩
  f14:=⟨ "slices.pdqsortCmpFunc[*gossamer/graph.node]",by decide,Tryz.func110.trans (congrArg some (by kernel_rfl))⟩
  f15:=Tryz.func111.trans (congrArg some (by kernel_rfl))
  f20:=⟨ "slices.insertionSortCmpFunc[*gossamer/graph.node]",by decide,Tryz.func127.trans (congrArg some (by kernel_rfl))⟩
  f21:=⟨ "slices.heapSortCmpFunc[*gossamer/graph.node]",by decide,Tryz.func128.trans (congrArg some (by kernel_rfl))⟩
  f22:=⟨ "slices.breakPatternsCmpFunc[*gossamer/graph.node]",by decide,Tryz.func129.trans (congrArg some (by kernel_rfl))⟩
  f23:=⟨ "slices.choosePivotCmpFunc[*gossamer/graph.node]",by decide,Tryz.func130.trans (congrArg some (by kernel_rfl))⟩
  f24:=⟨ "slices.reverseRangeCmpFunc[*gossamer/graph.node]",by decide,Tryz.func131.trans (congrArg some (by kernel_rfl))⟩
  f25:=⟨ "slices.partialInsertionSortCmpFunc[*gossamer/graph.node]",by decide,Tryz.func132.trans (congrArg some (by kernel_rfl))⟩
  f26:=⟨ "slices.partitionEqualCmpFunc[*gossamer/graph.node]",by decide,Tryz.func133.trans (congrArg some (by kernel_rfl))⟩
  f27:=⟨ "slices.partitionCmpFunc[*gossamer/graph.node]",by decide,Tryz.func134.trans (congrArg some (by kernel_rfl))⟩
  f28:=Tryz.func135.trans (congrArg some (by kernel_rfl))
  f29:=Tryz.func136.trans (congrArg some (by kernel_rfl))
  f46:=⟨ "slices.siftDownCmpFunc[*gossamer/graph.node]",by decide,Tryz.func142.trans (congrArg some (by kernel_rfl))⟩
  f47:=Tryz.func143.trans (congrArg some (by kernel_rfl))
  f48:=Tryz.func144.trans (congrArg some (by kernel_rfl))
  f49:=⟨ "slices.medianAdjacentCmpFunc[*gossamer/graph.node]",by decide,Tryz.func145.trans (congrArg some (by kernel_rfl))⟩
  f50:=⟨ "slices.medianCmpFunc[*gossamer/graph.node]",by decide,Tryz.func146.trans (congrArg some (by kernel_rfl))⟩
  f57:=⟨ "slices.order2CmpFunc[*gossamer/graph.node]",by decide,Tryz.func151.trans (congrArg some (by kernel_rfl))⟩
  t0:=Tryz.underlying0
  a0:=Tryz.isAgg0
  z0:=Tryz.sizeOf0
  v0:=Tryz.zeroValue0
  t3:=Tryz.underlying3
  a3:=Tryz.isAgg3
  z3:=Tryz.sizeOf3
  v3:=Tryz.zeroValue3
  t4:=Tryz.underlying4
  a4:=Tryz.isAgg4
  z4:=Tryz.sizeOf4
  v4:=Tryz.zeroValue4
  t5:=Tryz.underlying5
  a5:=Tryz.isAgg5
  z5:=Tryz.sizeOf5
  v5:=Tryz.zeroValue5
  t9:=Tryz.underlying9
  a9:=Tryz.isAgg9
  z9:=Tryz.sizeOf9
  v9:=Tryz.zeroValue9
  t22:=Tryz.underlying122
  a22:=Tryz.isAgg122
  z22:=Tryz.sizeOf122
  v22:=Tryz.zeroValue122
  a24:=Tryz.isAgg104
  z24:=Tryz.sizeOf104
  t25:=Tryz.underlying142
  a25:=Tryz.isAgg142
  z25:=Tryz.sizeOf142
  v25:=Tryz.zeroValue142
  t39:=Tryz.underlying157
  a39:=Tryz.isAgg157
  z39:=Tryz.sizeOf157
  v39:=Tryz.zeroValue157
  t45:=Tryz.underlying179
  a45:=Tryz.isAgg179
  z45:=Tryz.sizeOf179
  v45:=Tryz.zeroValue179
  t46:=Tryz.underlying180
  a46:=Tryz.isAgg180
  z46:=Tryz.sizeOf180
  v46:=Tryz.zeroValue180
  t50:=Tryz.underlying184
  a50:=Tryz.isAgg184
  z50:=Tryz.sizeOf184
  v50:=Tryz.zeroValue184
  t53:=Tryz.underlying158
  a53:=Tryz.isAgg158
  z53:=Tryz.sizeOf158
  v53:=Tryz.zeroValue158
  t55:=Tryz.underlying59
  a55:=Tryz.isAgg59
  z55:=Tryz.sizeOf59
  v55:=Tryz.zeroValue59
  t66:=Tryz.underlying196
  a66:=Tryz.isAgg196
  z66:=Tryz.sizeOf196
  v66:=Tryz.zeroValue196
  t70:=Tryz.underlying200
  a70:=Tryz.isAgg200
  z70:=Tryz.sizeOf200
  v70:=Tryz.zeroValue200
  t76:=Tryz.underlying205
  a76:=Tryz.isAgg205
  z76:=Tryz.sizeOf205
  v76:=Tryz.zeroValue205
  t77:=Tryz.underlying147
  a77:=Tryz.isAgg147
  z77:=Tryz.sizeOf147
  v77:=Tryz.zeroValue147
end Go.Proofs.YtijemcfnlbapjaaGreatDoor
namespace Go.Proofs.YtijemcfnlbapjaaGreatDoor
open Go Go.RowKit Go.ChangeShapes Go.WideShapes
namespace Gr
end Gr
theorem size_hs {l:List (BitVec 8)} (h:l.length=32):(Tryz.prog.info? 46).map (·.size)=some (blist l).toArray.size:=by
  rw[List.size_toArray,blist_length,h]
  kernel_rfl
theorem gsize_pt {p:Cs.Pt} (hp:p.1.length=32):(Tryz.prog.info? 58).map (·.size)=some (ptCells p.1 p.2).toArray.size:=by
  rw[List.size_toArray,ptCells_len hp]
  kernel_rfl
set_option maxHeartbeats 4000000 in
theorem gall_any {w:World} {g bn:Nat} {v1 v2:Value} (h:Has w g 93 #[.map (some bn),v1,v2]):Calls Tryz.prog 56 #[.pointer (some ⟨g,0,none⟩)] w fun e w2=>e=.returned (.map (some bn))∧w=w2:=by
  have c0:w.cell? ⟨g,0,none⟩=some (.map (some bn)):=h.cell_at rfl
  go_enter Tryz.func56,Tryz.ntmps56
  go_wp2
  go_ret
  exact⟨rfl,rfl⟩
set_option maxHeartbeats 4000000 in
theorem glen_any {w:World} {g bn:Nat} {v1 v2:Value} {M:List (List (BitVec 8)×Option Nat)} (h:Has w g 93 #[.map (some bn),v1,v2]) (hm:MapG Gr.dH w bn M):Calls Tryz.prog 39 #[.pointer (some ⟨g,0,none⟩)] w fun e w'=>e=.returned (.int .i64 M.length)∧Below w.heap.size w w':=by
  have HA:=gall_any h
  go_enter Tryz.func39,Tryz.ntmps39
  go_wp2_with (first
    | (go_at_call 56;refine HA.mono ?_;rintro e w2 ⟨rfl,rfl⟩)
    | (refine wpList_len_g (D:=Gr.dH) rfl (.tmp 4) rfl rfl hm ?_))
  go_ret
  exact⟨rfl,Below.refl _ _⟩
set_option maxRecDepth 100000 in
set_option maxHeartbeats 8000000 in
theorem ghas_any {w:World} {g bn:Nat} {v1 v2:Value} {M:List (List (BitVec 8)×Option Nat)} (h:Has w g 93 #[.map (some bn),v1,v2]) (hm:MapG Gr.dH w bn M) (id:List (BitVec 8)) (hid:id.length=32) :
    Calls Tryz.prog 38 #[.pointer (some ⟨g,0,none⟩),.agg (blist id).toArray] w fun e w'=>e=.returned (.bool (Mp.look M id).isSome)∧Below w.heap.size w w':=by
  obtain⟨o,ho⟩:∃ o,o=(Mp.look M id).isSome:=⟨_,rfl⟩
  obtain⟨x,hx⟩:∃ x,x=Gr.ptrV ((Mp.look M id).getD none):=⟨_,rfl⟩
  rw[← ho]
  have HGOT:=Lib.hid (show Mp.got Gr.dH M id true=.tuple #[x,.bool o] by rw[hx,ho];rfl)
  clear hx ho
  obtain⟨W1,hW1⟩:∃ ww,ww=w.alloc (.cells (blist id).toArray 46):=⟨_,rfl⟩
  have hB1:Below w.heap.size w W1:=by rw[hW1];exact(Below.refl _ _).alloc (Nat.le_refl _) _
  have hP1:Has W1 w.heap.size 46 (blist id).toArray:=by rw[hW1];exact Has.fresh _ _ _
  have HW1:=Lib.hid hW1
  clear hW1
  go_enter Tryz.func38,Tryz.ntmps38
  go_upto_region 1 with fail
  rw[← HW1.out]
  obtain⟨ws,hws⟩:∃ ww,ww=W1.drew:=⟨_,rfl⟩
  have hBs:Below w.heap.size w ws:=by rw[hws];exact hB1.drew
  have hPs:Has ws w.heap.size 46 (blist id).toArray:=by rw[hws];exact hP1.draw
  have lP:=fun(wq:World) (hSw:Held ws wq)=>(hPs.under hSw.below hPs.lt).load_agg (P:=Tryz.prog) (t:=46) Tryz.underlying46 rfl (size_hs hid)
  have HM:=Lib.hid (fun(wq:World) (hSw:Held ws wq)=>(hm.below hBs).below hSw.below)
  have HA:=fun(wq:World) (hSw:Held ws wq)=>gall_any ((h.under hBs h.lt).under hSw.below (h.under hBs h.lt).lt)
  refine wp_region_held_drew (S:=Held ws) (by kernel_rfl) (by rw[hws];exact Held.refl _) (fun hHeld=>?_)
  rw[← hws] at hHeld ⊢
  clear hws hB1 hP1 HW1
  refine tka (v:=?_) 0 8 rfl rfl hHeld (Or.inl ⟨by rfl,?_⟩) rfl ?_
  rotate_left
  · intro wq hSw
    go_simp
    try with_reducible rfl
  simp only[ts0,ts1]
  refine tka 2 10 rfl rfl hHeld (yieldsIf_load_agg (by rfl) 46 (.tmp 3) rfl _ _ (by rfl) (fun wq hSw=>lP wq hSw)) rfl ?_
  simp only[ts0,ts1]
  refine wpAnyH_ready (rs:=[1]) (by kernel_rfl) (by simp) ?_
  refine AllReadyH.cons rfl (fun K hK=>?_) AllReadyH.nil
  go_simp
  go_at_call 56
  refine(HA _ hHeld).mono ?_
  rintro e w2 ⟨rfl,rfl⟩
  refine hK.out _ _ hHeld (fun _=>?_)
  clear hK K
  try simp only[Act.put,List.setIfInBounds_toArray,ts0,ts1]
  refine tka 3 11 rfl rfl hHeld (yieldsIf_lookup_g (D:=Gr.dH) (M:=M) (b:=bn) (by rfl) (.tmp 9) (.tmp 10) true (by rfl) (by rfl) id (by rfl) hid (fun wq hSw=>HM.out wq hSw)) rfl ?_
  simp only[ts0,ts1]
  rw[HGOT.out]
  refine tka (v:=?_) 4 7 rfl rfl hHeld (Or.inl ⟨by rfl,?_⟩) rfl ?_
  rotate_left
  · intro wq hSw
    go_simp
    try with_reducible rfl
  simp only[ts0,ts1]
  refine tka (v:=?_) 5 12 rfl rfl hHeld (Or.inl ⟨by rfl,?_⟩) rfl ?_
  rotate_left
  · intro wq hSw
    go_simp
    try with_reducible rfl
  simp only[ts0,ts1]
  refine tka (v:=?_) 6 13 rfl rfl hHeld (Or.inl ⟨by rfl,?_⟩) rfl ?_
  rotate_left
  · intro wq hSw
    go_simp
    try with_reducible rfl
  simp only[ts0,ts1]
  refine tka (v:=?_) 7 5 rfl rfl hHeld (Or.inl ⟨by rfl,?_⟩) rfl ?_
  rotate_left
  · intro wq hSw
    go_simp
    try with_reducible rfl
  simp only[ts0,ts1]
  refine tka (v:=?_) 8 6 rfl rfl hHeld (Or.inl ⟨by rfl,?_⟩) rfl ?_
  rotate_left
  · intro wq hSw
    go_simp
    try with_reducible rfl
  simp only[ts0,ts1]
  refine wpAnyH_done (by kernel_rfl) ?_ _
  go_wp2
  go_ret
  exact⟨rfl,hBs⟩
end Go.Proofs.YtijemcfnlbapjaaGreatDoor
