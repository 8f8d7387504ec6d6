/- transactions: as lists, as cells, as arguments; which are the same · spends, coins, points compared · A map of points to coins: what it holds, key by key; what the operations on it answer · spends and coins read, in new memory; lists of transactions; what is large -/
import Derived.Test.YtijemcfnlbapjaaGreatDoorJ03
import Derived.Maps.OwnSet
import Derived.Lib.Hide
import Derived.IntWalk
import Derived.BigQuiet
import Derived.Deep.QuietTactic
import Derived.OpenShut
import Derived.ProofKit
import Derived.Deep.Cut
import Derived.Deep.RegionHeld3
namespace Go.Proofs.YtijemcfnlbapjaaGreatDoor
open Go Go.RowKit Go.ChangeShapes Go.WideShapes
namespace Tx
structure Sp where
  h:List (BitVec 8)
  n:Int
  key:List (BitVec 8)
  sl:BitVec 64
structure Co where
  v:Int
  lock:BitVec 64
structure T where
  sp:List Sp
  co:List Co
  firm:Bool
theorem sp_ext {a b:Sp} : a=b↔a.h=b.h∧a.n=b.n∧a.key=b.key∧a.sl=b.sl:=by
  cases a;cases b;simp
theorem co_ext {a b:Co} : a=b↔a.v=b.v∧a.lock=b.lock:=by
  cases a;cases b;simp
theorem t_ext {a b:T} : a=b↔a.sp=b.sp∧a.co=b.co∧a.firm=b.firm:=by
  cases a;cases b;simp
instance:DecidableEq Sp:=fun _ _=>decidable_of_iff _ sp_ext.symm
instance:DecidableEq Co:=fun _ _=>decidable_of_iff _ co_ext.symm
instance:DecidableEq T:=fun _ _=>decidable_of_iff _ t_ext.symm
def SpOk (s:Sp):Prop:=s.h.length=32∧(-9223372036854775808≤s.n∧s.n<9223372036854775808)∧s.key.length≤maxLen
def CoOk (c:Co):Prop:=-9223372036854775808≤c.v∧c.v<9223372036854775808
end Tx
def spCells (s:Tx.Sp):List Value:=blist s.h++[.int .i64 s.n,.string (strB s.key),.int .u64 (nb64 s.sl)]
def coCells (c:Tx.Co):List Value:=[.int .i64 c.v,.int .u64 (nb64 c.lock)]
theorem spCells_len {s:Tx.Sp} (h:s.h.length=32):(spCells s).length=35:=by simp[spCells,blist_length,h]
def spRec:Rec Tx.Sp where
  k:=35
  cells:=spCells
  ok:=Tx.SpOk
  pos:=by omega
  len t h:=spCells_len h.1
  one t v hv:=by
    unfold spCells at hv
    rcases List.mem_append.1 hv with h | h
    · exact blist_one _ v h
    · simp at h
      rcases h with rfl | rfl | rfl<;>rfl
def coRec:Rec Tx.Co where
  k:=2
  cells:=coCells
  ok:=Tx.CoOk
  pos:=by omega
  len t _:=rfl
  one t v hv:=by
    simp[coCells] at hv
    rcases hv with rfl | rfl<;>rfl
section
variable {H:Type} {enc:TypeId×Value→H} {w:World} {base:Nat} {spare:Nat→Bool} {held:Bool}
theorem at_one {cs:List Value} (j:Nat) (v:Value) (e:(cs.drop j).take 1=[v]):cs[j]? = some v:=by
  have:=congrArg (fun l:List Value=>l[0]?) e
  simpa [List.getElem?_take,List.getElem?_drop] using this
theorem open_point {fuel:Nat} {cs:List Value} {x:DataW H×List MemPlace} (h:DataW.trod enc Tryz.prog w base spare held fuel 58 cs=some x) :
    ∃ (l:List (BitVec 8)) (n:Int),cs=blist l++[.int .i64 n]∧l.length=32∧(-9223372036854775808≤n∧n<9223372036854775808):=by
  obtain⟨xs,m,_,_,hlen,hxl,hg⟩:=DataW.trod_struct Tryz.underlying58 h
  have hl:cs.length=33:=hlen.trans (by kernel_rfl)
  have hx2:xs.length=2:=hxl
  have c1:Tryz.prog.cellsOf 3=1:=by kernel_rfl
  have c4:Tryz.prog.cellsOf 46=32:=by kernel_rfl
  have g0:DataW.trod enc Tryz.prog w base spare held m 46 ((cs.drop 0).take (Tryz.prog.cellsOf 46))=xs[0]?:=hg 0 _ rfl
  have g1:DataW.trod enc Tryz.prog w base spare held m 3 ((cs.drop 32).take (Tryz.prog.cellsOf 3))=xs[1]?:=hg 1 _ rfl
  rw[List.getElem?_eq_getElem (by omega)] at g0 g1
  rw[c4] at g0
  rw[c1] at g1
  obtain⟨l,e0,l0⟩:=open_bytes32 Tryz.underlying46 Tryz.underlying5 (by kernel_rfl) c4 g0
  obtain⟨z1,e1,_,b1⟩:=DataW.trod_int Tryz.underlying3 g1
  have k1:=bounds_i64 b1
  refine⟨l,z1,?_,l0,by omega⟩
  have h2:cs=cs.take 32++cs.drop 32:=(List.take_append_drop 32 cs).symm
  have h3:cs.drop 32=[.int .i64 z1]:=by
    rw[← e1]
    exact(List.take_of_length_le (by simp[hl])).symm
  rw[h2,h3,← e0]
  rfl
theorem open_spend {fuel:Nat} {cs:List Value} {x:DataW H×List MemPlace} (h:DataW.trod enc Tryz.prog w base spare held fuel 61 cs=some x):∃ s:Tx.Sp,cs=spCells s∧Tx.SpOk s:=by
  obtain⟨xs,m,_,_,hlen,hxl,hg⟩:=DataW.trod_struct Tryz.underlying61 h
  have hl:cs.length=35:=hlen.trans (by kernel_rfl)
  have hx3:xs.length=3:=hxl
  have c2:Tryz.prog.cellsOf 59=1:=by kernel_rfl
  have c3:Tryz.prog.cellsOf 9=1:=by kernel_rfl
  have c4:Tryz.prog.cellsOf 58=33:=by kernel_rfl
  have g0:DataW.trod enc Tryz.prog w base spare held m 58 ((cs.drop 0).take (Tryz.prog.cellsOf 58))=xs[0]?:=hg 0 _ rfl
  have g1:DataW.trod enc Tryz.prog w base spare held m 9 ((cs.drop 33).take (Tryz.prog.cellsOf 9))=xs[1]?:=hg 1 _ rfl
  have g2:DataW.trod enc Tryz.prog w base spare held m 59 ((cs.drop 34).take (Tryz.prog.cellsOf 59))=xs[2]?:=hg 2 _ rfl
  rw[List.getElem?_eq_getElem (by omega)] at g0 g1 g2
  rw[c4] at g0
  rw[c3] at g1
  rw[c2] at g2
  obtain⟨l,n,e0,l0,hn⟩:=open_point g0
  obtain⟨s,e1,_,b1⟩:=DataW.trod_string Tryz.underlying9 g1
  obtain⟨z2,e2,_,b2⟩:=DataW.trod_int Tryz.underlying59 g2
  obtain⟨x2,rfl⟩:=u64_of_bounds (bounds_u64 b2).1 (by have:=(bounds_u64 b2).2;omega)
  obtain⟨k,rfl⟩:=str_of s
  refine⟨⟨l,n,k,x2⟩,?_,l0,hn,by rw[strB_size] at b1;exact b1⟩
  have a1:=at_one 33 _ e1
  have a2:=at_one 34 _ e2
  have h2:cs=cs.take 33++cs.drop 33:=(List.take_append_drop 33 cs).symm
  have h3:cs.drop 33=[.string (strB k),.int .u64 (nb64 x2)]:=by
    apply List.ext_getElem?
    intro j
    rw[List.getElem?_drop]
    match j with
    | 0=>exact a1
    | 1=>exact a2
    | j+2=>rw[List.getElem?_eq_none (by omega)];rfl
  rw[List.drop_zero] at e0
  rw[h2,h3,e0]
  unfold spCells
  simp
theorem open_coin {fuel:Nat} {cs:List Value} {x:DataW H×List MemPlace} (h:DataW.trod enc Tryz.prog w base spare held fuel 74 cs=some x):∃ c:Tx.Co,cs=coCells c∧Tx.CoOk c:=by
  obtain⟨xs,m,_,_,hlen,hxl,hg⟩:=DataW.trod_struct Tryz.underlying74 h
  have hl:cs.length=2:=hlen.trans (by kernel_rfl)
  have hx2:xs.length=2:=hxl
  have c1:Tryz.prog.cellsOf 3=1:=by kernel_rfl
  have c2:Tryz.prog.cellsOf 59=1:=by kernel_rfl
  have g0:DataW.trod enc Tryz.prog w base spare held m 3 ((cs.drop 0).take (Tryz.prog.cellsOf 3))=xs[0]?:=hg 0 _ rfl
  have g1:DataW.trod enc Tryz.prog w base spare held m 59 ((cs.drop 1).take (Tryz.prog.cellsOf 59))=xs[1]?:=hg 1 _ rfl
  rw[List.getElem?_eq_getElem (by omega)] at g0 g1
  rw[c1] at g0
  rw[c2] at g1
  obtain⟨z0,e0,_,b0⟩:=DataW.trod_int Tryz.underlying3 g0
  obtain⟨z1,e1,_,b1⟩:=DataW.trod_int Tryz.underlying59 g1
  obtain⟨x1,rfl⟩:=u64_of_bounds (bounds_u64 b1).1 (by have:=(bounds_u64 b1).2;omega)
  have k0:=bounds_i64 b0
  refine⟨⟨z0,x1⟩,?_,by show _∧_;dsimp only;omega⟩
  have a0:=at_one 0 _ e0
  have a1:=at_one 1 _ e1
  apply List.ext_getElem?
  intro j
  match j with
  | 0=>exact a0
  | 1=>exact a1
  | j+2=>rw[List.getElem?_eq_none (by omega)];rfl
end
abbrev txv (a:Option Addr) (n q:Nat) (b:Option Addr) (m r:Nat) (f:Bool):Value:=.agg #[.slice a n q,.slice b m r,.bool f]
structure TxAt (w:World) (a:Option Addr) (n q:Nat) (b:Option Addr) (m r:Nat) (t:Tx.T):Prop where
  sp:Recs spRec w a n t.sp
  co:Recs coRec w b m t.co
  nq:n≤q
  mr:m≤r
  q0:a=none→q=0
  r0:b=none→r=0
section
variable {w w':World} {a b:Option Addr} {n q m r:Nat} {t:Tx.T}
theorem TxAt.below (h:TxAt w a n q b m r t) (hb:Below w.heap.size w w'):TxAt w' a n q b m r t:=⟨h.sp.below hb,h.co.below hb,h.nq,h.mr,h.q0,h.r0⟩
end
section
variable {H:Type} {enc:TypeId×Value→H} {W:World} {base:Nat} {v:Value} {d:DataW H} {p:List MemPlace}
end
end Go.Proofs.YtijemcfnlbapjaaGreatDoor
namespace Go.Proofs.YtijemcfnlbapjaaGreatDoor
open Go Go.RowKit Go.ChangeShapes Go.WideShapes
section
variable {P:Program} (w:World)
theorem run_part_agg {t:TypeId} {d:TypeDesc} {k off:Nat} {cs:Array Value} (hu:P.underlying t=some d) (hd:d.isRow=true) (hs:(P.info? t).map (·.size)=some k):(part t cs off).run P w=.ok (.agg (cs.extract off (off+k))) w:=by
  cases hq:P.info? t with
  | none=>simp[hq] at hs
  | some j=>
    have hz:j.size=k:=by simpa [hq] using hs
    have hagg:(isAgg t).run P w=.ok true w:=by
      unfold isAgg
      rw[Sem.run_bind,run_underlying hu w]
      cases d<;>first | rfl | (exact absurd hd (by simp[TypeDesc.isRow]))
    simp[part,sizeOf,typeInfo,hq,hz,hagg]
theorem run_part_one {t:TypeId} {d:TypeDesc} {off:Nat} {cs:Array Value} {v:Value} (hu:P.underlying t=some d) (hd:d.isRow=false) (hv:cs[off]? = some v):(part t cs off).run P w=.ok v w:=by
  have hagg:(isAgg t).run P w=.ok false w:=by
    unfold isAgg
    rw[Sem.run_bind,run_underlying hu w]
    cases d<;>first | rfl | (exact absurd hd (by simp[TypeDesc.isRow]))
  simp[part,hagg,hv]
end
theorem eqFields_cons {P:Program} (w:World) (d:Nat) (xs ys:Array Value) (f:Field) (fs:List Field) (a b:Value) (r:Bool) (hn:f.name ≠"_") (h1:(part f.type xs f.offset).run P w=.ok a w) (h2:(part f.type ys f.offset).run P w=.ok b w) (h3:(Op.equalIn d f.type a b).run P w=.ok r w) :
    (Op.eqFields d xs ys (f :: fs)).run P w=if r=true then(Op.eqFields d xs ys fs).run P w else .ok false w:=by
  rw[Op.eqFields,if_pos hn,Sem.run_bind,h1,Result.andThen_ok,Sem.run_bind,h2,Result.andThen_ok,Sem.run_bind,h3,Result.andThen_ok]
  cases r
  · rfl
  · rfl
theorem eqFields_nil {P:Program} (w:World) (d:Nat) (xs ys:Array Value):(Op.eqFields d xs ys []).run P w=.ok true w:=rfl
def ptCells (l:List (BitVec 8)) (n:Int):List Value:=blist l++[.int .i64 n]
theorem ptCells_len {l:List (BitVec 8)} {n:Int} (h:l.length=32):(ptCells l n).length=33:=by simp[ptCells,blist_length,h]
theorem ptCells_last {l:List (BitVec 8)} {n:Int} (h:l.length=32):(ptCells l n).toArray[32]? = some (.int .i64 n):=by
  unfold ptCells
  rw[List.getElem?_toArray,List.getElem?_append_right (by rw[blist_length,h];omega),blist_length,h]
  rfl
theorem extract_front (l r:List Value) (k:Nat) (h:l.length=k):(l++r).toArray.extract 0 (0+k)=l.toArray:=by
  subst h
  apply Array.ext'
  simp
theorem run_eq_point (w:World) (d:Nat) (l m:List (BitVec 8)) (x y:Int) (hl:l.length=32) (hm:m.length=32) :
    (Op.equalIn (d+3) 58 (.agg (ptCells l x).toArray) (.agg (ptCells m y).toArray)).run Tryz.prog w=.ok (decide (l=m∧x=y)) w:=by
  rw[run_equalIn_struct w (d+2) _ _ _ (by simp only[Program.fieldsOf,Tryz.underlying58]) (by kernel_rfl)]
  simp only[Program.fieldsOf,Tryz.underlying58]
  have p1:=run_part_agg (P:=Tryz.prog) w (cs:=(ptCells l x).toArray) (off:=0) (k:=32) Tryz.underlying46 rfl (by kernel_rfl)
  have p2:=run_part_agg (P:=Tryz.prog) w (cs:=(ptCells m y).toArray) (off:=0) (k:=32) Tryz.underlying46 rfl (by kernel_rfl)
  unfold ptCells at p1 p2
  rw[extract_front _ _ 32 (by rw[blist_length,hl])] at p1
  rw[extract_front _ _ 32 (by rw[blist_length,hm])] at p2
  rw[show blist l++[.int .i64 x]=ptCells l x from rfl] at p1
  rw[show blist m++[.int .i64 y]=ptCells m y from rfl] at p2
  have q1:=run_part_one (P:=Tryz.prog) w (cs:=(ptCells l x).toArray) (off:=32) (v:=.int .i64 x) Tryz.underlying3 rfl (ptCells_last hl)
  have q2:=run_part_one (P:=Tryz.prog) w (cs:=(ptCells m y).toArray) (off:=32) (v:=.int .i64 y) Tryz.underlying3 rfl (ptCells_last hm)
  have e1:=run_equal_bytes (P:=Tryz.prog) (d:=d) w Tryz.underlying46 Tryz.underlying5 (by kernel_rfl) l m hl hm
  have e2:=run_equalIn_int (P:=Tryz.prog) w (d+1) 3 .i64 .i64 x y Tryz.underlying3
  refine Eq.trans (eqFields_cons w _ _ _ _ _ _ _ _ (by simp) p1 p2 e1) ?_
  by_cases hlm:l=m
  · rw[if_pos (decide_eq_true hlm)]
    refine Eq.trans (eqFields_cons w _ _ _ _ _ _ _ _ (by simp) q1 q2 e2) ?_
    rw[eqFields_nil]
    by_cases hxy:x=y
    · rw[if_pos (by simp[hxy]),decide_eq_true ⟨hlm,hxy⟩]
    · rw[if_neg (by simp[hxy]),decide_eq_false (fun e=>hxy e.2)]
  · rw[if_neg (by simp[hlm]),decide_eq_false (fun e=>hlm e.1)]
theorem run_eq_spend (w:World) (d:Nat) (s o:Tx.Sp) (hs:s.h.length=32) (ho:o.h.length=32) :
    (Op.equalIn (d+4) 61 (.agg (spCells s).toArray) (.agg (spCells o).toArray)).run Tryz.prog w=.ok (decide (s=o)) w:=by
  rw[run_equalIn_struct w (d+3) _ _ _ (by simp only[Program.fieldsOf,Tryz.underlying61]) (by kernel_rfl)]
  simp only[Program.fieldsOf,Tryz.underlying61]
  have cut:∀ u:Tx.Sp,spCells u=(ptCells u.h u.n)++[.string (strB u.key),.int .u64 (nb64 u.sl)]:=fun u=>by unfold spCells ptCells;simp
  have pt:∀ u:Tx.Sp,u.h.length=32→(part 58 (spCells u).toArray 0).run Tryz.prog w=.ok (.agg (ptCells u.h u.n).toArray) w:=fun u hu=>by
    have p1:=run_part_agg (P:=Tryz.prog) w (cs:=(spCells u).toArray) (off:=0) (k:=33) Tryz.underlying58 rfl (by kernel_rfl)
    rw[cut u,extract_front _ _ 33 (ptCells_len hu)] at p1
    rw[cut u]
    exact p1
  have ky:∀ u:Tx.Sp,u.h.length=32→(part 9 (spCells u).toArray 33).run Tryz.prog w=.ok (.string (strB u.key)) w:=fun u hu=>
    run_part_one (P:=Tryz.prog) w Tryz.underlying9 rfl (by rw[cut u,List.getElem?_toArray,List.getElem?_append_right (by simp[ptCells_len hu])];simp[ptCells_len hu])
  have se:∀ u:Tx.Sp,u.h.length=32→(part 59 (spCells u).toArray 34).run Tryz.prog w=.ok (.int .u64 (nb64 u.sl)) w:=fun u hu=>
    run_part_one (P:=Tryz.prog) w Tryz.underlying59 rfl (by rw[cut u,List.getElem?_toArray,List.getElem?_append_right (by simp[ptCells_len hu])];simp[ptCells_len hu])
  have e1:=run_eq_point w d s.h o.h s.n o.n hs ho
  have e2:=run_equalIn_string (P:=Tryz.prog) w (d+2) 9 (strB s.key) (strB o.key) Tryz.underlying9
  have e3:=run_equalIn_int (P:=Tryz.prog) w (d+2) 59 .u64 .u64 (nb64 s.sl) (nb64 o.sl) Tryz.underlying59
  rw[strB_beq] at e2
  rw[u64_beq] at e3
  have hx:=Tx.sp_ext (a:=s) (b:=o)
  refine Eq.trans (eqFields_cons w _ _ _ _ _ _ _ _ (by simp) (pt s hs) (pt o ho) e1) ?_
  by_cases h1:s.h=o.h∧s.n=o.n
  · rw[if_pos (decide_eq_true h1)]
    refine Eq.trans (eqFields_cons w _ _ _ _ _ _ _ _ (by simp) (ky s hs) (ky o ho) e2) ?_
    by_cases h2:s.key=o.key
    · rw[if_pos (decide_eq_true h2)]
      refine Eq.trans (eqFields_cons w _ _ _ _ _ _ _ _ (by simp) (se s hs) (se o ho) e3) ?_
      rw[eqFields_nil]
      by_cases h3:s.sl=o.sl
      · rw[if_pos (by simp[h3]),decide_eq_true (hx.2 ⟨h1.1,h1.2,h2,h3⟩)]
      · rw[if_neg (by simp[h3]),decide_eq_false (fun e=>h3 (hx.1 e).2.2.2)]
    · rw[if_neg (by simp[h2]),decide_eq_false (fun e=>h2 (hx.1 e).2.2.1)]
  · rw[if_neg (by simp[h1]),decide_eq_false (fun e=>h1 ⟨(hx.1 e).1,(hx.1 e).2.1⟩)]
theorem run_eq_coin (w:World) (d:Nat) (s o:Tx.Co) :
    (Op.equalIn (d+2) 74 (.agg (coCells s).toArray) (.agg (coCells o).toArray)).run Tryz.prog w=.ok (decide (s=o)) w:=by
  rw[run_equalIn_struct w (d+1) _ _ _ (by simp only[Program.fieldsOf,Tryz.underlying74]) (by kernel_rfl)]
  simp only[Program.fieldsOf,Tryz.underlying74]
  have va:∀ u:Tx.Co,(part 3 (coCells u).toArray 0).run Tryz.prog w=.ok (.int .i64 u.v) w:=fun u=>run_part_one (P:=Tryz.prog) w Tryz.underlying3 rfl rfl
  have lo:∀ u:Tx.Co,(part 59 (coCells u).toArray 1).run Tryz.prog w=.ok (.int .u64 (nb64 u.lock)) w:=fun u=>run_part_one (P:=Tryz.prog) w Tryz.underlying59 rfl rfl
  have e2:=run_equalIn_int (P:=Tryz.prog) w d 3 .i64 .i64 s.v o.v Tryz.underlying3
  have e3:=run_equalIn_int (P:=Tryz.prog) w d 59 .u64 .u64 (nb64 s.lock) (nb64 o.lock) Tryz.underlying59
  rw[u64_beq] at e3
  have hx:=Tx.co_ext (a:=s) (b:=o)
  refine Eq.trans (eqFields_cons w _ _ _ _ _ _ _ _ (by simp) (va s) (va o) e2) ?_
  by_cases h1:s.v=o.v
  · rw[if_pos (by simp[h1])]
    refine Eq.trans (eqFields_cons w _ _ _ _ _ _ _ _ (by simp) (lo s) (lo o) e3) ?_
    rw[eqFields_nil]
    by_cases h2:s.lock=o.lock
    · rw[if_pos (by simp[h2]),decide_eq_true (hx.2 ⟨h1,h2⟩)]
    · rw[if_neg (by simp[h2]),decide_eq_false (fun e=>h2 (hx.1 e).2)]
  · rw[if_neg (by simp[h1]),decide_eq_false (fun e=>h1 (hx.1 e).1)]
theorem neq_spend (w:World) (s o:Tx.Sp) (hs:s.h.length=32) (ho:o.h.length=32):(binOp .neq 61 (.agg (spCells s).toArray) (.agg (spCells o).toArray)).run Tryz.prog w=.ok (.bool (!decide (s=o))) w:=by
  rw[run_neq_struct,run_eq_spend w 9996 s o hs ho]
  rfl
theorem neq_coin (w:World) (s o:Tx.Co):(binOp .neq 74 (.agg (coCells s).toArray) (.agg (coCells o).toArray)).run Tryz.prog w=.ok (.bool (!decide (s=o))) w:=by
  rw[run_neq_struct,run_eq_coin w 9998 s o]
  rfl
theorem eql_point (w:World) (l m:List (BitVec 8)) (x y:Int) (hl:l.length=32) (hm:m.length=32) :
    (binOp .eql 58 (.agg (ptCells l x).toArray) (.agg (ptCells m y).toArray)).run Tryz.prog w=.ok (.bool (decide (l=m∧x=y))) w:=by
  rw[run_eql_struct,run_eq_point w 9997 l m x y hl hm]
  rfl
end Go.Proofs.YtijemcfnlbapjaaGreatDoor
namespace Go.Proofs.YtijemcfnlbapjaaGreatDoor
open Go Go.RowKit Go.ChangeShapes Go.WideShapes
namespace Cs
abbrev Pt:=List (BitVec 8)×Int
def ptOk (p:Pt):Prop:=p.1.length=32∧-9223372036854775808≤p.2∧p.2<9223372036854775808
def ptV (p:Pt):Value:=.agg (ptCells p.1 p.2).toArray
end Cs
set_option maxRecDepth 100000 in
theorem run_checkPt32 (em:Bool) (w:World) (d0 d1 d2 d3 d4 d5 d6 d7 d8 d9 d10 d11 d12 d13 d14 d15 d16 d17 d18 d19 d20 d21 d22 d23 d24 d25 d26 d27 d28 d29 d30 d31:BitVec 8) (n:Int):(Instr.checkKey em 10000 58 (.agg (ptCells [d0,d1,d2,d3,d4,d5,d6,d7,d8,d9,d10,d11,d12,d13,d14,d15,d16,d17,d18,d19,d20,d21,d22,d23,d24,d25,d26,d27,d28,d29,d30,d31] n).toArray)).run Tryz.prog w=.ok () w:=by kernel_rfl
theorem run_checkPt (em:Bool) (w:World):∀ (p:Cs.Pt),p.1.length=32→(Instr.checkKey em 10000 58 (Cs.ptV p)).run Tryz.prog w=.ok () w
  | ([d0,d1,d2,d3,d4,d5,d6,d7,d8,d9,d10,d11,d12,d13,d14,d15,d16,d17,d18,d19,d20,d21,d22,d23,d24,d25,d26,d27,d28,d29,d30,d31],n),_=>run_checkPt32 em w d0 d1 d2 d3 d4 d5 d6 d7 d8 d9 d10 d11 d12 d13 d14 d15 d16 d17 d18 d19 d20 d21 d22 d23 d24 d25 d26 d27 d28 d29 d30 d31 n
theorem blist_ints (l:List (BitVec 8)):∀ v,v∈blist l→∃ k x,v=.int k x:=fun v hv=>by
  obtain⟨x,_,rfl⟩:=List.mem_map.1 (show v∈l.map _ from hv)
  exact⟨_,_,rfl⟩
theorem same_ints:∀ (cs:List Value),(∀ v,v∈cs→∃ k x,v=.int k x)→(cs.zip cs).all (fun p=>Instr.sameBits 9999 p.1 p.2)=true
  | [],_=>rfl
  | c :: cs,h=>by
    obtain⟨k,x,rfl⟩:=h c List.mem_cons_self
    rw[List.zip_cons_cons,List.all_cons,same_ints cs (fun v hv=>h v (List.mem_cons_of_mem _ hv)),Bool.and_true]
    simp[Instr.sameBits]
theorem same_pt (p:Cs.Pt):Instr.sameBits 10000 (Cs.ptV p) (Cs.ptV p)=true:=by
  have h:=same_ints (ptCells p.1 p.2) (fun v hv=>by
    rcases List.mem_append.1 hv with h | h
    · exact blist_ints _ v h
    · exact⟨_,_,List.mem_singleton.1 h⟩)
  show(_==_&&_)=true
  rw[beq_self_eq_true,Bool.true_and]
  exact h
namespace Cs
end Cs
theorem keep_pt (w:World) (p:Cs.Pt):(Instr.keyThatStays (Cs.ptV p) (Cs.ptV p)).run Tryz.prog w=.ok (Cs.ptV p) w:=by
  simp[Instr.keyThatStays,same_pt p]
end Go.Proofs.YtijemcfnlbapjaaGreatDoor
namespace Go.Proofs.YtijemcfnlbapjaaGreatDoor
open Go Go.RowKit Go.ChangeShapes Go.WideShapes
abbrev zSp:Array Value:=#[.int .u8 0,.int .u8 0,.int .u8 0,.int .u8 0,.int .u8 0,.int .u8 0,.int .u8 0,.int .u8 0,.int .u8 0,.int .u8 0,.int .u8 0,.int .u8 0,.int .u8 0,.int .u8 0,.int .u8 0,.int .u8 0,.int .u8 0,.int .u8 0,.int .u8 0,.int .u8 0,.int .u8 0,.int .u8 0,.int .u8 0,.int .u8 0,.int .u8 0,.int .u8 0,.int .u8 0,.int .u8 0,.int .u8 0,.int .u8 0,.int .u8 0,.int .u8 0,.int .i64 0,.string ⟨#[]⟩,.int .u64 0]
abbrev zCo:Array Value:=#[.int .i64 0,.int .u64 0]
abbrev zTx:Array Value:=#[.slice none 0 0,.slice none 0 0,.bool false]
theorem info_spend:(Tryz.prog.info? 61).map (fun i=>(i.zero,i.size,i.bytes))=some (some (.agg zSp),spRec.k,64):=by kernel_rfl
theorem info_coin:(Tryz.prog.info? 74).map (fun i=>(i.zero,i.size,i.bytes))=some (some (.agg zCo),coRec.k,16):=by kernel_rfl
theorem size_spend:(Tryz.prog.info? 61).map (·.size)=some spRec.k:=by kernel_rfl
theorem size_coin:(Tryz.prog.info? 74).map (·.size)=some coRec.k:=by kernel_rfl
section
variable {w:World} {a:Option Addr} {n i:Nat}
theorem spends_load {L:List Tx.Sp} {s:Tx.Sp} (h:Recs spRec w a n L) (hi:L[i]? = some s) :
    ∃ x,a=some x∧(Instr.loadAt 61 (.pointer (some (x.add (i*35))))).run Tryz.prog w=.ok (.agg (spCells s).toArray) w:=
  h.load Tryz.underlying61 rfl size_spend hi
end
section
variable {w:World} {g:Nat} {T:TypeId} {s:Tx.Sp}
theorem spCells_at {j:Nat} (h:s.h.length=32):(spCells s)[32+j]? = ([.int .i64 s.n,.string (strB s.key),.int .u64 (nb64 s.sl)]:List Value)[j]?:=by
  unfold spCells
  rw[List.getElem?_append_right (by rw[blist_length,h];omega),blist_length,h,Nat.add_sub_cancel_left]
theorem Has.spN (h:Has w g T (spCells s).toArray) (hl:s.h.length=32):w.cell? ⟨g,32,none⟩=some (.int .i64 s.n):=h.cell_at (by rw[List.getElem?_toArray,show(32:Nat)=32+0 from rfl,spCells_at hl];rfl)
theorem Has.spKey (h:Has w g T (spCells s).toArray) (hl:s.h.length=32):w.cell? ⟨g,33,none⟩=some (.string (strB s.key)):=h.cell_at (by rw[List.getElem?_toArray,show(33:Nat)=32+1 from rfl,spCells_at hl];rfl)
theorem Has.spSeal (h:Has w g T (spCells s).toArray) (hl:s.h.length=32):w.cell? ⟨g,34,none⟩=some (.int .u64 (nb64 s.sl)):=h.cell_at (by rw[List.getElem?_toArray,show(34:Nat)=32+2 from rfl,spCells_at hl];rfl)
theorem Has.spHash (h:Has w g T (spCells s).toArray) (hl:s.h.length=32):(Instr.loadAt 46 (.pointer (some ⟨g,0,none⟩))).run Tryz.prog w=.ok (.agg (blist s.h).toArray) w:=
  run_load_bytes (P:=Tryz.prog) Tryz.underlying46 (by kernel_rfl) hl fun j hj=>by
    rw[Addr.add_mid,Nat.zero_add]
    refine h.cell_at ?_
    rw[List.getElem?_toArray]
    unfold spCells
    rw[List.getElem?_append_left (by rw[blist_length];omega)]
    exact blist_at s.h j (by omega)
end
structure Tx.V where
  a:Option Addr
  n:Nat
  q:Nat
  b:Option Addr
  m:Nat
  r:Nat
  t:Tx.T
def vCells (x:Tx.V):List Value:=[.slice x.a x.n x.q,.slice x.b x.m x.r,.bool x.t.firm]
def vRec:Rec Tx.V where
  k:=3
  cells:=vCells
  ok:=fun _=>True
  pos:=by omega
  len t _:=rfl
  one t v hv:=by
    simp[vCells] at hv
    rcases hv with rfl | rfl | rfl<;>rfl
abbrev Tx.V.At (w:World) (x:Tx.V):Prop:=TxAt w x.a x.n x.q x.b x.m x.r x.t
def Txs (w:World) (a:Option Addr) (n:Nat) (L:List Tx.V):Prop:=Recs vRec w a n L∧∀ x,x∈L→x.At w
theorem Txs.below {w w':World} {a:Option Addr} {n:Nat} {L:List Tx.V} (h:Txs w a n L) (hb:Below w.heap.size w w'):Txs w' a n L:=⟨h.1.below hb,fun x hx=>(h.2 x hx).below hb⟩
theorem size_tx:(Tryz.prog.info? 34).map (·.size)=some vRec.k:=by kernel_rfl
theorem Txs.load {w:World} {x:Option Addr} {k i n q m r:Nat} {L:List Tx.V} {a b:Option Addr} {t:Tx.T} (h:Txs w x k L) (hi:L[i]? = some ⟨a,n,q,b,m,r,t⟩) :
    ∃ y,x=some y∧(Instr.loadAt 34 (.pointer (some (y.add (i*3))))).run Tryz.prog w=.ok (txv a n q b m r t.firm) w∧TxAt w a n q b m r t:=by
  obtain⟨y,e,hx⟩:=h.1.load Tryz.underlying34 rfl size_tx hi
  exact⟨y,e,hx,h.2 _ (List.mem_of_getElem? hi)⟩
def Tx.Small (t:Tx.T):Prop:=t.sp.length≤30∧t.co.length≤30∧∀ s,s∈t.sp→s.key.length≤5000
def LargePost (L:List Tx.V) (w0:World) (e:Ending) (w':World):Prop:=∃ b,e=.returned (.bool b)∧(b=false→L.length≤61∧∀ x,x∈L→Tx.Small x.t)∧Below w0.heap.size w0 w'
set_option maxRecDepth 100000 in
set_option maxHeartbeats 4000000 in
theorem large_any (a:Option Addr) (n c:Nat) (L:List Tx.V) (w:World) (h:Txs w a n L) :
    Calls Tryz.prog 12 #[.slice a n c] w (LargePost L w):=by
  have HH:=Lib.hid h
  have hmx:n≤9223372036854775807:=h.1.2.1
  clear h
  go_enter Tryz.func12,Tryz.ntmps12
  go_wp2
  go_loopw [3,10] (fun sv iv wr=>∃ (i s:Nat),i≤n∧i≤61∧s≤300000*i∧iv=.int .i64 i∧sv=.int .i64 s∧RowKit.Hid (s≤5000→∀ (j:Nat) (x:Tx.V),j<i→L[j]? = some x→Tx.Small x.t)∧Below w.heap.size w wr) (fun _ iv _=>n-(intOf iv).toNat)
  case atStart=>exact⟨0,0,Nat.zero_le _,by omega,by omega,rfl,rfl,Lib.hid (fun _ j t hj=>by omega),Below.refl _ _⟩
  case round=>
    obtain⟨i,s,hi,hi61,hs3,rfl,rfl,HA,hb⟩:=hrel
    by_cases hlt:i<n
    · have hii:(i:Int)<(n:Int):=by omega
      have hL:=HH.out.1.1
      obtain⟨⟨a,tn,q,b,tm,r,t⟩,ht⟩:∃ t,L[i]? = some t:=⟨_,List.getElem?_eq_getElem (by omega)⟩
      obtain⟨x,rfl,hx,hat⟩:=(HH.out.below hb).load ht
      have HAT:=Lib.hid hat
      have HT:=Lib.hid ht
      have hmn:tn≤9223372036854775807:=hat.sp.2.1
      clear hat ht hL
      go_upto_region 5 with(first
        | (refine wpList_load_run rfl 34 (.tmp 13) rfl _ _ rfl hx ?_))
      obtain⟨w5,hw5⟩:∃ x,x=wr.alloc (.cells #[.slice a tn q,.slice b tm r,.bool t.firm] 34):=⟨_,rfl⟩
      have hF:Has w5 wr.heap.size 34 #[.slice a tn q,.slice b tm r,.bool t.firm]:=by rw[hw5];exact Has.fresh _ _ _
      have hb5:Below wr.heap.size wr w5:=by rw[hw5];exact(Below.refl _ _).alloc (Nat.le_refl _) _
      rw[← hw5]
      clear hw5 hx
      obtain⟨gF,hgF⟩:∃ g,g=wr.heap.size:=⟨_,rfl⟩
      rw[← hgF] at hF ⊢
      have hB5:=hb.trans (hb5.mono hb.size)
      have HAT5:=Lib.hid (HAT.out.below hb5)
      clear hb5 HAT hgF hb
      have f0:w5.cell? ⟨gF,0,none⟩=some (.slice a tn q):=hF.cell_at rfl
      have f1:w5.cell? ⟨gF,1,none⟩=some (.slice b tm r):=hF.cell_at rfl
      clear hF
      by_cases h60:(60:Int)<(i:Int)
      · go_wp2
        go_ret
        exact⟨_,rfl,(fun e=>by cases e),hB5⟩
      · by_cases h30:(30:Int)<(tn:Int)
        · go_wp2
          go_ret
          exact⟨_,rfl,(fun e=>by cases e),hB5⟩
        · by_cases h31:(30:Int)<(tm:Int)
          · go_wp2
            go_ret
            exact⟨_,rfl,(fun e=>by cases e),hB5⟩
          · go_wp2
            go_loopw [3,32] (fun sv kv wi=>∃ (k z:Nat),k≤tn∧z≤s+10000*k∧kv=.int .i64 k∧sv=.int .i64 z∧RowKit.Hid (z≤5000→s≤5000∧∀ (j:Nat) (u:Tx.Sp),j<k→t.sp[j]? = some u→u.key.length≤5000)∧Below w5.heap.size w5 wi) (fun _ kv _=>tn-(intOf kv).toNat)
            case atStart=>exact⟨0,s,Nat.zero_le _,by omega,rfl,rfl,Lib.hid (fun e=>⟨e,fun j t hj=>by omega⟩),Below.refl _ _⟩
            case round=>
              obtain⟨k,z,hk,hz,rfl,rfl,HK,hbi⟩:=hrel
              by_cases hkt:k<tn
              · have hki:(k:Int)<(tn:Int):=by omega
                have hL:=HAT5.out.sp.1
                obtain⟨u,hu⟩:∃ u,t.sp[k]? = some u:=⟨_,List.getElem?_eq_getElem (by omega)⟩
                have hok:=HAT5.out.sp.okay hu
                obtain⟨y,rfl,hy⟩:=spends_load (HAT5.out.sp.below hbi) hu
                have HOK:=Lib.hid hok
                have HU:=Lib.hid hu
                clear hok hu hL
                go_upto_region 10 with(first
                  | (refine wpList_store_mid rfl 61 (.tmp 7) (.tmp 35) rfl wr.heap.size 0 (spCells u).toArray rfl rfl (spRec.there _ _ rfl HOK.out) (spRec.size_eq size_spend HOK.out) (spRec.all_one u) ?_)
                  | (refine wpList_load_run rfl 61 (.tmp 34) rfl _ _ rfl hy ?_))
                obtain⟨w9,hw9⟩:∃ x,x=(wr.alloc (.cells zSp 61)).setCells wr.heap.size 0 (spCells u):=⟨_,rfl⟩
                obtain⟨hth,hb9⟩:=Rec.new (R:=spRec) rfl HOK.out hw9
                rw[← hw9]
                clear hw9 hy
                have c3:=Has.spKey hth HOK.out.1
                have hB9:=hbi.trans (hb9.mono hbi.size)
                have hsz:=strB_size u.key
                obtain⟨m,hm⟩:∃ m,m=u.key.length:=⟨_,rfl⟩
                rw[← hm] at hsz
                have hmm:m≤9223372036854775807:=by have:=HOK.out.2.2;unfold maxLen at this;omega
                have HM:=Lib.hid hm
                obtain⟨e,he⟩:∃ e,e=Nat.min m 10000:=⟨_,rfl⟩
                have he1:e≤10000:=by rw[he];exact Nat.min_le_right _ _
                have HE:=Lib.hid (show e≤5000→m≤5000 by rw[he];unfold Nat.min;omega)
                have hmn2:∀ w,(Builtin.min_ #[3,3] 3 #[.int .i64 (m:Int),.int .i64 10000]).run Tryz.prog w=.ok (.int .i64 (e:Int)) w:=fun w=>by
                  rw[run_min_int2,he]
                  congr 2
                  split<;>(show _=((min m 10000:Nat):Int))<;>omega
                clear hm he hth
                have hz61:z≤19000000:=by omega
                go_wp2
                go_roundw
                case rel=>
                  exact⟨k+1,z+e,by omega,by omega,by go_num,by go_num,Lib.hid (fun h5=>⟨(HK.out (by omega)).1,fun j v hj hv=>by
                    rcases Nat.lt_or_ge j k with h | h
                    · exact(HK.out (by omega)).2 j v h hv
                    · have e2:j=k:=by omega
                      subst e2
                      rw[HU.out] at hv
                      injection hv with hv
                      subst hv
                      have:=HE.out (by omega)
                      have:=HM.out
                      omega⟩),hB9⟩
                case measure=>(simp[intOf];try omega)
              · have hki:¬ (k:Int)<(tn:Int):=by omega
                have hki2:k=tn:=by omega
                go_wp2
                go_roundw
                case rel=>
                  exact⟨i+1,z,by omega,by omega,by omega,by go_num,rfl,Lib.hid (fun h5 j v hj hv=>by
                    rcases Nat.lt_or_ge j i with h | h
                    · exact HA.out (HK.out h5).1 j v h hv
                    · have e2:j=i:=by omega
                      subst e2
                      rw[HT.out] at hv
                      injection hv with hv
                      subst hv
                      have l1:=HAT5.out.sp.1
                      have l2:=HAT5.out.co.1
                      refine⟨by show t.sp.length≤30;omega,by show t.co.length≤30;omega,fun u hu=>?_⟩
                      obtain⟨j,hj⟩:=List.mem_iff_getElem?.1 hu
                      exact(HK.out h5).2 j u (by have h9:j<t.sp.length:=(List.getElem?_eq_some_iff.1 hj).1;rw[l1] at h9;omega) hj),hB5.trans (hbi.mono hB5.size)⟩
                case measure=>(simp[intOf];try omega)
    · have hii:¬ (i:Int)<(n:Int):=by omega
      have hin:i=n:=by omega
      have hl:=HH.out.1.1
      have HF:=Lib.hid (show s≤5000→L.length≤61∧∀ x,x∈L→Tx.Small x.t from fun h5=>⟨by omega,fun x hx=>by
        obtain⟨j,hj⟩:=List.mem_iff_getElem?.1 hx
        exact HA.out h5 j x (by have:=(List.getElem?_eq_some_iff.1 hj).1;omega) hj⟩)
      go_wp2
      go_ret
      exact⟨_,rfl,(fun e=>HF.out (by simp at e;omega)),hb⟩
end Go.Proofs.YtijemcfnlbapjaaGreatDoor
