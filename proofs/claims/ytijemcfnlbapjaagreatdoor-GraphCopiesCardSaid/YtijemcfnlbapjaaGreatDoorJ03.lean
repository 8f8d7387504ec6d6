/- Records of several cells: slices of them, how they are read, appended to, written. Nothing of the program. · Arrays of bytes compared. Nothing of the program. · Strings as lists of bytes: each is one, and which are the same. Nothing of the program. · A struct of one-cell fields that came in by value: the reading of each field. Nothing of the program. · A table of words at package level: what a row's condition on it gives a walk. Nothing of the program. · Arrays whole: read, stored, copied into. Nothing of the program but its types. -/
import Derived.Test.YtijemcfnlbapjaaGreatDoorJ01
import Derived.Test.YtijemcfnlbapjaaGreatDoorJ02
import Derived.Deep.Slices
import Derived.Laws.StructEq
import Derived.Deep.RegionHeld3
import Derived.Deep.Fields
import Derived.OpenShut
import Derived.LaidMore
import Derived.MakeChecks
namespace Go.Proofs.YtijemcfnlbapjaaGreatDoor
open Go Go.RowKit Go.ChangeShapes Go.WideShapes
structure Rec (α:Type) where
  k:Nat
  cells:α→List Value
  ok:α→Prop
  pos:0<k
  len:∀ t,ok t→(cells t).length=k
  one:∀ t v,v∈cells t→v.oneCell'=true
section
variable {α:Type} (R:Rec α)
def Rec.row (L:List α):List Value:=L.flatMap R.cells
theorem Rec.row_app (L M:List α):R.row (L++M)=R.row L++R.row M:=List.flatMap_append
theorem Rec.row_one (L:List α):∀ v∈R.row L,v.oneCell'=true:=by
  intro v hv
  obtain⟨t,_,ht⟩:=List.mem_flatMap.1 hv
  exact R.one t v ht
theorem Rec.row_len:∀ {L:List α},(∀ t,t∈L→R.ok t)→(R.row L).length=L.length*R.k
  | [],_=>by simp[Rec.row]
  | t :: L,h=>by
    have ih:=Rec.row_len (L:=L) (fun u hu=>h u (List.mem_cons_of_mem _ hu))
    have h1:=R.len t (h t List.mem_cons_self)
    show(R.cells t++R.row L).length=(L.length+1)*R.k
    rw[List.length_append,h1,ih,Nat.add_mul,Nat.one_mul,Nat.add_comm]
theorem Rec.row_at:∀ {L:List α} (_:∀ t,t∈L→R.ok t) (i j:Nat) (t:α),L[i]? = some t→j<R.k→(R.row L)[i*R.k+j]? = (R.cells t)[j]?
  | [],_,i,j,t,hi,_=>by simp at hi
  | u :: L,h,0,j,t,hi,hj=>by
    have h1:=R.len u (h u List.mem_cons_self)
    obtain rfl:u=t:=by simpa using hi
    show(R.cells u++R.row L)[0*R.k+j]? = _
    rw[Nat.zero_mul,Nat.zero_add,List.getElem?_append_left (by omega)]
  | u :: L,h,i+1,j,t,hi,hj=>by
    have h1:=R.len u (h u List.mem_cons_self)
    have ih:=Rec.row_at (L:=L) (fun u hu=>h u (List.mem_cons_of_mem _ hu)) i j t (by simpa using hi) hj
    show(R.cells u++R.row L)[(i+1)*R.k+j]? = _
    have e:(i+1)*R.k+j=R.k+(i*R.k+j):=by rw[Nat.add_mul,Nat.one_mul];omega
    rw[e,List.getElem?_append_right (by omega),h1,Nat.add_sub_cancel_left,ih]
def Recs (w:World) (a:Option Addr) (n:Nat) (L:List α):Prop:=
  L.length=n∧n≤maxLen∧(∀ t,t∈L→R.ok t)∧∀ (i:Nat) (t:α),L[i]? = some t→∃ x,a=some x∧∀ (j:Nat) (v:Value),(R.cells t)[j]? = some v→w.cell? (x.add (i*R.k+j))=some v
def OwnR (T:TypeId) (B:Nat) (w:World) (v:Value) (L:List α):Prop:=(∀ t,t∈L→R.ok t)∧w.ownsRow B T R.k v L.length (R.row L)
end
section
variable {α:Type} {R:Rec α} {w w':World} {a:Option Addr} {n:Nat} {L:List α}
theorem Recs.keep (h:Recs R w a n L) (hk:∀ p:Addr,(w.cell? p).isSome=true→w'.cell? p=w.cell? p):Recs R w' a n L:=by
  refine⟨h.1,h.2.1,h.2.2.1,fun i t hi=>?_⟩
  obtain⟨x,rfl,hx⟩:=h.2.2.2 i t hi
  exact⟨x,rfl,fun j v hj=>by rw[hk _ (by rw[hx j v hj];rfl)];exact hx j v hj⟩
theorem Recs.below (h:Recs R w a n L) (hb:Below w.heap.size w w'):Recs R w' a n L:=h.keep fun _ hp=>hb.cell (isSome_lt hp)
theorem Recs.past (h:Recs R w a n L) (o:Obj):Recs R (w.alloc o) a n L:=h.keep fun p hp=>World.cell?_alloc_lt w o p (isSome_lt hp)
theorem recs_none (R:Rec α) (w:World):Recs R w none 0 []:=⟨rfl,by unfold maxLen;omega,(fun _ h=>by cases h),fun i t hi=>by simp at hi⟩
theorem Recs.moved {F:Nat→Prop} (h:Recs R w a n L) (hm:Moved F w w') (hv:0<n→∀ y,a=some y→¬ F y.block):Recs R w' a n L:=by
  refine⟨h.1,h.2.1,h.2.2.1,fun i t hi=>?_⟩
  obtain⟨x,rfl,hx⟩:=h.2.2.2 i t hi
  refine⟨x,rfl,fun j v hj=>?_⟩
  have hi':i<L.length:=(List.getElem?_eq_some_iff.1 hi).1
  refine(World.cell?_of_block (hm.block _ (isSome_lt (by rw[hx j v hj];rfl)) ?_)).trans (hx j v hj)
  rw[block_add]
  exact hv (by have:=h.1;omega) x rfl
theorem Recs.okay (h:Recs R w a n L) {i:Nat} {t:α} (hi:L[i]? = some t):R.ok t:=h.2.2.1 t (List.mem_of_getElem? hi)
theorem Recs.get (h:Recs R w a n L) {i:Nat} (hi:i<n):∃ t,L[i]? = some t:=⟨L[i]'(by rw[h.1];exact hi),List.getElem?_eq_getElem _⟩
theorem Recs.field {x:Addr} (h:Recs R w (some x) n L) {i j:Nat} {t:α} {v:Value} (hi:L[i]? = some t) (hj:(R.cells t)[j]? = some v):w.cell? (x.add (i*R.k+j))=some v:=by
  obtain⟨y,e,hx⟩:=h.2.2.2 i t hi
  injection e with e
  subst e
  exact hx j v hj
theorem Recs.fieldS {x:Addr} (h:Recs R w (some x) n L) {i j:Nat} {t:α} {v:Value} (hi:L[i]? = some t) (hj:(R.cells t)[j+1]? = some v):w.cell? ⟨(x.add (i*R.k)).block,(x.add (i*R.k)).off+(j+1),none⟩=some v:=by
  have:=h.field hi hj
  rwa [← Addr.add_add,Addr.add_succ'] at this
theorem Recs.take (h:Recs R w a n L) {m:Nat} (hm:m≤n):Recs R w a m (L.take m):=by
  refine⟨by rw[List.length_take,h.1];omega,by have:=h.2.1;omega,fun t ht=>h.2.2.1 t (List.mem_of_mem_take ht),fun i t hi=>?_⟩
  rw[List.getElem?_take] at hi
  split at hi
  · exact h.2.2.2 i t hi
  · cases hi
variable {T:TypeId} {B:Nat} {v:Value}
theorem OwnR.nil (R:Rec α) (T:TypeId) (B:Nat) (w:World):OwnR R T B w (.slice none 0 0) []:=⟨(fun _ h=>by cases h),World.ownsRow_nil _ _ _ _⟩
theorem OwnR.empty {w1:World} {g:Nat} (hB:B≤g) (hh:Has w1 g T #[]):OwnR R T B w1 (.slice (some ⟨g,0,none⟩) 0 0) []:=
  ⟨(fun _ h=>by cases h),by simp[Rec.row],.inr ⟨g,0,#[],rfl,hB,hh,Nat.le_refl _,by unfold maxLen;omega,by simp,by simp[Rec.row]⟩⟩
theorem OwnR.all {M:List α} {k:Nat} (hL:∀ t,t∈L→R.ok t) (hM:∀ t,t∈M→R.ok t) (hk:M.length=k) (h:w'.ownsRow B T R.k v (L.length+k) (R.row L++R.row M)):OwnR R T B w' v (L++M):=by
  subst hk
  refine⟨fun l hl=>(List.mem_append.1 hl).elim (hL l) (hM l),?_⟩
  rw[Rec.row_app]
  simpa using h
theorem OwnR.lt (h:OwnR R T B w v L):∀ k,v.ownBlock=some k→B≤k:=fun k hk=>(World.ownsRow.lt h.2 k hk).1
theorem OwnR.lt_size (h:OwnR R T B w v L):∀ k,v.ownBlock=some k→B≤k∧k<w.heap.size:=World.ownsRow.lt h.2
theorem OwnR.moved {F:Nat→Prop} (h:OwnR R T B w v L) (hm:Moved F w w') (hv:∀ k,v.ownBlock=some k→¬ F k):OwnR R T B w' v L:=by
  refine⟨h.1,h.2.1,?_⟩
  rcases h.2.2 with hn | ⟨G,cap,cur,rfl,h1,h2,rest⟩
  · exact .inl hn
  · exact .inr ⟨G,cap,cur,rfl,h1,(hm.block G (Array.getElem?_eq_some_iff.1 h2).1 (hv G rfl)).trans h2,rest⟩
theorem OwnR.below (h:OwnR R T B w v L) (hb:Below w.heap.size w w'):OwnR R T B w' v L:=by
  refine⟨h.1,h.2.1,?_⟩
  rcases h.2.2 with hn | ⟨G,cap,cur,rfl,h1,h2,rest⟩
  · exact .inl hn
  · exact .inr ⟨G,cap,cur,rfl,h1,(hb.block _ (Array.getElem?_eq_some_iff.1 h2).1).trans h2,rest⟩
theorem OwnR.low {B':Nat} (h:OwnR R T B w v L) (hB:B'≤B):OwnR R T B' w v L:=by
  refine⟨h.1,h.2.1,?_⟩
  rcases h.2.2 with hn | ⟨G,cap,cur,rfl,h1,h2⟩
  · exact .inl hn
  · exact .inr ⟨G,cap,cur,rfl,by omega,h2⟩
theorem OwnR.draw (h:OwnR R T B w v L):OwnR R T B w.drew v L:=h
theorem OwnR.shape {K:Nat} (h:OwnR R T B w v L) (hK:L.length=K):∃ a c,v=.slice a K c∧K≤c∧(a=none→c=0)∧(∀ x,a=some x→B≤x.block∧x.block<w.heap.size)∧Recs R w a K L:=by
  subst hK
  have hlt:=h.lt_size
  obtain⟨hall,hl,⟨rfl,h0⟩ | ⟨g,cap,cur,rfl,hg,hh,hn,hm,hc,ht⟩⟩:=h
  · obtain rfl:=List.length_eq_zero_iff.1 h0
    exact⟨none,0,rfl,Nat.le_refl _,fun _=>rfl,(fun x e=>by cases e),recs_none R w⟩
  · refine⟨_,cap,rfl,hn,(fun e=>by cases e),(fun x e=>by injection e with e;subst e;exact hlt g rfl),rfl,by omega,hall,fun i t hi=>⟨_,rfl,fun j u hj=>?_⟩⟩
    have hi':i<L.length:=(List.getElem?_eq_some_iff.1 hi).1
    have hj':j<R.k:=by
      have:=(List.getElem?_eq_some_iff.1 hj).1
      rwa [R.len t (hall t (List.mem_of_getElem? hi))] at this
    have hb:i*R.k+j<L.length*R.k:=by
      have:=Nat.mul_le_mul_right R.k (show i+1≤L.length from hi')
      rw[Nat.add_mul,Nat.one_mul] at this
      omega
    rw[Addr.add_mid,Nat.zero_add,(show Has w g T cur from hh).cell,← hj,← R.row_at hall i j t hi hj',← ht,List.getElem?_take,if_pos hb,Array.getElem?_toList]
end
theorem below_own_recs {w0 w w':World} {row:Option Nat} (hb:Below w0.heap.size w0 w) (hg:w.grownBy w' row) (hr:∀ k,row=some k→w0.heap.size≤k):Below w0.heap.size w0 w':=hb.grown hg hb.size hr
section
variable {α:Type} {R:Rec α} {P:Program}
theorem Recs.flat {w:World} {x:Addr} {n:Nat} {L:List α} (h:Recs R w (some x) n L):∀ j u,(R.row L)[j]? = some u→w.cell? (x.add j)=some u:=fun j u hj=>by
  obtain⟨hM,hm,hall,hcell⟩:=h
  have hj2:j<L.length*R.k:=by
    have:=(List.getElem?_eq_some_iff.1 hj).1
    rwa [R.row_len hall] at this
  have hk:=R.pos
  have hd:j / R.k<L.length:=Nat.div_lt_of_lt_mul (by rwa [Nat.mul_comm] at hj2)
  have hmod:j%R.k<R.k:=Nat.mod_lt _ hk
  have e2:j / R.k*R.k+j%R.k=j:=by rw[Nat.mul_comm];exact Nat.div_add_mod j R.k
  have ht:L[j / R.k]? = some L[j / R.k]:=List.getElem?_eq_getElem hd
  obtain⟨y,e,hx2⟩:=hcell (j / R.k) _ ht
  injection e with e
  subst e
  have h4:=R.row_at hall (j / R.k) (j%R.k) _ ht hmod
  rw[e2,hj] at h4
  have h3:=hx2 (j%R.k) u h4.symm
  rwa [e2] at h3
theorem wp_append_recs {w:World} {o:Oper} {a:Act} {K:Act→World→Prop} {Q:Exit→Act→World→Prop} (s x:Operand) (t:TypeId)
    (ho:o.op=.call { callee:=.builtin .append,args:=#[s,x],argTypes:=#[t,t] })
    (T:TypeId) (ht:P.underlying t=some (.slice T)) {z:Value} {by_:Nat} (hinfo:(P.info? T).map (fun i=>(i.zero,i.size,i.bytes))=some (some z,R.k,by_)) (hzk:z.cells.size=R.k) (hby:by_≤128)
    (B:Nat) (v:Value) (L:List α) (hs:a.eval s=v) (hown:OwnR R T B w v L) (ad:Option Addr) (m c:Nat) (M:List α) (hx:a.eval x=.slice ad m c) (hw:Recs R w ad m M) (hc:ad=none→c=0)
    (h63:L.length+m≤1099511627776) (hbase:B≤w.heap.size)
    (h:∀ v' w',OwnR R T B w' v' (L++M)→w.grownBy w' v.ownBlock→Lies w v v'→K (a.put o.dst v') w'):o.wp P a w K Q:=by
  obtain⟨i0,hi,hz0,hz1,hz2⟩:=info_parts hinfo
  rcases ad with _ | ad
  · obtain⟨hM,hm,hall,hcell⟩:=hw
    have h0:m=0:=by
      rcases Nat.eq_zero_or_pos m with h0 | h0
      · exact h0
      · obtain⟨_,e,_⟩:=hcell 0 _ (List.getElem?_eq_getElem (by omega))
        cases e
    subst h0
    obtain rfl:=List.length_eq_zero_iff.1 hM
    obtain rfl:=hc rfl
    have hrun:=run_append_owned_none (P:=P) (w:=w) B t o.type T i0 R.k ht hi v _ _ hown.2
    unfold Oper.wp
    simp[execOp,ho,resolve,invoke,builtin,hs,hx,hrun,Result.andThen]
    exact h v w (by simpa using hown) (World.grownBy.refl w _) (Lies.refl w v)
  · have hf:=hw.flat
    obtain⟨hM,hm,hall,hcell⟩:=hw
    have hbb:(L.length+m)*by_≤140737488355328:=Nat.le_trans (Nat.mul_le_mul h63 hby) (by omega)
    obtain⟨v',w',hr,h2,h3,_,h5⟩:=run_append_own_at (P:=P) w B t o.type T i0 z R.k by_ ht hi hz0 hz1 hz2 hzk R.pos v _ _ hown.2 ad m c (R.row M) (by rw[R.row_len hall,hM]) hf (R.row_one _) (by unfold maxLen;omega) hbb hbase
    unfold Oper.wp execOp
    simp only[ho,resolve,invoke,builtin,Sem.run_bind,Sem.run_pure,Result.andThen_ok,List.map_toArray,List.map_cons,List.map_nil,hs,hx,hr]
    exact h v' w' (OwnR.all hown.1 hall hM h2) h3 (Lies.of h5)
theorem wpList_append_recs {w:World} {ops:Array Oper} {rest:List Oper} {o:Oper} {a:Act} {Q:Exit→Act→World→Prop} (hgd:o.guard=none) (s x:Operand) (t:TypeId)
    (ho:o.op=.call { callee:=.builtin .append,args:=#[s,x],argTypes:=#[t,t] })
    (T:TypeId) (ht:P.underlying t=some (.slice T)) {z:Value} {by_:Nat} (hinfo:(P.info? T).map (fun i=>(i.zero,i.size,i.bytes))=some (some z,R.k,by_)) (hzk:z.cells.size=R.k) (hby:by_≤128)
    (B:Nat) (v:Value) (L:List α) (hs:a.eval s=v) (hown:OwnR R T B w v L) (ad:Option Addr) (m c:Nat) (M:List α) (hx:a.eval x=.slice ad m c) (hw:Recs R w ad m M) (hc:ad=none→c=0)
    (h63:L.length+m≤1099511627776) (hbase:B≤w.heap.size)
    (h:∀ v' w',OwnR R T B w' v' (L++M)→w.grownBy w' v.ownBlock→Lies w v v'→wpList P ops Q rest (a.put o.dst v') w'):wpList P ops Q (o :: rest) a w:=
  wpList_plain hgd fun _ hK=>wp_append_recs s x t ho T ht hinfo hzk hby B v L hs hown ad m c M hx hw hc h63 hbase fun v' w' h1 h2 h3=>hK _ _ (h v' w' h1 h2 h3)
theorem step_append_recs {w:World} {ops:Array Oper} {o:Oper} {a:Act} {K:Act→World→Prop} {Q:Exit→Act→World→Prop} {E:Prop} (hwt:Region.wanted o (yielded ops a.tmps)=true) (s x:Operand) (t:TypeId)
    (ho:o.op=.call { callee:=.builtin .append,args:=#[s,x],argTypes:=#[t,t] })
    (T:TypeId) (ht:P.underlying t=some (.slice T)) {z:Value} {by_:Nat} (hinfo:(P.info? T).map (fun i=>(i.zero,i.size,i.bytes))=some (some z,R.k,by_)) (hzk:z.cells.size=R.k) (hby:by_≤128)
    (B:Nat) (v:Value) (L:List α) (hs:a.eval s=v) (hown:OwnR R T B w v L) (ad:Option Addr) (m c:Nat) (M:List α) (hx:a.eval x=.slice ad m c) (hw:Recs R w ad m M) (hc:ad=none→c=0)
    (h63:L.length+m≤1099511627776) (hbase:B≤w.heap.size)
    (h:∀ v' w',OwnR R T B w' v' (L++M)→w.grownBy w' v.ownBlock→Lies w v v'→K (a.put o.dst v') w'):if Region.wanted o (yielded ops a.tmps)=true then Oper.wp P o a w K Q else E:=by
  rw[if_pos hwt]
  exact wp_append_recs s x t ho T ht hinfo hzk hby B v L hs hown ad m c M hx hw hc h63 hbase h
theorem recs_fresh {w:World} {g:Nat} {T:TypeId} {cs:Array Value} {L:List α} (hall:∀ t,t∈L→R.ok t) (hh:Has w g T cs) (hn:L.length≤maxLen) (hc:∀ (j:Nat) (u:Value),(R.row L)[j]? = some u→cs[j]? = some u):Recs R w (some ⟨g,0,none⟩) L.length L:=by
  refine⟨rfl,hn,hall,fun i t hi=>⟨_,rfl,fun j u hj=>?_⟩⟩
  have hj':j<R.k:=by
    have:=(List.getElem?_eq_some_iff.1 hj).1
    rwa [R.len t (hall t (List.mem_of_getElem? hi))] at this
  rw[Addr.add_mid,Nat.zero_add,hh.cell]
  exact hc _ _ (by rw[R.row_at hall i j t hi hj'];exact hj)
theorem Recs.load {T:TypeId} {d:TypeDesc} (hT:P.underlying T=some d) (hd:d.isRow=true) (hsz:(P.info? T).map (·.size)=some R.k) {w:World} {a:Option Addr} {n i:Nat} {L:List α} {t:α} (h:Recs R w a n L) (hi:L[i]? = some t) :
    ∃ x,a=some x∧(Instr.loadAt T (.pointer (some (x.add (i*R.k))))).run P w=.ok (.agg (R.cells t).toArray) w:=by
  obtain⟨x,rfl,hx⟩:=h.2.2.2 i t hi
  refine⟨x,rfl,?_⟩
  have hok:=h.okay hi
  have h1:=run_loadCells_list (P:=P) w (x.add (i*R.k)) (R.cells t) (fun j v hj=>by rw[Addr.add_add];exact hx j v hj)
  rw[R.len t hok] at h1
  cases hq:P.info? T with
  | none=>simp[hq] at hsz
  | some inf=>
    have hz:inf.size=R.k:=by simpa [hq] using hsz
    have hagg:(isAgg T).run P w=.ok true w:=by
      unfold isAgg
      rw[Sem.run_bind,run_underlying hT w]
      cases d<;>first | rfl | (exact absurd hd (by simp[TypeDesc.isRow]))
    simp[Instr.loadAt,Instr.sureAddr,loadVar,Sem.run_bind,hagg,sizeOf,typeInfo,hq,hz,h1]
end
theorem Recs.load_at {α:Type} {R:Rec α} {P:Program} {T:TypeId} {d:TypeDesc} (hT:P.underlying T=some d) (hd:d.isRow=true) (hsz:(P.info? T).map (·.size)=some R.k) {w:World} {x:Addr} {n i:Nat} {L:List α} {t:α} (h:Recs R w (some x) n L) (hi:L[i]? = some t) :
    (Instr.loadAt T (.pointer (some (x.add (i*R.k))))).run P w=.ok (.agg (R.cells t).toArray) w:=by
  obtain⟨y,e,hy⟩:=h.load hT hd hsz hi
  injection e with e
  subst e
  exact hy
section
variable {α:Type} {R:Rec α} {P:Program} {t:α} {z:Array Value}
theorem Rec.there (w:World) (T:TypeId) (hz:z.size=R.k) (h:R.ok t):(w.alloc (.cells z T)).there w.heap.size 0 (R.cells t).toArray.size:=
  (Has.fresh w T z).there 0 _ (by rw[List.size_toArray,R.len t h,hz];omega)
theorem Rec.all_one (R:Rec α) (t:α):(R.cells t).toArray.all (·.oneCell')=true:=
  Array.all_eq_true_iff_forall_mem.2 fun v hv=>R.one t v (by simpa using hv)
theorem Rec.size_eq {T:TypeId} (hs:(P.info? T).map (·.size)=some R.k) (h:R.ok t):(P.info? T).map (·.size)=some (R.cells t).toArray.size:=by
  rw[hs,List.size_toArray,R.len t h]
theorem Rec.new {w w':World} {T:TypeId} (hz:z.size=R.k) (h:R.ok t) (e:w'=(w.alloc (.cells z T)).setCells w.heap.size 0 (R.cells t)):Has w' w.heap.size T (R.cells t).toArray∧Below w.heap.size w w':=by
  subst e
  refine⟨?_,below_setAll (Nat.le_refl _) _ 0 ((Below.refl _ _).alloc (Nat.le_refl _) _)⟩
  have:=(Has.fresh w T z).putAll (R.cells t) 0
  rwa [putAll_to _ _ 0 (by rw[R.len t h,hz];omega),List.take_zero,List.nil_append] at this
end
section
variable {α:Type} {R:Rec α} {H:Type} {enc:TypeId×Value→H} {P:Program} {W:World} {base:Nat} {spare:Nat→Bool} {held:Bool}
theorem exists_recs (R:Rec α) (W:World) (x:Addr):∀ (n:Nat) (_:∀ i,i<n→∃ t:α,R.ok t∧∀ (j:Nat) (v:Value),(R.cells t)[j]? = some v→W.cell? (x.add (i*R.k+j))=some v),
    ∃ L:List α,L.length=n∧(∀ t,t∈L→R.ok t)∧∀ (i:Nat) (t:α),L[i]? = some t→∀ (j:Nat) (v:Value),(R.cells t)[j]? = some v→W.cell? (x.add (i*R.k+j))=some v
  | 0,_=>⟨[],rfl,(fun _ hl=>by cases hl),fun i t hi=>by simp at hi⟩
  | n+1,h=>by
    obtain⟨L,h1,h2,h3⟩:=exists_recs R W x n (fun i hi=>h i (by omega))
    obtain⟨t,h4,h5⟩:=h n (by omega)
    refine⟨L++[t],by simp[h1],fun u hu=>?_,fun i u hi=>?_⟩
    · rcases List.mem_append.1 hu with h | h
      · exact h2 u h
      · rw[List.mem_singleton.1 h];exact h4
    · rcases Nat.lt_or_ge i n with hlt | hge
      · rw[List.getElem?_append_left (by omega)] at hi
        exact h3 i u hi
      · rw[List.getElem?_append_right (by omega),h1] at hi
        have e:i=n:=by
          rcases Nat.eq_or_lt_of_le hge with e | e
          · exact e.symm
          · rw[List.getElem?_eq_none (by simp;omega)] at hi;cases hi
        subst e
        rw[Nat.sub_self] at hi
        injection hi with hi
        subst hi
        exact h5
theorem open_recs {t T:TypeId} (ht:P.underlying t=some (.slice T)) (hC:P.cellsOf T=R.k)
    (hone:∀ {fuel:Nat} {cs:List Value} {x:DataW H×List MemPlace},DataW.trod enc P W base spare held fuel T cs=some x→∃ t:α,cs=R.cells t∧R.ok t)
    {fuel:Nat} {c:Value} {y:DataW H×List MemPlace} (hf:DataW.trod enc P W base spare held fuel t [c]=some y) :
    ∃ (a:Option Addr) (n q:Nat) (L:List α),c=.slice a n q∧Recs R W a n L∧n≤q∧(a=none→q=0):=by
  rcases Go.Deep.open_slice ht hf with⟨hcs,_⟩ | ⟨x,len,cap,m,q,D,Pl,hcs,_,hl,hm,hmm,_,hcell⟩
  · obtain⟨rfl,_⟩:=List.cons.inj hcs
    exact⟨none,0,0,[],rfl,recs_none R W,Nat.le_refl _,fun _=>rfl⟩
  · obtain⟨rfl,_⟩:=List.cons.inj hcs
    obtain⟨L,h1,h2,h3⟩:=exists_recs R W x len (fun i hi=>by
      obtain⟨cs,hcs,htr⟩:=hcell i (by split at hmm<;>omega)
      obtain⟨t,rfl,hok⟩:=hone htr
      rw[hC] at hcs
      obtain⟨_,hlen,hat⟩:=World.cells?_some hcs
      refine⟨t,hok,fun j u hj=>?_⟩
      have hjk:j<R.k:=by
        have:=(List.getElem?_eq_some_iff.1 hj).1
        rwa [R.len t hok] at this
      rw[← Addr.add_add,hat j hjk,hj])
    exact⟨some x,len,cap,L,rfl,⟨h1,by omega,h2,fun i t hi=>⟨x,rfl,h3 i t hi⟩⟩,hl,fun e=>by cases e⟩
end
section
variable {T:TypeId} {k B n q:Nat} {w w':World} {a:Option Addr}
theorem Has.ne_type {t t':TypeId} {g g':Nat} {cs cs':Array Value} (h:Has w g t cs) (h':Has w g' t' cs') (hT:t≠t'):g≠g':=by
  rintro rfl
  unfold Has at h h'
  rw[h] at h'
  injection h' with e
  injection e with _ e2
  exact hT e2
end
end Go.Proofs.YtijemcfnlbapjaaGreatDoor
namespace Go.Proofs.YtijemcfnlbapjaaGreatDoor
open Go Go.RowKit
section
variable {P:Program} (w:World)
theorem run_part_byte {e:TypeId} (he:P.underlying e=some (.int .u8)) (hs:(P.info? e).map (·.size)=some 1) (l:List (BitVec 8)) (i:Nat) (hi:i<l.length):(part e (blist l).toArray i).run P w=.ok (.int .u8 (nb8 (cb l i))) w:=by
  cases hq:P.info? e with
  | none=>simp[hq] at hs
  | some j=>
    have hz:j.size=1:=by simpa [hq] using hs
    have hat:=blist_at l i hi
    have hagg:(isAgg e).run P w=.ok false w:=by
      unfold isAgg
      rw[Sem.run_bind,run_underlying he w]
      simp
    simp[part,sizeOf,typeInfo,hq,hz,hat,hagg]
theorem cb_ne {l m:List (BitVec 8)} {k:Nat} (hl:l.length=k) (hm:m.length=k):l=m↔∀ i,i<k→cb l i=cb m i:=by
  constructor
  · rintro rfl _ _;rfl
  · intro h
    apply List.ext_getElem (hl.trans hm.symm)
    intro i h1 h2
    have:=h i (by omega)
    unfold cb at this
    rw[List.getD_eq_getElem?_getD,List.getD_eq_getElem?_getD,List.getElem?_eq_getElem h1,List.getElem?_eq_getElem h2] at this
    exact this
theorem loop_eq {l m:List (BitVec 8)} {k:Nat} (f:Nat→Option Bool×Unit→Sem (ForInStep (Option Bool×Unit)))
    (hf:∀ i s',i<k→(f i s').run P w=if cb l i=cb m i then .ok (.yield (none,())) w else .ok (.done (some false,())) w) :
    ∀ (r s:Nat),s+r=k→∃ b:Bool,(b=true↔∀ i,s≤i→i<k→cb l i=cb m i)∧(forIn (List.range' s r) ((none,()):Option Bool×Unit) f).run P w=.ok (if b=true then none else some false,()) w:=by
  intro r
  induction r with
  | zero=>
    intro s hs
    exact⟨true,⟨(fun _ i h1 h2=>by omega),fun _=>rfl⟩,by simp⟩
  | succ r ih=>
    intro s hs
    rw[List.range'_succ,List.forIn_cons,Sem.run_bind,hf s _ (by omega)]
    by_cases hx:cb l s=cb m s
    · rw[if_pos hx]
      simp only[Result.andThen_ok]
      obtain⟨b,hb,he⟩:=ih (s+1) (by omega)
      refine⟨b,⟨fun h i h1 h2=>?_,fun h=>hb.2 (fun i h1 h2=>h i (by omega) h2)⟩,he⟩
      rcases Nat.lt_or_ge s i with h3 | h3
      · exact hb.1 h i h3 h2
      · obtain rfl:i=s:=by omega
        exact hx
    · rw[if_neg hx]
      exact⟨false,⟨(fun h=>by cases h),fun h=>absurd (h s (Nat.le_refl _) (by omega)) hx⟩,by simp⟩
theorem run_equal_bytes {t e:TypeId} {k d:Nat} (ht:P.underlying t=some (.array k e)) (he:P.underlying e=some (.int .u8)) (hs:(P.info? e).map (·.size)=some 1) (l m:List (BitVec 8)) (hl:l.length=k) (hm:m.length=k) :
    (Op.equalIn (d+2) t (.agg (blist l).toArray) (.agg (blist m).toArray)).run P w=.ok (decide (l=m)) w:=by
  cases hq:P.info? e with
  | none=>simp[hq] at hs
  | some j=>
    have hz:j.size=1:=by simpa [hq] using hs
    have hsz:(sizeOf e).run P w=.ok 1 w:=by simp[sizeOf,typeInfo,hq,hz]
    rw[Op.equalIn]
    simp only[Sem.run_bind,run_underlying ht,Result.andThen_ok,hsz,Std.Legacy.Range.forIn_eq_forIn_range',Std.Legacy.Range.size,Nat.sub_zero,Nat.add_one_sub_one,Nat.div_one,Nat.mul_one]
    have step:∀ (f:Nat→Option Bool×Unit→Sem (ForInStep (Option Bool×Unit))),(∀ i s',i<k→(f i s').run P w=if cb l i=cb m i then .ok (.yield (none,())) w else .ok (.done (some false,())) w)→
        (forIn (List.range' 0 k) ((none,()):Option Bool×Unit) f).run P w=.ok (if l=m then none else some false,()) w:=fun f hf=>by
      obtain⟨b,hb,he⟩:=loop_eq w f hf k 0 (by omega)
      rw[he]
      by_cases h:l=m
      · rw[if_pos h,if_pos (hb.2 (fun i _ hi=>(cb_ne hl hm).1 h i hi))]
      · rw[if_neg h,if_neg (fun hbt=>h ((cb_ne hl hm).2 (fun i hi=>hb.1 hbt i (Nat.zero_le _) hi)))]
    rw[step _ (fun i s' hi=>?_)]
    · by_cases h:l=m
      · simp[h]
      · simp[h]
    · have h1:=run_part_byte (P:=P) w he (by simp[hq,hz]) l i (by omega)
      have h2:=run_part_byte (P:=P) w he (by simp[hq,hz]) m i (by omega)
      have h3:=run_equalIn_int (P:=P) w d e .u8 .u8 (nb8 (cb l i)) (nb8 (cb m i)) he
      rw[Sem.run_bind,h1,Result.andThen_ok,Sem.run_bind,h2,Result.andThen_ok,Sem.run_bind,h3,Result.andThen_ok]
      by_cases hx:cb l i=cb m i
      · rw[if_pos hx,show(nb8 (cb l i)==nb8 (cb m i))=true by rw[hx];simp]
        rfl
      · rw[if_neg hx,show(nb8 (cb l i)==nb8 (cb m i))=false by simpa [u8_inj] using hx]
        rfl
theorem run_eql_hash {t e:TypeId} {k:Nat} (ht:P.underlying t=some (.array k e)) (he:P.underlying e=some (.int .u8)) (hs:(P.info? e).map (·.size)=some 1) (l m:List (BitVec 8)) (hl:l.length=k) (hm:m.length=k) :
    (binOp .eql t (.agg (blist l).toArray) (.agg (blist m).toArray)).run P w=.ok (.bool (decide (l=m))) w:=by
  rw[run_eql_struct,run_equal_bytes w ht he hs l m hl hm]
  rfl
theorem run_neq_hash {t e:TypeId} {k:Nat} (ht:P.underlying t=some (.array k e)) (he:P.underlying e=some (.int .u8)) (hs:(P.info? e).map (·.size)=some 1) (l m:List (BitVec 8)) (hl:l.length=k) (hm:m.length=k) :
    (binOp .neq t (.agg (blist l).toArray) (.agg (blist m).toArray)).run P w=.ok (.bool (!decide (l=m))) w:=by
  rw[run_neq_struct,run_equal_bytes w ht he hs l m hl hm]
  rfl
end
theorem yieldsIf_eql {P:Program} {ops:Array Oper} {S:World→Prop} {op:Oper} {a:Act} (hw:Region.wanted op (yielded ops a.tmps)=true) (t e yt:TypeId) (k:Nat) (x y:Operand) (ho:op.op=.binOp .eql t x y yt)
    (l m:List (BitVec 8)) (hx:a.eval x=.agg (blist l).toArray) (hy:a.eval y=.agg (blist m).toArray) (hg:P.eqGuardType P.depth t=false) (ht:P.underlying t=some (.array k e)) (he:P.underlying e=some (.int .u8)) (hs:(P.info? e).map (·.size)=some 1) (hl:l.length=k) (hm:m.length=k) :
    YieldsIf P ops S op (.bool (decide (l=m))) a:=
  .inl ⟨hw,fun w _=>by
    unfold execOp
    simp only[ho,hx,hy,Sem.run_bind,run_eqGuard_agg w .eql t x y _ _ hg,Result.andThen_ok,run_eql_hash w ht he hs l m hl hm,Sem.run_pure]⟩
theorem yieldsIf_neq {P:Program} {ops:Array Oper} {S:World→Prop} {op:Oper} {a:Act} (hw:Region.wanted op (yielded ops a.tmps)=true) (t e yt:TypeId) (k:Nat) (x y:Operand) (ho:op.op=.binOp .neq t x y yt)
    (l m:List (BitVec 8)) (hx:a.eval x=.agg (blist l).toArray) (hy:a.eval y=.agg (blist m).toArray) (hg:P.eqGuardType P.depth t=false) (ht:P.underlying t=some (.array k e)) (he:P.underlying e=some (.int .u8)) (hs:(P.info? e).map (·.size)=some 1) (hl:l.length=k) (hm:m.length=k) :
    YieldsIf P ops S op (.bool (!decide (l=m))) a:=
  .inl ⟨hw,fun w _=>by
    unfold execOp
    simp only[ho,hx,hy,Sem.run_bind,run_eqGuard_agg w .neq t x y _ _ hg,Result.andThen_ok,run_neq_hash w ht he hs l m hl hm,Sem.run_pure]⟩
theorem yieldsIf_neq_same {P:Program} {ops:Array Oper} {S:World→Prop} {op:Oper} {a:Act} (hw:Region.wanted op (yielded ops a.tmps)=true) (t e yt:TypeId) (k:Nat) (x y:Operand) (ho:op.op=.binOp .neq t x y yt)
    (l:List (BitVec 8)) (hx:a.eval x=.agg (blist l).toArray) (hy:a.eval y=.agg (blist l).toArray) (hg:P.eqGuardType P.depth t=false) (ht:P.underlying t=some (.array k e)) (he:P.underlying e=some (.int .u8)) (hs:(P.info? e).map (·.size)=some 1) (hl:l.length=k) :
    YieldsIf P ops S op (.bool false) a:=by
  have h:=yieldsIf_neq (S:=S) hw t e yt k x y ho l l hx hy hg ht he hs hl hl
  rwa [decide_eq_true rfl] at h
end Go.Proofs.YtijemcfnlbapjaaGreatDoor
namespace Go.Proofs.YtijemcfnlbapjaaGreatDoor
open Go Go.RowKit
theorem str_of (s:ByteArray):∃ l,s=strB l:=by
  refine⟨s.data.toList.map fun x=>BitVec.ofNat 8 x.toNat,?_⟩
  unfold strB strOfNums
  apply ByteArray.ext
  apply Array.ext'
  simp only[List.map_map]
  apply List.ext_getElem?
  intro i
  rw[List.getElem?_map]
  cases s.data.toList[i]? with
  | none=>rfl
  | some x=>
    show some x=some (UInt8.ofNat (nb8 (BitVec.ofNat 8 x.toNat)).toNat)
    congr 1
    have hx:=x.toNat_lt
    have:(nb8 (BitVec.ofNat 8 x.toNat)).toNat=x.toNat:=by
      show(BitVec.ofNat 8 x.toNat).toNat=x.toNat
      rw[BitVec.toNat_ofNat]
      omega
    rw[this,UInt8.ofNat_toNat]
theorem strB_inj {l m:List (BitVec 8)} : strB l=strB m↔l=m:=by
  constructor
  · intro h
    have h2:(strB l).data.toList=(strB m).data.toList:=by rw[h]
    unfold strB strOfNums at h2
    simp only[List.map_map] at h2
    refine List.map_inj_right (f:=((fun n:Int=>UInt8.ofNat n.toNat)∘nb8)) ?_|>.1 (by simpa using h2)
    intro x y hxy
    have h3:=congrArg UInt8.toNat hxy
    simp only[Function.comp_apply,nb8,Int.toNat_natCast,UInt8.toNat_ofNat'] at h3
    apply BitVec.eq_of_toNat_eq
    have:=x.isLt
    have:=y.isLt
    omega
  · rintro rfl;rfl
theorem strB_beq (l m:List (BitVec 8)):((strB l).toList==(strB m).toList)=decide (l=m):=by
  by_cases h:l=m
  · subst h
    simp
  · rw[decide_eq_false h]
    refine beq_eq_false_iff_ne.2 (fun e=>h (strB_inj.1 ?_))
    rw[ByteArray.toList_eq,ByteArray.toList_eq] at e
    exact ByteArray.ext (Array.ext' e)
end Go.Proofs.YtijemcfnlbapjaaGreatDoor
namespace Go.Proofs.YtijemcfnlbapjaaGreatDoor
open Go Go.RowKit Go.ChangeShapes Go.WideShapes
section
variable {H:Type} {enc:TypeId×Value→H} {P:Program} {W:World} {base:Nat} {v:Value} {d:DataW H} {p:List MemPlace}
end
end Go.Proofs.YtijemcfnlbapjaaGreatDoor
namespace Go.Proofs.YtijemcfnlbapjaaGreatDoor
open Go Go.RowKit
def Tab32 (w:World) (g:Nat) (l:List (BitVec 32)):Prop:=∀ i,i<l.length→w.cell? ⟨g,i,none⟩=some (.int .u32 (nb32 (l.getD i 0)))
theorem Tab32.keep {w w':World} {g:Nat} {l:List (BitVec 32)} (h:Tab32 w g l) (hk:∀ p:Addr,(w.cell? p).isSome=true→w'.cell? p=w.cell? p):Tab32 w' g l:=fun i hi=>by
  rw[hk _ (by rw[h i hi];rfl)]
  exact h i hi
theorem Tab32.below {w w':World} {g:Nat} {l:List (BitVec 32)} (h:Tab32 w g l) (hb:Below w.heap.size w w'):Tab32 w' g l:=h.keep fun _ hp=>hb.cell (isSome_lt hp)
theorem Tab32.past {w:World} {g:Nat} {l:List (BitVec 32)} (h:Tab32 w g l) (o:Obj):Tab32 (w.alloc o) g l:=h.keep fun p hp=>World.cell?_alloc_lt w o p (isSome_lt hp)
theorem Tab32.lt {w:World} {g:Nat} {l:List (BitVec 32)} (h:Tab32 w g l) (hl:0<l.length):g<w.heap.size:=isSome_lt (p:=⟨g,0,none⟩) (by rw[h 0 hl];rfl)
def tabD {H:Type} (l:List (BitVec 32)):DataW H:=.agg (l.map fun x=>.lit (.int .u32 (nb32 x)))
section
variable {P:Program} {w:World}
theorem laid_tab {n:String} {d:DataW Unit} {r:List (String×DataW Unit)} {ps:List MemPlace} {g:Nat} {t e:TypeId} {k:Nat} {l:List (BitVec 32)}
    (h:DataW.LaidVars P w ((n,d) :: r) ps) (hg:P.globalNamed n=some g) (ht:(P.globals[g]?).map (·.type)=some t) (hu:P.underlying t=some (.array k e)) (he:P.underlying e=some (.int .u32)) (hc:P.cellsOf e=1) (hd:d=tabD l) :
    Tab32 w g l∧∃ q,DataW.LaidVars P w r q:=by
  obtain⟨g',t',cs,fuel,p,q,hg',ht',hv,hx,hr,_⟩:=h
  obtain rfl:=Option.some.inj (hg.symm.trans hg')
  obtain rfl:=Option.some.inj (ht.symm.trans ht')
  refine⟨?_,q,hr⟩
  obtain⟨xs,m,_,hx1,hlen,hxl,hel⟩:=DataW.trod_array hu hx
  subst hd
  simp only[tabD,Prod.mk.injEq,DataW.agg.injEq] at hx1
  intro i hi
  have hxs:(xs.map (·.1)).length=l.length:=by rw[← hx1.1,List.length_map]
  rw[List.length_map] at hxs
  have h1:=hel i (by omega)
  rw[hc,Nat.mul_one] at h1
  have hix:i<xs.length:=by omega
  rw[List.getElem?_eq_getElem hix] at h1
  obtain⟨z,e1,e2,hw⟩:=DataW.trod_int he h1
  have hx2:=congrArg (fun L=>L[i]?) hx1.1
  simp only[List.getElem?_map,List.getElem?_eq_getElem hi,List.getElem?_eq_getElem hix,Option.map_some,Option.some.injEq] at hx2
  rw[e2] at hx2
  simp only[DataW.lit.injEq,Lit.int.injEq,true_and] at hx2
  rw[World.var?_cell hg hv i,← Array.getElem?_toList,List.getD_eq_getElem?_getD,List.getElem?_eq_getElem hi]
  have h3:(cs.toList.drop i)[0]? = some (.int .u32 z):=by
    have:=congrArg (fun L=>L[0]?) e1
    simpa [List.getElem?_take] using this
  rw[List.getElem?_drop,Nat.add_zero] at h3
  rw[h3]
  simp only[Option.getD_some]
  rw[hx2]
end
end Go.Proofs.YtijemcfnlbapjaaGreatDoor
namespace Go.Proofs.YtijemcfnlbapjaaGreatDoor
open Go Go.RowKit Go.ChangeShapes Go.WideShapes
section
variable {P:Program} {w:World} {g:Nat} {T t:TypeId} {cs:Array Value} {d:TypeDesc}
theorem Has.load_var (h:Has w g T cs) (hu:P.underlying t=some d) (hd:d.isRow=true) (hs:(P.info? t).map (·.size)=some cs.size):(loadVar t ⟨g,0,none⟩).run P w=.ok (.agg cs) w:=by
  have:=run_loadVar_mid (P:=P) w g 0 t cs.toList d h.range hu hd (by rw[Array.length_toList];exact hs)
  rwa [Array.toArray_toList] at this
theorem Has.load_agg (h:Has w g T cs) (hu:P.underlying t=some d) (hd:d.isRow=true) (hs:(P.info? t).map (·.size)=some cs.size):(Instr.loadAt t (.pointer (some ⟨g,0,none⟩))).run P w=.ok (.agg cs) w:=by
  simp only[Instr.loadAt,Instr.sureAddr,Sem.run_bind,Sem.run_pure,Result.andThen_ok,h.load_var hu hd hs]
theorem Has.whole_cs {cs2:Array Value} (h:Has w g T cs) (hl:cs2.size=cs.size):Has (w.setCells g 0 cs2.toList) g T cs2:=by
  have:=h.putAll cs2.toList 0
  rwa [putAll_to _ _ 0 (by rw[Array.length_toList];omega),List.take_zero,List.nil_append,Array.toArray_toList] at this
end
theorem wcells_one (n:Nat) (f:Nat→BitVec 32):(wcells n f).all (·.oneCell')=true:=
  Array.all_eq_true_iff_forall_mem.2 fun v hv=>by
    unfold wcells cellsOf at hv
    simp only[List.mem_toArray,List.mem_map,List.mem_range] at hv
    obtain⟨j,_,rfl⟩:=hv
    rfl
theorem Tab32.load {P:Program} {w:World} {g k:Nat} {t:TypeId} {d:TypeDesc} {l:List (BitVec 32)} (h:Tab32 w g l) (hl:l.length=k) (hu:P.underlying t=some d) (hd:d.isRow=true) (hs:(P.info? t).map (·.size)=some k) :
    (Instr.loadAt t (.pointer (some ⟨g,0,none⟩))).run P w=.ok (.agg (wcells k fun j=>l.getD j 0)) w:=by
  have hr:w.rangeAt g 0 (wcells k fun j=>l.getD j 0).toList:=fun j v hv=>by
    rw[Array.getElem?_toList] at hv
    have hj:j<k:=by
      rcases Nat.lt_or_ge j k with h1 | h1
      · exact h1
      · rw[Array.getElem?_eq_none (by rw[wcells_size];exact h1)] at hv;cases hv
    rw[wcells_at _ hj] at hv
    rw[Nat.zero_add,h j (by omega),hv]
  have:=run_loadVar_mid (P:=P) w g 0 t _ d hr hu hd (by rw[Array.length_toList,wcells_size];exact hs)
  rw[Array.toArray_toList] at this
  simp only[Instr.loadAt,Instr.sureAddr,Sem.run_bind,Sem.run_pure,Result.andThen_ok,this]
theorem run_index_arr {P:Program} {t e:TypeId} {n:Nat} {k:IntKind} {cs:Array Value} {i:Nat} {v:Value} (h:P.underlying t=some (.array n e)) (hu:P.underlying e=some (.int k)) (hs:(P.info? e).map (·.size)=some 1) (hi:i<n) (hv:cs[i]? = some v) (w:World) :
    (Instr.index t (.agg cs) (.int .i64 (i:Int))).run P w=.ok v w:=by
  have h1:(0:Int)≤(i:Int)∧(i:Int)<(n:Int):=by omega
  have hagg:(isAgg e).run P w=.ok false w:=by
    unfold isAgg
    rw[Sem.run_bind,run_underlying hu w]
    rfl
  cases hq:P.info? e with
  | none=>simp[hq] at hs
  | some inf=>
    have hz:inf.size=1:=by simpa [hq] using hs
    have hix:(i:Int)<(n:Int):=h1.2
    simp[Instr.index,run_underlying h,asIntOf,hi,sizeOf,typeInfo,hq,hz,part,hagg,hv,Sem.run_bind]
theorem size_byte:(Tryz.prog.info? 5).map (·.size)=some 1:=by kernel_rfl
theorem copy_bytes_at {T:TypeId} (w0:World) (g u m n c k:Nat) (a:Option Addr) (l:List (BitVec 8)) (cs:Array Value) (hh:Has w0 g T cs) (hw:Bytes8 w0 a n l) (hk:k=Nat.min n m) (hu:u+m≤cs.size) :
    (Builtin.copy_ #[130,130] 3 #[.slice (some ⟨g,u,none⟩) m m,.slice a n c]).run Tryz.prog w0=.ok (goInt k) (w0.setCells g u (blist (l.take k))):=by
  have hkn:k≤n:=by rw[hk];exact Nat.min_le_left _ _
  have hkm:k≤m:=by rw[hk];exact Nat.min_le_right _ _
  have hlen:(l.take k).length=k:=by rw[List.length_take,hw.1];omega
  rcases Nat.eq_zero_or_pos k with h0 | h0
  · subst h0
    have:=run_copy_none (P:=Tryz.prog) w0 130 130 3 5 (some ⟨g,u,none⟩) a m m n c Tryz.underlying130 size_byte hk.symm
    rw[this,List.take_zero]
    rfl
  · obtain⟨ad,rfl,_⟩:=hw.2.2 0 (by omega)
    have:=run_copy_cells (P:=Tryz.prog) w0 130 130 3 5 g u m m ad n c (blist (l.take k)) Tryz.underlying130 size_byte
      (by rw[blist_length,hlen,hk])
      (fun j v hv=>by
        have hj:j<k:=by
          have:=(List.getElem?_eq_some_iff.1 hv).1
          rwa [blist_length,hlen] at this
        obtain⟨x,e,hx⟩:=hw.2.2 j (by omega)
        injection e with e
        subst e
        rw[hx,← hv,blist_at (l.take k) j (by omega)]
        congr 3
        unfold cb
        rw[List.getD_eq_getElem?_getD,List.getD_eq_getElem?_getD,List.getElem?_take,if_pos hj])
      (fun j hj=>by
        rw[blist_length,hlen] at hj
        rw[hh.cell,Array.getElem?_eq_getElem (by omega)]
        rfl)
      (fun j hj=>hh.loose _) (blist_one _)
    rw[this,blist_length,hlen]
end Go.Proofs.YtijemcfnlbapjaaGreatDoor
