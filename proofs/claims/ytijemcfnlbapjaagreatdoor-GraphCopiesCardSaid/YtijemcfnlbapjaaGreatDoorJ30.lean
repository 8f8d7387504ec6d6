/- lists of transactions compared · law 14: a graph and the reference's list, in memory (by hand) · law 14: play (mkgse.py) -/
import Derived.Test.YtijemcfnlbapjaaGreatDoorJ05
import Derived.Test.YtijemcfnlbapjaaGreatDoorJ04
import Derived.Test.YtijemcfnlbapjaaGreatDoorJ03
import Derived.Test.YtijemcfnlbapjaaGreatDoorJ29
import Derived.Test.YtijemcfnlbapjaaGreatDoorJ25
namespace Go.Proofs.YtijemcfnlbapjaaGreatDoor
open Go Go.RowKit Go.ChangeShapes Go.WideShapes
theorem Gr.txs_load' {w:World} {x:Addr} {k i:Nat} {L:List Tx.V} {v:Tx.V} (h:Txs w (some x) k L) (hi:L[i]? = some v):(Instr.loadAt 34 (.pointer (some (x.add (i*3))))).run Tryz.prog w=.ok (txv v.a v.n v.q v.b v.m v.r v.t.firm) w:=by
  obtain⟨a,n,q,b,m,r,t⟩:=v
  obtain⟨y,e,hx,_⟩:=h.load hi
  obtain rfl:=Option.some.inj e
  exact hx
set_option maxRecDepth 100000 in
set_option maxHeartbeats 8000000 in
theorem Gr.txs_same (a:Option Addr) (n q:Nat) (vs:List Tx.V) (b:Option Addr) (m r:Nat) (us:List Tx.V) (w:World) (h:Txs w a n vs) (k:Txs w b m us) (he:vs.map (·.t)=us.map (·.t)) :
    Calls Tryz.prog 44 #[.slice a n q,.slice b m r] w fun e w'=>e=.returned (.bool true)∧Below w.heap.size w w':=by
  have hl:n=m:=by
    have:=congrArg List.length he
    rw[List.length_map,List.length_map,h.1.1,k.1.1] at this
    exact this
  subst hl
  have HH:=Lib.hid h
  have HK:=Lib.hid k
  have HE:=Lib.hid he
  have hnmx:n≤9223372036854775807:=h.1.2.1
  clear h k he
  go_enter Tryz.func44,Tryz.ntmps44
  go_wp2
  go_loopw [13] (fun iv wr=>∃ (i:Nat),i≤n∧iv=.int .i64 i∧Below w.heap.size w wr) (fun iv _=>n-(intOf iv).toNat)
  case atStart=>exact⟨0,Nat.zero_le _,rfl,Below.refl _ _⟩
  case round=>
    obtain⟨i,hi,rfl,hb⟩:=hrel
    by_cases hlt:i<n
    · have hii:(i:Int)<(n:Int):=by omega
      have hi0:(0:Int)≤(i:Int):=by omega
      obtain⟨v,hv⟩:=HH.out.1.get hlt
      obtain⟨u,hu⟩:=HK.out.1.get hlt
      obtain⟨x,rfl,_⟩:=HH.out.1.2.2.2 i v hv
      obtain⟨y,rfl,_⟩:=HK.out.1.2.2.2 i u hu
      have hvu:v.t=u.t:=by
        have h1:(vs.map (·.t))[i]? = some v.t:=by rw[List.getElem?_map,hv];rfl
        have h2:(us.map (·.t))[i]? = some u.t:=by rw[List.getElem?_map,hu];rfl
        rw[HE.out,h2] at h1
        exact(Option.some.inj h1).symm
      have HV:=Lib.hid (And.intro (HH.out.2 v (List.mem_of_getElem? hv)) (HK.out.2 u (List.mem_of_getElem? hu)))
      have HEQ:=Lib.hid (show decide (v.t=u.t)=true from decide_eq_true hvu)
      go_upto_region 6 with fail
      obtain⟨ws,hws⟩:∃ ww,ww=wr.drew:=⟨_,rfl⟩
      have hBs:Below w.heap.size w ws:=by rw[hws];exact hb.drew
      have lV:=fun(wq:World) (hSw:Held ws wq)=>Gr.txs_load' ((HH.out.below hBs).below hSw.below) hv
      have lU:=fun(wq:World) (hSw:Held ws wq)=>Gr.txs_load' ((HK.out.below hBs).below hSw.below) hu
      clear hb hvu
      refine wp_region_held_drew (S:=Held ws) (by kernel_rfl) (by rw[hws];exact Held.refl _) (fun hHeld=>?_)
      rw[← hws] at hHeld ⊢
      clear hws
      refine tka (v:=?_) 0 16 rfl rfl hHeld (Or.inl ⟨by rfl,?_⟩) rfl ?_
      rotate_left
      · intro wq hSw
        go_simp
        try with_reducible rfl
      simp only[ts0,ts1]
      refine tka (v:=?_) 1 17 rfl rfl hHeld (Or.inl ⟨by rfl,?_⟩) rfl ?_
      rotate_left
      · intro wq hSw
        go_simp
        try with_reducible rfl
      simp only[ts0,ts1]
      refine tka (v:=?_) 2 18 rfl rfl hHeld (Or.inl ⟨by rfl,?_⟩) rfl ?_
      rotate_left
      · intro wq hSw
        go_simp
        try with_reducible rfl
      simp only[ts0,ts1]
      refine tka 3 19 rfl rfl hHeld (yieldsIf_load_agg (by rfl) 34 (.tmp 18) rfl _ _ (by rfl) (fun wq hSw=>lV wq hSw)) rfl ?_
      simp only[ts0,ts1]
      refine tka (v:=?_) 4 20 rfl rfl hHeld (Or.inl ⟨by rfl,?_⟩) rfl ?_
      rotate_left
      · intro wq hSw
        go_simp
        try with_reducible rfl
      simp only[ts0,ts1]
      refine tka (v:=?_) 5 21 rfl rfl hHeld (Or.inl ⟨by rfl,?_⟩) rfl ?_
      rotate_left
      · intro wq hSw
        go_simp
        try with_reducible rfl
      simp only[ts0,ts1]
      refine tka (v:=?_) 6 22 rfl rfl hHeld (Or.inl ⟨by rfl,?_⟩) rfl ?_
      rotate_left
      · intro wq hSw
        go_simp
        try with_reducible rfl
      simp only[ts0,ts1]
      refine tka 7 23 rfl rfl hHeld (yieldsIf_load_agg (by rfl) 34 (.tmp 22) rfl _ _ (by rfl) (fun wq hSw=>lU wq hSw)) rfl ?_
      simp only[ts0,ts1]
      refine wpAnyH_ready (rs:=[8]) (by kernel_rfl) (by simp) ?_
      refine AllReadyH.cons rfl (fun K hK=>?_) AllReadyH.nil
      go_simp
      go_at_call 17
      refine(txeq_any v.a v.n v.q v.b v.m v.r v.t u.a u.n u.q u.b u.m u.r u.t ws (HV.out.1.below hBs) (HV.out.2.below hBs)).mono ?_
      rw[HEQ.out]
      rintro e w9 ⟨rfl,hb9⟩
      refine hK.out _ _ (Held.of hb9) (fun _=>?_)
      clear hK K
      try simp only[Act.put,List.setIfInBounds_toArray,ts0,ts1]
      replace hHeld:=Held.of hb9
      refine tka (v:=?_) 9 25 rfl rfl hHeld (Or.inl ⟨by rfl,?_⟩) rfl ?_
      rotate_left
      · intro wq hSw
        go_simp
        try with_reducible rfl
      simp only[ts0,ts1]
      refine wpAnyH_done (by kernel_rfl) ?_ _
      clear lV lU hHeld
      go_wp2
      go_roundw
      case rel=>exact⟨i+1,by omega,by go_num,hBs.trans (hb9.mono hBs.size)⟩
      case measure=>(simp[intOf];try omega)
    · have hii:¬ (i:Int)<(n:Int):=by omega
      go_wp2
      go_ret
      exact⟨rfl,hb⟩
end Go.Proofs.YtijemcfnlbapjaaGreatDoor
namespace Go.Proofs.YtijemcfnlbapjaaGreatDoor
open Go Go.RowKit Go.ChangeShapes Go.WideShapes
namespace Gr
structure Pl (W w:World) (g bn bs:Nat) (M:List Nd) (nx:Nat) (xa:Option Addr) (xn xq:Nat) (L:List Rn):Prop where
  ga:At w g bn bs M nx
  r:Recs rnRec w xa xn L
  q:xn≤xq∧(xa=none→xq=0)
  nf:∀ x,xa=some x→x.block≠g∧x.block≠bn∧x.block≠bs∧x.block<w.heap.size
  sim:Sim M L
  va:∀ y,y∈L→y.v.At W
  ok:∀ x,x∈M→Am.Good x.fee∧x.wt=Tx.weight x.x.t
  fr:W.heap.size≤g∧W.heap.size≤bn∧W.heap.size≤bs
abbrev F3 (g bn bs:Nat):Nat→Prop:=fun j=>j=g∨j=bn∨j=bs
section
variable {W w w':World} {g bn bs:Nat} {M:List Nd} {nx:Nat} {xa:Option Addr} {xn xq:Nat} {L:List Rn}
theorem At.lt3 (h:At w g bn bs M nx):g<w.heap.size∧bn<w.heap.size∧bs<w.heap.size:=by
  obtain⟨S,hS,_⟩:=h.sp
  exact⟨h.has.lt,h.grp.map.lt,hS.lt⟩
theorem Pl.moved {G:Nat→Prop} (h:Pl W w g bn bs M nx xa xn xq L) (hm:Moved G w w') (h0:∀ j,G j→j≠g∧j≠bn∧j≠bs∧∀ x,x∈M→¬ x.F j) (h1:∀ x,xa=some x→¬ G x.block):Pl W w' g bn bs M nx xa xn xq L:=
  ⟨h.ga.moved hm h0,h.r.moved hm (fun _=>h1),h.q,fun x e=>⟨(h.nf x e).1,(h.nf x e).2.1,(h.nf x e).2.2.1,Nat.lt_of_lt_of_le (h.nf x e).2.2.2 hm.size⟩,h.sim,h.va,h.ok,h.fr⟩
theorem Pl.below (h:Pl W w g bn bs M nx xa xn xq L) (hb:Below w.heap.size w w'):Pl W w' g bn bs M nx xa xn xq L:=
  h.moved (G:=fun _=>False) (Moved.of_below hb) (fun _ e=>e.elim) (fun _ _ e=>e)
theorem Pl.next {M2:List Nd} {nx2:Nat} {ya:Option Addr} {yn yq:Nat} {L2:List Rn} (h:Pl W w g bn bs M nx xa xn xq L) (hA:At w' g bn bs M2 nx2) (hr:Recs rnRec w' ya yn L2) (hq:yn≤yq∧(ya=none→yq=0))
    (hx:∀ x,ya=some x→w.heap.size≤x.block∧x.block<w'.heap.size) (hs:Sim M2 L2) (hv:∀ y,y∈L2→y.v.At W) (hk:∀ x,x∈M2→Am.Good x.fee∧x.wt=Tx.weight x.x.t):Pl W w' g bn bs M2 nx2 ya yn yq L2:=by
  obtain⟨h1,h2,h3⟩:=h.ga.lt3
  exact⟨hA,hr,hq,fun x e=>by have:=hx x e;omega,hs,hv,hk,h.fr⟩
theorem Pl.vb (h:Pl W w g bn bs M nx xa xn xq L) (hb:Below W.heap.size W w'):∀ y,y∈L→y.v.At w':=fun y hy=>TxAt.below (h.va y hy) hb
theorem Pl.len (h:Pl W w g bn bs M nx xa xn xq L):xn=L.length∧L.length≤nx∧nx≤1000:=⟨h.r.1.symm,by rw[← h.sim.len];exact h.ga.le,h.ga.n1⟩
theorem f3_low (h:Pl W w g bn bs M nx xa xn xq L):∀ j,F3 g bn bs j→W.heap.size≤j:=fun j hj=>by
  obtain⟨h1,h2,h3⟩:=h.fr
  rcases hj with rfl | rfl | rfl<;>assumption
theorem ok_push {x:Nd} (h:∀ x,x∈M→Am.Good x.fee∧x.wt=Tx.weight x.x.t) (h1:Am.Good x.fee) (h2:x.wt=Tx.weight x.x.t):∀ y,y∈M++[x]→Am.Good y.fee∧y.wt=Tx.weight y.x.t:=fun y hy=>by
  rcases List.mem_append.1 hy with hy | hy
  · exact h y hy
  · rw[List.mem_singleton.1 hy];exact⟨h1,h2⟩
theorem rputE_good {t:Tx.T} {fee:Int} (h:rputE L t fee=0):Am.Good fee:=by
  unfold rputE at h
  by_cases hc:Tx.check t=0
  · rw[if_pos hc] at h
    by_cases hg:Am.Good fee
    · exact hg
    · rw[if_neg hg] at h;exact absurd h (by decide)
  · rw[if_neg hc] at h;exact absurd h hc
theorem ok_rest {I:List (List (BitVec 8))} (h:∀ x,x∈M→Am.Good x.fee∧x.wt=Tx.weight x.x.t):∀ x,x∈rest M I→Am.Good x.fee∧x.wt=Tx.weight x.x.t:=fun x hx=>h x (List.mem_filter.1 hx).1
theorem va_stay {I:List (List (BitVec 8))} (h:∀ y,y∈L→y.v.At W):∀ y,y∈rstay L I→y.v.At W:=fun y hy=>h y (List.mem_filter.1 hy).1
end
def PlayPost (W w0:World) (g bn bs nx k:Nat) (xa:Option Addr) (e:Ending) (w':World):Prop:=
  ∃ (ya:Option Addr) (yn yq:Nat) (M2:List Nd) (nx2:Nat) (L2:List Rn),e=.returned (.slice ya yn yq)∧Pl W w' g bn bs M2 nx2 ya yn yq L2∧Moved (F3 g bn bs) w0 w'∧nx2≤nx+k∧ya≠none∧∀ x,ya=some x→xa=some x∨w0.heap.size≤x.block
end Gr
end Go.Proofs.YtijemcfnlbapjaaGreatDoor
namespace Go.Proofs.YtijemcfnlbapjaaGreatDoor
open Go Go.RowKit Go.ChangeShapes Go.WideShapes
section
variable {α:Type} {R:Rec α} {P:Program}
theorem Gr.wpList_append_nn {w:World} {ops:Array Oper} {rest:List Oper} {o:Oper} {a:Act} {Q:Exit→Act→World→Prop} (hgd:o.guard=none) (s x:Operand) (t:TypeId)
    (ho:o.op=.call { callee:=.builtin .append,args:=#[s,x],argTypes:=#[t,t] })
    (T:TypeId) (ht:P.underlying t=some (.slice T)) {z:Value} {by_:Nat} (hinfo:(P.info? T).map (fun i=>(i.zero,i.size,i.bytes))=some (some z,R.k,by_)) (hzk:z.cells.size=R.k) (hby:by_≤128)
    (B:Nat) (v:Value) (L:List α) (hs:a.eval s=v) (hown:OwnR R T B w v L) (ad:Option Addr) (m c:Nat) (M:List α) (hx:a.eval x=.slice ad m c) (hw:Recs R w ad m M) (hc:ad=none→c=0)
    (h63:L.length+m≤1099511627776) (hbase:B≤w.heap.size)
    (h:∀ v' w',OwnR R T B w' v' (L++M)→w.grownBy w' v.ownBlock→Lies w v v'→(v.ownBlock.isSome=true→v'.ownBlock.isSome=true)→wpList P ops Q rest (a.put o.dst v') w'):wpList P ops Q (o :: rest) a w:=by
  refine wpList_plain hgd fun K hK=>?_
  obtain⟨i0,hi,hz0,hz1,hz2⟩:=info_parts hinfo
  rcases ad with _ | ad
  · obtain⟨hM,hm,hall,hcell⟩:=hw
    have h0:m=0:=by
      rcases Nat.eq_zero_or_pos m with h0 | h0
      · exact h0
      · obtain⟨_,e,_⟩:=hcell 0 _ (List.getElem?_eq_getElem (by omega))
        cases e
    subst h0
    obtain rfl:=List.length_eq_zero_iff.1 hM
    obtain rfl:=hc rfl
    have hrun:=run_append_owned_none (P:=P) (w:=w) B t o.type T i0 R.k ht hi v _ _ hown.2
    unfold Oper.wp
    simp[execOp,ho,resolve,invoke,builtin,hs,hx,hrun,Result.andThen]
    exact hK _ _ (h v w (by simpa using hown) (World.grownBy.refl w _) (Lies.refl w v) (fun e=>e))
  · have hf:=hw.flat
    obtain⟨hM,hm,hall,hcell⟩:=hw
    have hbb:(L.length+m)*by_≤140737488355328:=Nat.le_trans (Nat.mul_le_mul h63 hby) (by omega)
    obtain⟨v',w',hr,h2,h3,_,h5⟩:=run_append_own_at (P:=P) w B t o.type T i0 z R.k by_ ht hi hz0 hz1 hz2 hzk R.pos v _ _ hown.2 ad m c (R.row M) (by rw[R.row_len hall,hM]) hf (R.row_one _) (by unfold maxLen;omega) hbb hbase
    unfold Oper.wp execOp
    simp only[ho,resolve,invoke,builtin,Sem.run_bind,Sem.run_pure,Result.andThen_ok,List.map_toArray,List.map_cons,List.map_nil,hs,hx,hr]
    exact hK _ _ (h v' w' (OwnR.all hown.1 hall hM h2) h3 (Lies.of h5) (fun e=>by
      rcases h5 with h5 | h5
      · rw[h5];exact e
      · rw[h5];rfl))
end
theorem Gr.own_size {α:Type} {R:Rec α} {T:TypeId} {B:Nat} {w:World} {a:Option Addr} {n q:Nat} {L:List α} (h:OwnR R T B w (.slice a n q) L) (hn:0<n):∃ g cur,a=some ⟨g,0,none⟩∧B≤g∧Has w g T cur∧n*R.k≤cur.size:=by
  obtain⟨hall,hl,⟨e,h0⟩ | ⟨G,cap,cur,e,hg,hh,hn2,hm,hc,ht⟩⟩:=h
  · injection e with _ e2
    omega
  · injection e with e1 e2 e3
    subst e1
    subst e2
    refine⟨G,cur,rfl,hg,hh,?_⟩
    have h1:min (L.length*R.k) cur.toList.length=L.length*R.k:=by rw[← List.length_take,ht,R.row_len hall]
    have h2:=Nat.min_le_right (L.length*R.k) cur.toList.length
    rw[h1] at h2
    exact h2
theorem Gr.has_putAll {T:TypeId} {g:Nat} : ∀ (vs:List Value) {w:World} {cur:Array Value} (o:Nat),Has w g T cur→∃ cur',Has (w.setCells g o vs) g T cur'∧cur'.size=cur.size
  | [],w,cur,o,h=>⟨cur,h,rfl⟩
  | v :: vs,w,cur,o,h=>by
    obtain⟨c',h1,h2⟩:=Gr.has_putAll vs (o+1) (h.put o v)
    exact⟨c',h1,by rw[h2,Array.size_setIfInBounds]⟩
theorem Gr.size_txv:(Tryz.prog.info? 34).map (·.size)=some vRec.k:=by kernel_rfl
theorem Gr.size_cov:(Tryz.prog.info? 74).map (·.size)=some (#[Value.int .i64 5,.int .u64 0]:Array Value).size:=by kernel_rfl
theorem Gr.put_next {W w5 w7 w8 w9:World} {g bn bs:Nat} {M:List Gr.Nd} {nx:Nat} {xa:Option Addr} {xn xq:Nat} {L:List Gr.Rn} {x:Tx.V} {fee:Int} {z Z:Int} {v:Value} (h:Gr.Pl W w5 g bn bs M nx xa xn xq L) (h57:Below w5.heap.size w5 w7) (hx:x.At W)
    (hm:Moved (Gr.F3 g bn bs) w7 w8) (hz:z=Gr.putE M x.t fee) (hA:(z=0∧∃ y:Gr.Nd,Gr.At w8 g bn bs (M++[y]) (nx+1)∧y.x.t=x.t∧y.id=Tx.idOf false x.t∧y.fee=fee∧y.wt=Tx.weight x.t∧y.pl=nx∧∀ j,y.F j→w7.heap.size≤j)∨(z≠0∧Gr.At w8 g bn bs M nx))
    (h89:Below w8.heap.size w8 w9) (hZ:Z=Gr.rputE L x.t fee) (h1:Z=0→OwnR Gr.rnRec 50 w8.heap.size w9 v (L++[⟨x,Tx.idOf false x.t,fee⟩])) (h2:¬ Z=0→v=.slice xa xn xq) :
    z=Z∧∃ (a9:Option Addr) (n9 q9:Nat) (M9:List Gr.Nd) (nx9:Nat) (L9:List Gr.Rn),v=.slice a9 n9 q9∧Recs Gr.rnRec w9 a9 n9 L9∧(a9=none→q9=0)∧Gr.At w9 g bn bs M9 nx9∧Gr.Sim M9 L9∧(∀ y,y∈L9→y.v.At W)∧(∀ y,y∈M9→Am.Good y.fee∧y.wt=Tx.weight y.x.t)∧nx9≤nx+1∧n9≤1001∧(∀ y,y∈M9→∀ j,y.F j→j<w5.heap.size∨w7.heap.size≤j):=by
  have hzZ:z=Z:=by rw[hz,hZ,h.sim.putE]
  have hl:=h.len
  have hold:∀ y,y∈M→∀ j,y.F j→j<w5.heap.size∨w7.heap.size≤j:=fun y hy j hj=>.inl ((h.ga.grp.nd y hy).lt hj)
  refine⟨hzZ,?_⟩
  by_cases h0:Z=0
  · rcases hA with⟨_,y,hA,e1,e2,e3,e4,_,hF⟩ | ⟨hne,_⟩
    · obtain⟨a9,c9,e9,_,h09,_,hr9⟩:=(h1 h0).shape rfl
      refine⟨a9,_,c9,M++[y],nx+1,_,e9,hr9,h09,hA.below h89,h.sim.push (by unfold Gr.Nd.key Gr.Rn.key;rw[e1,e2,e3]),fun u hu=>?_,Gr.ok_push h.ok (by rw[e3];exact Gr.rputE_good (hZ.symm.trans h0)) (by rw[e4,e1]),Nat.le_refl _,?_,fun u hu j hj=>?_⟩
      · rcases List.mem_append.1 hu with hu | hu
        · exact h.va u hu
        · rw[List.mem_singleton.1 hu];exact hx
      · rw[List.length_append];simp;omega
      · rcases List.mem_append.1 hu with hu | hu
        · exact hold u hu j hj
        · rw[List.mem_singleton.1 hu] at hj;exact .inr (hF j hj)
    · exact absurd (hzZ.trans h0) hne
  · rcases hA with⟨he,_⟩ | ⟨_,hA⟩
    · exact absurd (hzZ.symm.trans he) h0
    · exact⟨xa,xn,xq,M,nx,L,h2 h0,(((h.r.below h57).moved hm (fun _ u e=>by
        obtain⟨n1,n2,n3,_⟩:=h.nf u e
        rintro(h | h | h)<;>omega)).below h89),h.q.2,hA.below h89,h.sim,h.va,h.ok,Nat.le_succ _,by omega,hold⟩
set_option maxRecDepth 100000 in
set_option maxHeartbeats 16000000 in
theorem gplay_any {W w:World} {g bn bs:Nat} {M:List Gr.Nd} {nx:Nat} {xa:Option Addr} {xn xq:Nat} {L:List Gr.Rn} (h:Gr.Pl W w g bn bs M nx xa xn xq L) (hB:Below W.heap.size W w) (hne:xa≠none) (c:Option Addr) (m r:Nat) (K:List Gr.Ac) (hK:Recs (Gr.acIn14 W) W c m K) (hF:∀ x,x∈K→Tx.Small x.v.t∧x.n≤30) (hnx:nx+m≤900) (hD:KDg W) (hT:Tab32 W 1 Dg.kL) :
    Calls Tryz.prog 10 #[.pointer (some ⟨g,0,none⟩),.slice xa xn xq,.slice c m r] w (Gr.PlayPost W w g bn bs nx m xa):=by
  have HP:=Lib.hid h
  have HW:=Lib.hid hB
  have HK:=Lib.hid hK
  have HFI:=Lib.hid hF
  have HKD:=Lib.hid (And.intro hD hT)
  have HNX:=Lib.hid hnx
  have hmx:m≤9223372036854775807:=hK.2.1
  have hS0:RowKit.Hid (Gr.Pl W w g bn bs M nx xa xn xq L∧Moved (Gr.F3 g bn bs) w w∧nx≤nx+0∧xa≠none∧∀ u,xa=some u→xa=some u∨w.heap.size≤u.block):=Lib.hid ⟨h,Moved.refl _ _,Nat.le_refl _,hne,fun u e=>.inl e⟩
  clear h hB hK hF hD hT hnx hne
  unfold Gr.PlayPost
  go_enter Tryz.func10,Tryz.ntmps10
  go_wp2
  go_loopw [1,19] (fun mv iv wr=>∃ (i:Nat) (ya:Option Addr) (yn yq:Nat) (M2:List Gr.Nd) (nx2:Nat) (L2:List Gr.Rn),i≤m∧iv=.int .i64 i∧mv=.slice ya yn yq∧RowKit.Hid (Gr.Pl W wr g bn bs M2 nx2 ya yn yq L2∧Moved (Gr.F3 g bn bs) w wr∧nx2≤nx+i∧ya≠none∧∀ u,ya=some u→xa=some u∨w.heap.size≤u.block)) (fun _ iv _=>m-(intOf iv).toNat)
  case atStart=>exact⟨0,xa,xn,xq,M,nx,L,Nat.zero_le _,rfl,rfl,hS0⟩
  case round=>
    clear hS0
    obtain⟨i,ya,yn,yq,M2,nx2,L2,hi,rfl,rfl,HS⟩:=hrel
    by_cases hlt:i<m
    · have hii:(i:Int)<(m:Int):=by omega
      have hi0:(0:Int)≤(i:Int):=by omega
      obtain⟨x,hx⟩:=HK.out.get hlt
      have HBW:=Lib.hid (show Below W.heap.size W wr from HW.out.trans (HS.out.2.1.below (Gr.f3_low HP.out) HW.out.size))
      have HOW:=Lib.hid (show x.At W from HK.out.okay hx)
      obtain⟨y,rfl,_⟩:=HK.out.2.2.2 i x hx
      have hy:(Instr.loadAt 88 (.pointer (some (y.add (i*5))))).run Tryz.prog wr=.ok (.agg (Gr.acCells x).toArray) wr:=(HK.out.below HBW.out).load_at (P:=Tryz.prog) Tryz.underlying88 rfl (Gr.size_ac14 W) hx
      have HXF:=Lib.hid (HFI.out x (List.mem_of_getElem? hx))
      have hxn:x.n≤9223372036854775807:=HOW.out.ids.2.1
      clear hx
      go_upto_region 4 with(first
        | (refine wpList_store_mid rfl 88 (.tmp 8) (.tmp 22) rfl wr.heap.size 0 (Gr.acCells x).toArray rfl rfl ((Gr.acIn14 W).there wr 88 (by kernel_rfl) HOW.out) ((Gr.acIn14 W).size_eq (Gr.size_ac14 W) HOW.out) ((Gr.acIn14 W).all_one x) ?_)
        | (refine wpList_load_run rfl 88 (.tmp 21) rfl _ _ rfl hy ?_))
      obtain⟨w5,hw5⟩:∃ u,u=(wr.alloc (.cells Gr.zAc14 88)).setCells wr.heap.size 0 (Gr.acCells x):=⟨_,rfl⟩
      obtain⟨hG,hb5⟩:=Rec.new (R:=Gr.acIn14 W) (t:=x) (by kernel_rfl) HOW.out hw5
      rw[← hw5]
      have HPL:=Lib.hid (HS.out.1.below hb5)
      have HM5:=Lib.hid (show Moved (Gr.F3 g bn bs) w w5∧nx2≤nx+i from⟨HS.out.2.1.then hb5,HS.out.2.2.1⟩)
      have HB5:=Lib.hid (HBW.out.trans (hb5.mono HBW.out.size))
      have hgl:=HS.out.1.ga.lt3
      obtain⟨g5,hg5⟩:∃ u,u=wr.heap.size:=⟨_,rfl⟩
      rw[← hg5] at hG hgl ⊢
      have HG5:=Lib.hid (show g<g5∧bn<g5∧bs<g5∧g5<w5.heap.size from⟨hgl.1,hgl.2.1,hgl.2.2,hG.lt⟩)
      have lids:=Gr.ac_ids hG
      have lfee:=Gr.ac_fee hG
      have ltx:=Gr.ac_tx hG
      clear hw5 hb5 hg5 hgl hy HS
      by_cases hI:0<x.n
      · have hIi:(0:Int)<(x.n:Int):=by omega
        have HRE:=Lib.hid (gRemove_any HPL.out.ga x.a x.n x.q x.ids (HOW.out.ids.below HB5.out) (by have:=HXF.out.2;omega))
        go_upto_region 7 with(first
          | (go_at_call 43;refine(rremove14_any ya yn yq L2 x.a x.n x.q x.ids w6 HR6.out (HOW.out.ids.below HB6.out) (by have:=HPL.out.len;omega)).mono ?_;rintro e w7 ⟨v7,u7,rfl,ho7,hu7,hb7⟩;obtain⟨k7,hk7⟩:∃ k,k=(Gr.rstay L2 x.ids).length:=⟨_,rfl⟩;have HK7:=Lib.hid hk7;clear hk7;obtain⟨a7,c7,rfl,hc7,h07,hbk7,hr7⟩:=ho7.shape HK7.out.symm;obtain⟨k8,hk8⟩:∃ k,k=(Gr.rgone L2 x.ids).length:=⟨_,rfl⟩;have HK8:=Lib.hid hk8;clear hk8;obtain⟨a8,c8,rfl,hc8,h08,hbk8,hr8⟩:=hu7.shape HK8.out.symm)
          | (go_at_call 40;refine HRE.out.mono ?_;rintro e w6 ⟨v6,vs6,G6,rfl,ho6,hvs6,hp6,hz6,hA6,hm6⟩;obtain⟨j6,hj6⟩:∃ k,k=vs6.length:=⟨_,rfl⟩;have HJ6:=Lib.hid hj6;clear hj6;obtain⟨a6,c6,rfl,hc6,h06,ht6⟩:=ho6.shape HJ6.out.symm;have hG6:=hG.moved hm6 (fun e=>by have:=HPL.out.ga.lt3;have:=HG5.out;rcases e with e | e | e<;>omega);have lids6:=Gr.ac_ids hG6;have HB6:=Lib.hid (HB5.out.trans (hm6.below (Gr.f3_low HPL.out) HB5.out.size));have HR6:=Lib.hid (HPL.out.r.moved hm6 (fun _ u e=>by obtain⟨n1,n2,n3,_⟩:=HPL.out.nf u e;rintro(h | h | h)<;>omega))))
        have hk7m:k7≤1000:=by
          have h1:=HPL.out.len
          have h2:=Gr.rstay_len L2 x.ids L2.length
          rw[List.take_length,← HK7.out] at h2
          omega
        have h7s:=hb7.size
        have HT6:=Lib.hid ht6
        go_upto_region 8 with(first
          | (at_builtin;have hE7:OwnR Gr.rnRec 50 w7.heap.size (w7.alloc (.cells #[] 50)) (.slice (some ⟨w7.heap.size,0,none⟩) 0 0) []:=OwnR.empty (Nat.le_refl _) (Has.fresh w7 _ _);refine Gr.wpList_append_nn (R:=Gr.rnRec) rfl (.tmp 38) (.tmp 39) 27 rfl 50 Tryz.underlying27 Gr.info_rn (by kernel_rfl) (by decide) w7.heap.size _ [] rfl hE7 a7 k7 c7 (Gr.rstay L2 x.ids) rfl (hr7.past _) h07 (by simp;omega) (by simp) ?_;intro v8 w8 ho8 hg8 hl8 hn8;rw[List.nil_append] at ho8;have hb8:=below_own_recs ((Below.refl w7.heap.size w7).alloc (Nat.le_refl _) _) hg8 hE7.lt;obtain⟨a9,c9,rfl,hc9,h09,hbk9,hr9⟩:=ho8.shape HK7.out.symm))
        have hne9:a9≠none:=by
          intro e
          subst e
          have:=hn8 rfl
          simp[Value.ownBlock] at this
        have h68:Below w6.heap.size w6 w8:=hb7.trans (hb8.mono hb7.size)
        have HTS:=Lib.hid (Gr.txs_same a6 j6 c6 vs6 a8 k8 c8 (Gr.rgone L2 x.ids) w8 ⟨HT6.out.1.below h68,fun y hy=>TxAt.below (HT6.out.2 y hy) h68⟩ ⟨hr8.below hb8,fun y hy=>by
            obtain⟨z,hz,rfl⟩:=List.mem_map.1 hy
            exact TxAt.below (HPL.out.va z (List.mem_filter.1 hz).1) (HB6.out.trans (h68.mono HB6.out.size))⟩ (by
            rw[hvs6]
            exact HPL.out.sim.gone HPL.out.ga.ord hp6 hz6))
        have HN8:=Lib.hid (show Gr.Pl W w8 g bn bs (Gr.rest M2 x.ids) nx2 a9 k7 c9 (Gr.rstay L2 x.ids)∧Moved (Gr.F3 g bn bs) w w8∧nx2≤nx+(i+1)∧a9≠none∧∀ u,a9=some u→xa=some u∨w.heap.size≤u.block from by
          have h1:=hm6.size
          have h2:=HM5.out.1.size
          have h4:=hb8.size
          refine⟨HPL.out.next (hA6.below h68) hr9 ⟨hc9,h09⟩ (fun u e=>?_) (HPL.out.sim.rest _) (Gr.va_stay HPL.out.va) (Gr.ok_rest HPL.out.ok),(HM5.out.1.trans hm6 (fun k hk=>.inl hk)).then h68,by have:=HM5.out.2;omega,hne9,fun u e=>.inr ?_⟩
          · have:=hbk9 u e
            omega
          · have:=hbk9 u e
            omega)
        clear ho6 hvs6 hp6 hz6 hA6 hm6 ht6 ho7 hu7 hr7 hr8 hb7 hb8 hE7 ho8 hg8 hl8 hn8 hr9 hbk7 hbk8 hbk9 hc6 h06 hc7 h07 hc8 h08 hc9 h09 h68 hne9 lids6 hG6 hG lids ltx lfee
        go_wp2_with (go_at_call 44;refine HTS.out.mono ?_;rintro e w9 ⟨rfl,hb9⟩)
        go_roundw
        case rel=>exact⟨i+1,a9,k7,c9,Gr.rest M2 x.ids,nx2,Gr.rstay L2 x.ids,by omega,by go_num,rfl,Lib.hid ⟨HN8.out.1.below hb9,HN8.out.2.1.then hb9,HN8.out.2.2⟩⟩
        case measure=>(simp[intOf];try omega)
      · have hIi:¬ (0:Int)<(x.n:Int):=by omega
        have hsn:=HXF.out.1.1
        have hcn:=HXF.out.1.2.1
        have hxvn:x.v.n≤30:=by rw[← HOW.out.v.sp.1];exact hsn
        have hxvm:x.v.m≤30:=by rw[← HOW.out.v.co.1];exact hcn
        have HCP:=Lib.hid (copy_any x.v.a x.v.n x.v.q x.v.b x.v.m x.v.r x.v.t w5 (TxAt.below HOW.out.v HB5.out) (by omega) (by omega))
        go_upto_region 11 with(first
          | (refine wpList_store_mid rfl 34 (.tmp 12) (.tmp 47) rfl w6.heap.size 0 (vCells ⟨oa,x.v.n,oq,ob,x.v.m,orr,x.v.t⟩).toArray rfl rfl (vRec.there w6 34 (by kernel_rfl) trivial) (vRec.size_eq Gr.size_txv trivial) (vRec.all_one ⟨oa,x.v.n,oq,ob,x.v.m,orr,x.v.t⟩) ?_)
          | (go_at_call 45;refine HCP.out.mono ?_;rintro e w6 ⟨oa,oq,ob,orr,rfl,ho6,hb6⟩)
          | (refine wpList_load_run rfl 34 (.tmp 45) rfl _ _ rfl ltx ?_))
        obtain⟨w7,hw7⟩:∃ u,u=(w6.alloc (.cells zTx 34)).setCells w6.heap.size 0 (vCells ⟨oa,x.v.n,oq,ob,x.v.m,orr,x.v.t⟩):=⟨_,rfl⟩
        obtain⟨hO7,hb7⟩:=Rec.new (R:=vRec) (t:=⟨oa,x.v.n,oq,ob,x.v.m,orr,x.v.t⟩) (by kernel_rfl) trivial hw7
        rw[← hw7]
        obtain⟨g7,hg7⟩:∃ g,g=w6.heap.size:=⟨_,rfl⟩
        rw[← hg7] at hO7 ⊢
        have h57:Below w5.heap.size w5 w7:=hb6.trans (hb7.mono hb6.size)
        have HB7:=Lib.hid (HB5.out.trans (h57.mono HB5.out.size))
        have HPL7:=Lib.hid (HPL.out.below h57)
        have HOT:=Lib.hid (ho6.below hb7)
        have HOW6:=Lib.hid (show ∀ gb,ob=some ⟨gb,0,none⟩→0<x.v.m→w5.heap.size≤gb∧gb<g7 from fun gb e hm=>by
          subst e
          have:=ho6.co.lt_size gb rfl
          omega)
        have HO7:=Lib.hid (And.intro hO7 (show g7<w7.heap.size from hO7.lt))
        have lO7:=hO7.load_agg (P:=Tryz.prog) (t:=34) Tryz.underlying34 rfl (vRec.size_eq Gr.size_txv trivial)
        have hG7:=hG.under h57 hG.lt
        have lfee7:=Gr.ac_fee hG7
        have HG7:=Lib.hid hG7
        have H57:=Lib.hid h57
        have hG5lt:=HG5.out
        have HPU:=Lib.hid (gPut_any HPL7.out.ga (by have:=HM5.out.2;have:=HNX.out;omega) oa x.v.n oq ob x.v.m orr x.v.t x.fee HOT.out.at HXF.out.1 (HKD.out.1.below HB7.out))
        have hg67:w5.heap.size≤g7:=by rw[hg7];exact hb6.size
        have HG67:=Lib.hid hg67
        clear ho6 hb6 hw7 hg7 hb7 h57 hO7 hG7 ltx lfee lids hg67
        obtain⟨Z,hZ⟩:∃ z,z=Gr.rputE L2 x.v.t x.fee:=⟨_,rfl⟩
        have HZ:=Lib.hid hZ
        clear hZ
        go_upto_region 13 with(first
          | (go_at_call 46;refine(rput14_any ya yn yq L2 x.v.a x.v.n x.v.q x.v.b x.v.m x.v.r x.v.t x.fee w8 HR8.out HPL.out.q.2 (HPL.out.vb HB8.out) (by have:=HPL.out.len;omega) (TxAt.below HOW.out.v HB8.out) HXF.out.1 (HKD.out.2.below HB8.out)).mono ?_;rw[← HZ.out];rintro e w9 ⟨v9,rfl,h91,h92,hb9⟩)
          | (go_at_call 37;refine HPU.out.mono ?_;rintro e w8 ⟨z,rfl,hz,hm8,hA8⟩;have HZ8:=Lib.hid hz;clear hz;have HA8:=Lib.hid hA8;clear hA8;have hG8:=HG7.out.moved hm8 (fun e=>by have:=HPL.out.ga.lt3;have:=HG5.out;rcases e with e | e | e<;>omega);have lfee8:=Gr.ac_fee hG8;have ltx8:=Gr.ac_tx hG8;have HB8:=Lib.hid (HB7.out.trans (hm8.below (Gr.f3_low HPL.out) HB7.out.size));have HR8:=Lib.hid (HPL7.out.r.moved hm8 (fun _ u e=>by obtain⟨n1,n2,n3,_⟩:=HPL.out.nf u e;rintro(h | h | h)<;>omega)))
          | (refine wpList_load_run rfl 34 (.tmp 12) rfl _ _ rfl lO7 ?_)
          | (refine wpList_load_run rfl 34 (.tmp 55) rfl _ _ rfl ltx8 ?_))
        obtain⟨rfl,a9,n9,q9,M9,nx9,L9,rfl,hr9,h09,hA9,hs9,hv9,hk9,hx9,hn9,hF9⟩:=Gr.put_next HPL.out H57.out HOW.out.v hm8 HZ8.out HA8.out hb9 HZ.out h91 h92
        have HM8:=Lib.hid hm8
        have H89:=Lib.hid hb9
        have HA9:=Lib.hid (And.intro hA9 (And.intro hs9 (And.intro hv9 (And.intro hk9 (And.intro hx9 hF9)))))
        clear hm8 h91 h92 hA9 hs9 hv9 hk9 hx9 hF9 lfee7 lfee8 ltx8 lO7 hG8 HZ HZ8 HA8
        go_upto_region 14 with(first
          | (at_builtin;have hE9:OwnR Gr.rnRec 50 w9.heap.size (w9.alloc (.cells #[] 50)) (.slice (some ⟨w9.heap.size,0,none⟩) 0 0) []:=OwnR.empty (Nat.le_refl _) (Has.fresh w9 _ _);refine Gr.wpList_append_nn (R:=Gr.rnRec) rfl (.tmp 62) (.tmp 63) 27 rfl 50 Tryz.underlying27 Gr.info_rn (by kernel_rfl) (by decide) w9.heap.size _ [] rfl hE9 a9 n9 q9 L9 rfl (hr9.past _) h09 (by simp;omega) (by simp) ?_;intro vA wA hoA hgA hlA hnA;rw[List.nil_append] at hoA;have hbA:=below_own_recs ((Below.refl w9.heap.size w9).alloc (Nat.le_refl _) _) hgA hE9.lt;obtain⟨aA,cA,rfl,hcA,h0A,hbkA,hrA⟩:=hoA.shape hr9.1))
        have hneA:aA≠none:=by
          intro e
          subst e
          have:=hnA rfl
          simp[Value.ownBlock] at this
        have h8A:Below w8.heap.size w8 wA:=hb9.trans (hbA.mono hb9.size)
        have HM7A:=Lib.hid (show Moved (Gr.F3 g bn bs) w7 wA from HM8.out.then h8A)
        have HPA:=Lib.hid (show Gr.Pl W wA g bn bs M9 nx9 aA n9 cA L9 from HPL.out.next (HA9.out.1.below hbA) hrA ⟨hcA,h0A⟩ (fun u e=>by
          have:=hbkA u e
          have h1:=HM7A.out.size
          have h2:=H57.out.size
          have h3:=HM8.out.size
          have h4:=hb9.size
          omega) HA9.out.2.1 HA9.out.2.2.1 HA9.out.2.2.2.1)
        have HAX:=Lib.hid (show aA≠none∧(∀ u,aA=some u→w7.heap.size≤u.block) from⟨hneA,fun u e=>by
          have:=hbkA u e
          have h3:=HM8.out.size
          have h4:=hb9.size
          omega⟩)
        have hg3:=HPL.out.ga.lt3
        have hn7:∀ j,Gr.F3 g bn bs j→j<w5.heap.size:=fun j hj=>by rcases hj with rfl | rfl | rfl<;>omega
        have hOA:Has wA g7 34 (vCells ⟨oa,x.v.n,oq,ob,x.v.m,orr,x.v.t⟩).toArray:=HO7.out.1.moved HM7A.out (fun e=>by have:=hn7 _ e;have:=HG67.out;omega)
        have hGA:=HG7.out.moved HM7A.out (fun e=>by have:=hn7 _ e;have:=HG5.out;omega)
        have HTA:=Lib.hid (Gr.txown_moved HOT.out HM7A.out (fun j hj e=>by have:=HOT.out.sp.lt j hj;have:=hn7 j e;omega) (fun j hj e=>by have:=HOT.out.co.lt j hj;have:=hn7 j e;omega))
        have lOA:=hOA.load_agg (P:=Tryz.prog) (t:=34) Tryz.underlying34 rfl (vRec.size_eq Gr.size_txv trivial)
        have ltxA:=Gr.ac_tx hGA
        have HBA:=Lib.hid (HB7.out.trans (HM7A.out.below (Gr.f3_low HPL.out) HB7.out.size))
        have HEQ:=Lib.hid (show Calls Tryz.prog 17 #[txv oa x.v.n oq ob x.v.m orr x.v.t.firm,txv x.v.a x.v.n x.v.q x.v.b x.v.m x.v.r x.v.t.firm] wA fun e w'=>e=.returned (.bool true)∧Below wA.heap.size wA w' from by
          have:=txeq_any oa x.v.n oq ob x.v.m orr x.v.t x.v.a x.v.n x.v.q x.v.b x.v.m x.v.r x.v.t wA HTA.out.at (TxAt.below HOW.out.v HBA.out)
          rwa [decide_eq_true (rfl:x.v.t=x.v.t)] at this)
        have HOA:=Lib.hid hOA
        clear hr9 h09 hb9 hbA hE9 hoA hgA hlA hnA hrA hbkA hcA h0A hneA h8A hOA hGA hg3 hn7 hG
        go_upto_region 17 with(first
          | (go_at_call 17;refine HEQ.out.mono ?_;rintro e wB ⟨rfl,hbB⟩;have cB:=(HOA.out.under hbB HOA.out.lt).cell_at (i:=1) (v:=.slice ob x.v.m orr) rfl)
          | (go_at_call 25;refine(num_any _ _).mono ?_;rintro e wn ⟨rfl,rfl⟩)
          | (refine Gr.wpList_load_run_if (by rfl) 34 (.tmp 12) rfl _ _ rfl lOA ?_)
          | (refine Gr.wpList_load_run_if (by rfl) 34 (.tmp 71) rfl _ _ rfl ltxA ?_))
        have HOB:=Lib.hid (HOA.out.under hbB HOA.out.lt)
        have HTB:=Lib.hid (HTA.out.co.below hbB)
        have HPB:=Lib.hid (HPA.out.below hbB)
        have HM7B:=Lib.hid (HM7A.out.then hbB)
        clear hbB lOA ltxA cB
        go_loopw [79] (fun iv wr=>∃ (k:Nat),k≤x.v.m∧iv=.int .i64 k∧RowKit.Hid (Moved (fun j=>∃ gb,ob=some ⟨gb,0,none⟩∧0<x.v.m∧j=gb) wB wr∧∀ gb,ob=some ⟨gb,0,none⟩→0<x.v.m→∃ cur,Has wr gb 74 cur∧x.v.m*2≤cur.size)) (fun iv _=>x.v.m-(intOf iv).toNat)
        case atStart=>exact⟨0,Nat.zero_le _,rfl,Lib.hid ⟨Moved.refl _ _,fun gb e hm=>by
          obtain⟨g2,cur,e2,_,h3,h4⟩:=Gr.own_size HTB.out hm
          rw[e] at e2
          injection e2 with e2
          injection e2 with e2
          subst e2
          exact⟨cur,h3,h4⟩⟩⟩
        case round=>
          obtain⟨k,hk,rfl,HL⟩:=hrel
          have hmoved:∀ j,(∃ gb,ob=some ⟨gb,0,none⟩∧0<x.v.m∧j=gb)→w5.heap.size≤j∧j<g7:=by
            rintro j ⟨gb,e,hm,rfl⟩
            exact HOW6.out j e hm
          by_cases hkl:k<x.v.m
          · have hki:(k:Int)<(x.v.m:Int):=by omega
            have hk0:(0:Int)≤(k:Int):=by omega
            obtain⟨gb,_,hob,_,_,_⟩:=Gr.own_size HTB.out (by omega)
            have HGB:=Lib.hid (HOW6.out gb hob (by omega))
            obtain⟨cur,hcur,hcs⟩:=HL.out.2 gb hob (by omega)
            have hOr:=HOB.out.moved HL.out.1 (fun e=>by have:=hmoved g7 e;omega)
            have c1:wr.cell? ⟨g7,1,none⟩=some (.slice ob x.v.m orr):=hOr.cell_at rfl
            rw[hob] at c1
            have hth:=hcur.there (0+k*2) 2 (by omega)
            have hbd5:=fun(w:World)=>run_build (P:=Tryz.prog) w 74 #[(0,.int .i64 5)] #[.int .i64 5,.int .u64 0] (by kernel_rfl)
            have HC:=Lib.hid (And.intro hcur hcs)
            have HOBE:=Lib.hid hob
            clear hcur hcs hOr hob
            go_wp2_with (refine wpList_store_mid rfl 74 (.tmp 86) (.tmp 85) rfl gb (0+k*2) #[.int .i64 5,.int .u64 0] (by first | rfl | (simp[Act.eval,Addr.add];done)) rfl hth Gr.size_cov (by kernel_rfl) ?_)
            go_roundw
            case rel=>
              refine⟨k+1,by omega,by go_num,Lib.hid ⟨Moved.putAll (.inl ⟨gb,HOBE.out,by omega,rfl⟩) _ _ HL.out.1,fun g2 e hm=>?_⟩⟩
              rw[HOBE.out] at e
              injection e with e
              injection e with e
              subst e
              obtain⟨c2,h2,h3⟩:=Gr.has_putAll [.int .i64 5,.int .u64 0] (k*2) HC.out.1
              exact⟨c2,h2,by rw[h3];exact HC.out.2⟩
            case measure=>(simp[intOf];try omega)
          · have hki:¬ (k:Int)<(x.v.m:Int):=by omega
            have HFIN:=Lib.hid (show Gr.Pl W wr g bn bs M9 nx9 aA n9 cA L9∧Moved (Gr.F3 g bn bs) w wr∧nx9≤nx+(i+1)∧aA≠none∧∀ u,aA=some u→xa=some u∨w.heap.size≤u.block from by
              have hg3:=HPL.out.ga.lt3
              have h7:=HO7.out.2
              have h5:=HM5.out.1.size
              have h57:=H57.out.size
              refine⟨HPB.out.moved HL.out.1 (fun j hj=>?_) (fun u e hj=>?_),?_,?_,HAX.out.1,fun u e=>.inr ?_⟩
              · have:=hmoved j hj
                refine⟨by omega,by omega,by omega,fun y hy hF=>?_⟩
                have:=HA9.out.2.2.2.2.2 y hy j hF
                omega
              · have:=hmoved _ hj
                have:=HAX.out.2 u e
                omega
              · exact((HM5.out.1.then H57.out).trans HM7B.out (fun k hk=>.inl hk)).trans HL.out.1 (fun k hk=>.inr (by have:=hmoved k hk;omega))
              · have:=HA9.out.2.2.2.2.1
                have:=HM5.out.2
                omega
              · have:=HAX.out.2 u e
                omega)
            clear HL hmoved
            go_wp2
            go_roundw
            case rel=>exact⟨i+1,aA,n9,cA,M9,nx9,L9,by omega,by go_num,rfl,HFIN⟩
            case measure=>(simp[intOf];try omega)
    · have hii:¬ (i:Int)<(m:Int):=by omega
      obtain rfl:i=m:=by omega
      go_wp2
      go_ret
      exact⟨ya,yn,yq,rfl,M2,nx2,⟨L2,HS.out.1⟩,HS.out.2⟩
end Go.Proofs.YtijemcfnlbapjaaGreatDoor
