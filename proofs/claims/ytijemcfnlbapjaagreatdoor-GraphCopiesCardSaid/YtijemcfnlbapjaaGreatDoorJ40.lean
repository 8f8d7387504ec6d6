/- A drawn region, operation by operation, whatever the order: each operation's value is told by what its operands' values are told to be. Nothing of the program. · what GraphCopies' last region needs, taken operation by operation (by hand) -/
import Derived.Test.YtijemcfnlbapjaaGreatDoorJ01
import Derived.Test.YtijemcfnlbapjaaGreatDoorJ18
import Derived.Laws.Cover3
namespace Go.Proofs.YtijemcfnlbapjaaGreatDoor
open Go Go.RowKit Go.ChangeShapes Go.WideShapes
namespace Lo
structure J (ops:Array Oper) (V:Nat→Value→World→Prop) (l0:Array Bool) (a0:Act) (w0:World) (listed:Array Bool) (a:Act) (w:World):Prop where
  held:Held w0 w
  def_:a.defers=a0.defers
  size:a.tmps.size=a0.tmps.size
  ln:listed.size=ops.size
  val:∀ i o d,ops[i]? = some o→o.dst=some d→l0.getD i true=false→listed.getD i true=true→V i (a.tmps.getD d undef) w
  old:∀ s,(∀ i o,ops[i]? = some o→l0.getD i true=false→o.dst≠some s)→a.tmps.getD s undef=a0.tmps.getD s undef
def fits (ops:Array Oper) (l0:Array Bool) (n:Nat):Bool:=
  l0.size==ops.size&&(List.range ops.size).all fun i=>l0.getD i true||match ops[i]? with
    | none=>true
    | some o=>(o.after.all fun e=>decide (e.on<i))&&match o.dst with
      | none=>true
      | some d=>decide (d<n)&&(List.range ops.size).all fun j=>j==i||l0.getD j true||match ops[j]? with
        | none=>true
        | some oj=>oj.dst != some d
section
variable {P:Program} {ops:Array Oper} {Q:Exit→Act→World→Prop} {md:Region.Mode} {V:Nat→Value→World→Prop} {l0:Array Bool} {a0:Act} {w0:World}
theorem fits_size {n:Nat} (h:fits ops l0 n=true):l0.size=ops.size:=by
  unfold fits at h
  simp only[Bool.and_eq_true,beq_iff_eq] at h
  exact h.1
theorem fits_at {n i:Nat} {o:Oper} (h:fits ops l0 n=true) (ho:ops[i]? = some o) (hi:l0.getD i true=false) :
    (∀ e∈o.after,e.on<i)∧∀ d,o.dst=some d→d<n∧∀ j oj,ops[j]? = some oj→j≠i→l0.getD j true=false→oj.dst≠some d:=by
  unfold fits at h
  simp only[Bool.and_eq_true,List.all_eq_true,List.mem_range] at h
  have h1:=h.2 i (Array.getElem?_eq_some_iff.1 ho).1
  simp only[hi,ho,Bool.false_or,Bool.and_eq_true] at h1
  refine⟨fun e he=>by simpa using Array.all_eq_true_iff_forall_mem.1 h1.1 e he,fun d hd=>?_⟩
  have h2:=h1.2
  simp only[hd,Bool.and_eq_true,decide_eq_true_eq,List.all_eq_true,List.mem_range] at h2
  refine⟨h2.1,fun j oj hj hne hl=>?_⟩
  have h3:=h2.2 j (Array.getElem?_eq_some_iff.1 hj).1
  simpa [hne,hl,hj] using h3
theorem getD_set_self {listed:Array Bool} {i:Nat} (h:i<listed.size) (d:Bool):(listed.setIfInBounds i true).getD i d=true:=by
  simp[h]
theorem getD_lt {l:Array Bool} {i:Nat} (h:i<l.size) (d e:Bool):l.getD i d=l.getD i e:=by
  simp[h]
theorem count_set {l:Array Bool} {i n:Nat} (hi:i<l.size) (h:l.getD i true=false) (hc:l.toList.count false≤n+1):(l.setIfInBounds i true).toList.count false≤n:=by
  have hi2:i<l.toList.length:=by simpa using hi
  have h2:l.toList[i]=false:=by
    simp[hi] at h
    simpa using h
  have h3:1≤l.toList.count false:=List.count_pos_iff.2 (h2▸List.getElem_mem hi2)
  rw[Array.toList_setIfInBounds,List.count_set hi2,h2]
  generalize l.toList.count false=c at hc h3
  show c-1+0≤n
  omega
def Step (P:Program) (md:Region.Mode) (ops:Array Oper) (Q:Exit→Act→World→Prop) (V:Nat→Value→World→Prop) (l0:Array Bool) (a0:Act) (w0:World) (i:Nat):Prop:=
  ∀ o listed a w,ops[i]? = some o→i∈Region.ready md ops listed→J ops V l0 a0 w0 listed a w→
    ∀ K:Act→World→Prop,(∀ v w',Held w w'→(∀ d,o.dst=some d→V i v w')→K (a.put o.dst v) w')→if Region.wanted o (yielded ops a.tmps)=true then Oper.wp P o a w K Q else K (a.put o.dst undef) w
theorem J.step {listed:Array Bool} {a:Act} {w w':World} {i:Nat} {o:Oper} {v:Value} (h:J ops V l0 a0 w0 listed a w) (hf:fits ops l0 a0.tmps.size=true) (hm:∀ i v w w',V i v w→Held w w'→V i v w') (ho:ops[i]? = some o) (hi:l0.getD i true=false) (hw:Held w w') (hv:∀ d,o.dst=some d→V i v w') :
    J ops V l0 a0 w0 (listed.setIfInBounds i true) (a.put o.dst v) w':=by
  have hlt:i<listed.size:=by rw[h.ln];exact(Array.getElem?_eq_some_iff.1 ho).1
  cases hd:o.dst with
  | none=>
    refine⟨h.held.trans hw,h.def_,h.size,by simpa using h.ln,fun k ok d hk hkd hk0 hkl=>?_,fun s hs=>h.old s hs⟩
    have hne:i≠k:=fun e=>by subst e;rw[ho] at hk;injection hk with hk;rw[hk,hkd] at hd;cases hd
    rw[getD_set_ne true hne] at hkl
    exact hm _ _ _ _ (h.val k ok d hk hkd hk0 hkl) hw
  | some d=>
    have hfi:=(fits_at hf ho hi).2 d hd
    have hdl:d<a.tmps.size:=by rw[h.size];exact hfi.1
    have hput:∀ s,((a.put (some d) v).tmps.getD s undef)=if s=d then v else a.tmps.getD s undef:=fun s=>by
      unfold Act.put
      show(a.tmps.setIfInBounds d v).getD s undef=_
      rw[Array.getD_eq_getD_getElem?,Array.getElem?_setIfInBounds]
      by_cases hs:d=s
      · subst hs;simp[hdl]
      · rw[if_neg hs,if_neg (Ne.symm hs),Array.getD_eq_getD_getElem?]
    refine⟨h.held.trans hw,h.def_,by unfold Act.put;simpa using h.size,by simpa using h.ln,fun k ok dk hk hkd hk0 hkl=>?_,fun s hs=>?_⟩
    · rw[hput]
      by_cases hik:k=i
      · subst hik
        rw[ho] at hk
        injection hk with hk
        rw[← hk,hd] at hkd
        injection hkd with hkd
        rw[if_pos hkd.symm]
        exact hv d hd
      · have hne:dk≠d:=fun e=>(hfi.2 k ok hk hik hk0) (by rw[hkd,e])
        rw[if_neg hne]
        rw[getD_set_ne true (Ne.symm hik)] at hkl
        exact hm _ _ _ _ (h.val k ok dk hk hkd hk0 hkl) hw
    · rw[hput,if_neg (fun e=>hs i o ho hi (by rw[hd,e]))]
      exact h.old s hs
theorem all_of_ready {n:Nat} {listed:Array Bool} (hf:fits ops l0 n=true) (hl:listed.size=ops.size) (hsub:∀ i,l0.getD i true=true→listed.getD i true=true) (hr:Region.ready md ops listed=[]):∀ i,i<ops.size→listed.getD i true=true:=by
  intro i
  induction i using Nat.strongRecOn with
  | _ i ih=>
    intro hi
    cases hc:listed.getD i true with
    | true=>rfl
    | false=>
      exfalso
      have h0:l0.getD i true=false:=by
        cases h:l0.getD i true with
        | true=>rw[hsub i h] at hc;cases hc
        | false=>rfl
      have hmem:i∈Region.ready md ops listed:=mem_ready.2 ⟨hc,ops[i],Array.getElem?_eq_getElem hi,fun e he _=>by
        have h1:=(fits_at hf (Array.getElem?_eq_getElem hi) h0).1 e he
        rw[getD_lt (by omega) false true]
        exact ih e.on h1 (by omega)⟩
      rw[hr] at hmem
      cases hmem
theorem run {S:World→Prop} (idx:List Nat) (hidx:((List.range ops.size).filter fun i=>!l0.getD i true)=idx) (hf:fits ops l0 a0.tmps.size=true) (hm:∀ i v w w',V i v w→Held w w'→V i v w') (hS:∀ w,Held w0 w→S w)
    (hstep:∀ i∈idx,Step P md ops Q V l0 a0 w0 i)
    (hend:∀ listed a w,J ops V l0 a0 w0 listed a w→(∀ i,i<ops.size→listed.getD i true=true)→Q .normal a w) :
    ∀ (fuel:Nat) (listed:Array Bool) (a:Act) (w:World),listed.toList.count false≤fuel→(∀ i,l0.getD i true=true→listed.getD i true=true)→J ops V l0 a0 w0 listed a w→wpAnyH P md ops Q S fuel listed a w
  | 0,listed,a,w,hc,hs,h=>by
    have hall:∀ i,i<ops.size→listed.getD i true=true:=fun i hi=>by
      cases e:listed.getD i true with
      | true=>rfl
      | false=>
        have hi2:i<listed.size:=by rw[h.ln];exact hi
        have hmm:false∈listed.toList:=by
          simp[hi2] at e
          exact Array.mem_toList_iff.2 (e▸Array.getElem_mem hi2)
        have:=List.count_pos_iff.2 hmm
        omega
    have hr:Region.ready md ops listed=[]:=by
      apply List.eq_nil_iff_forall_not_mem.2
      intro i hi
      obtain⟨h0,o,ho,_⟩:=mem_ready.1 hi
      rw[hall i (Array.getElem?_eq_some_iff.1 ho).1] at h0
      cases h0
    exact⟨hr,hend listed a w h hall⟩
  | fuel+1,listed,a,w,hc,hs,h=>by
    refine⟨fun hr=>hend listed a w h (all_of_ready hf h.ln hs hr),fun i hi=>?_⟩
    obtain⟨h0,o,ho,_⟩:=mem_ready.1 hi
    have hio:=(Array.getElem?_eq_some_iff.1 ho).1
    have hl0:l0.getD i true=false:=by
      cases e:l0.getD i true with
      | true=>rw[hs i e] at h0;cases h0
      | false=>rfl
    have hin:i∈idx:=by rw[← hidx];exact List.mem_filter.2 ⟨List.mem_range.2 hio,by rw[hl0];rfl⟩
    refine wpOp_step ho fun K' hK=>?_
    refine hstep i hin o listed a w ho hi h K' fun v w' hw hv=>hK _ _ ⟨hS _ (h.held.trans hw),?_⟩
    refine run idx hidx hf hm hS hstep hend fuel _ _ w' (count_set (by rw[h.ln];exact hio) h0 hc) (fun k hk=>?_) (h.step hf hm ho hl0 hw hv)
    by_cases hik:i=k
    · subst hik;exact getD_set_self (by rw[h.ln];exact hio) true
    · rw[getD_set_ne true hik];exact hs k hk
theorem J.start (hl:l0.size=ops.size):J ops V l0 a0 w0 l0 a0 w0:=
  ⟨Held.refl _,rfl,rfl,hl,fun i o d _ _ h0 h1=>(by rw[h0] at h1;cases h1),fun _ _=>rfl⟩
theorem start {S:World→Prop} (idx:List Nat) (hidx:((List.range ops.size).filter fun i=>!l0.getD i true)=idx) (hf:fits ops l0 a0.tmps.size=true) (hm:∀ i v w w',V i v w→Held w w'→V i v w') (hS:∀ w,Held w0 w→S w) {fuel:Nat} (hc:l0.toList.count false≤fuel)
    (hstep:∀ i∈idx,Step P md ops Q V l0 a0 w0 i)
    (hend:∀ listed a w,J ops V l0 a0 w0 listed a w→(∀ i,i<ops.size→listed.getD i true=true)→Q .normal a w):wpAnyH P md ops Q S fuel l0 a0 w0:=
  run idx hidx hf hm hS hstep hend fuel l0 a0 w0 hc (fun _ h=>h) (J.start (fits_size hf))
end
def look (md:Region.Mode) (ops:Array Oper) (l0:Array Bool) (i k d:Nat):Bool:=
  !l0.getD k true&&(match ops[k]? with | some ok=>ok.dst==some d | none=>false)&&match ops[i]? with | some oi=>oi.after.any fun e=>Region.binds md e&&e.on==k | none=>false
def same (ops:Array Oper) (l0:Array Bool) (s:Nat):Bool:=
  (List.range ops.size).all fun i=>l0.getD i true||match ops[i]? with | some o=>o.dst != some s | none=>true
structure Kn (md:Region.Mode) (ops:Array Oper) (V:Nat→Value→World→Prop) (l0:Array Bool) (a0:Act) (w0:World) (i:Nat) (a:Act) (w:World):Prop where
  held:Held w0 w
  val:∀ k d,look md ops l0 i k d=true→V k (a.tmps.getD d undef) w
  old:∀ s,same ops l0 s=true→a.tmps.getD s undef=a0.tmps.getD s undef
section
variable {P:Program} {ops:Array Oper} {Q:Exit→Act→World→Prop} {md:Region.Mode} {V:Nat→Value→World→Prop} {l0:Array Bool} {a0:Act} {w0:World}
theorem same_spec {s:Nat} (h:same ops l0 s=true):∀ i o,ops[i]? = some o→l0.getD i true=false→o.dst≠some s:=fun i o ho hi e=>by
  unfold same at h
  simp only[List.all_eq_true,List.mem_range] at h
  have h1:=h i (Array.getElem?_eq_some_iff.1 ho).1
  simp[hi,ho,e] at h1
theorem J.kn {listed:Array Bool} {a:Act} {w:World} {i:Nat} {o:Oper} (h:J ops V l0 a0 w0 listed a w) (ho:ops[i]? = some o) (hi:i∈Region.ready md ops listed):Kn md ops V l0 a0 w0 i a w:=by
  refine⟨h.held,fun k d hl=>?_,fun s hs=>h.old s (same_spec hs)⟩
  obtain⟨_,oj,hoj,hall⟩:=mem_ready.1 hi
  rw[ho] at hoj
  obtain rfl:=Option.some.inj hoj
  unfold look at hl
  simp only[Bool.and_eq_true,Bool.not_eq_true',ho] at hl
  obtain⟨⟨h1,h2⟩,h3⟩:=hl
  cases hk:ops[k]? with
  | none=>rw[hk] at h2;cases h2
  | some ok=>
    rw[hk] at h2
    obtain⟨e,he,hb⟩:=Array.any_eq_true'.1 h3
    simp only[Bool.and_eq_true,beq_iff_eq] at hb
    have hd:ok.dst=some d:=by simpa using h2
    have hli:=hall e he hb.1
    rw[hb.2] at hli
    have hks:k<listed.size:=by rw[h.ln];exact(Array.getElem?_eq_some_iff.1 hk).1
    rw[getD_lt hks false true] at hli
    exact h.val k ok d hk hd h1 hli
theorem wanted_none {o:Oper} {a:Act} (hg:o.guard=none):Region.wanted o (yielded ops a.tmps)=true:=by
  unfold Region.wanted
  rw[hg]
theorem wanted_at {o:Oper} {a:Act} (p d:Nat) (b:Bool) (hg:o.guard=some (p,b)) (hp:(ops[p]?).bind (·.dst)=some d) (hv:a.tmps.getD d undef=.bool b):Region.wanted o (yielded ops a.tmps)=true:=by
  unfold Region.wanted
  rw[hg]
  show(yielded ops a.tmps p==some b)=true
  have:a.tmps[d]? = some (.bool b):=by
    rw[Array.getD_eq_getD_getElem?] at hv
    cases h:a.tmps[d]? with
    | none=>rw[h] at hv;cases hv
    | some x=>rw[h] at hv;exact congrArg some hv
  unfold yielded
  rw[hp]
  show((match (some d).bind (a.tmps[·]?) with | some (.bool b)=>some b | _=>none)==some b)=true
  rw[show(some d).bind (a.tmps[·]?)=some (.bool b) from this]
  simp
theorem Step.yield {i:Nat} {o:Oper} (ho:ops[i]? = some o) (v:Value) (hv:∀ w,Held w0 w→V i v w) (h:∀ a w,Kn md ops V l0 a0 w0 i a w→Region.wanted o (yielded ops a.tmps)=true∧(execOp a.eval o).run P w=.ok (.value v) w):Step P md ops Q V l0 a0 w0 i:=by
  intro o' listed a w ho' hr hJ K hK
  rw[ho] at ho'
  obtain rfl:=Option.some.inj ho'
  obtain⟨h1,h2⟩:=h a w (hJ.kn ho hr)
  rw[if_pos h1]
  unfold Oper.wp
  rw[h2]
  exact hK v w (Held.refl _) (fun _ _=>hv w hJ.held)
theorem Step.makes {i:Nat} {o:Oper} (ho:ops[i]? = some o) (h:∀ a w,Kn md ops V l0 a0 w0 i a w→Region.wanted o (yielded ops a.tmps)=true∧∃ v w',(execOp a.eval o).run P w=.ok (.value v) w'∧Held w w'∧V i v w'):Step P md ops Q V l0 a0 w0 i:=by
  intro o' listed a w ho' hr hJ K hK
  rw[ho] at ho'
  obtain rfl:=Option.some.inj ho'
  obtain⟨h1,v,w',h2,h3,h4⟩:=h a w (hJ.kn ho hr)
  rw[if_pos h1]
  unfold Oper.wp
  rw[h2]
  exact hK v w' h3 (fun _ _=>h4)
theorem Step.calls {i:Nat} {o:Oper} (ho:ops[i]? = some o) (h:∀ a w,Kn md ops V l0 a0 w0 i a w→Region.wanted o (yielded ops a.tmps)=true∧∃ f args,(execOp a.eval o).run P w=.ok (.enter f args) w∧Calls P f args w fun e w'=>∃ v,e=.returned v∧Held w w'∧V i v w'):Step P md ops Q V l0 a0 w0 i:=by
  intro o' listed a w ho' hr hJ K hK
  rw[ho] at ho'
  obtain rfl:=Option.some.inj ho'
  obtain⟨h1,f,args,h2,h3⟩:=h a w (hJ.kn ho hr)
  rw[if_pos h1]
  unfold Oper.wp
  rw[h2]
  refine h3.mono ?_
  rintro e w' ⟨v,rfl,h4,h5⟩
  exact hK v w' h4 (fun _ _=>h5)
theorem enter_at {o:Oper} {a:Act} {w:World} (f:FuncId) (xs:Array Operand) (ts:Array TypeId) (vs:Array Value) {fn:Func} (hop:o.op=.call { callee:=.value (.func f),args:=xs,argTypes:=ts }) (hx:xs.map a.eval=vs) (hf:P.funcs[f]? = some fn) (hn:(fn.name =="runtime.NumGoroutine")=false) (hb:fn.body.isNone=false):(execOp a.eval o).run P w=.ok (.enter f vs) w:=by
  subst hx
  have h1:execOp a.eval o=callFunc f (#[]++xs.map a.eval++#[]):=by
    unfold execOp
    rw[hop]
    rfl
  rw[h1]
  have hn':¬ fn.name ="runtime.NumGoroutine" :=by simpa using hn
  have hb':¬ fn.body=none:=fun e=>by rw[e] at hb;cases hb
  simp only[Array.empty_append,Array.append_empty]
  simp[callFunc,go_sem,hf,hn',hb']
theorem m1 {a:Act} {x:Operand} {u:Value} (h:a.eval x=u):#[x].map a.eval=#[u]:=by simp[h]
theorem m2 {a:Act} {x y:Operand} {u v:Value} (h:a.eval x=u) (g:a.eval y=v):#[x,y].map a.eval=#[u,v]:=by simp[h,g]
theorem m3 {a:Act} {x y z:Operand} {u v t:Value} (h:a.eval x=u) (g:a.eval y=v) (k:a.eval z=t):#[x,y,z].map a.eval=#[u,v,t]:=by simp[h,g,k]
def vs (L:List (Value→World→Prop)) (i:Nat):Value→World→Prop:=L.getD i fun _ _=>True
def is (v:Value):Value→World→Prop:=fun x _=>x=v
def Mono (p:Value→World→Prop):Prop:=∀ v w w',p v w→Held w w'→p v w'
theorem mono_is (v:Value):Mono (is v):=fun _ _ _ h _=>h
theorem mono_vs {L:List (Value→World→Prop)} (h:∀ p∈L,Mono p) (i:Nat) (v:Value) (w w':World) (hv:vs L i v w) (hh:Held w w'):vs L i v w':=by
  unfold vs at *
  rw[List.getD_eq_getElem?_getD] at *
  cases e:L[i]? with
  | none=>trivial
  | some p=>
    rw[e] at hv
    exact h p (List.mem_of_getElem? e) v w w' hv hh
end
section
variable {P:Program} {ops:Array Oper} {Q:Exit→Act→World→Prop} {md:Region.Mode} {V:Nat→Value→World→Prop} {l0:Array Bool} {a0:Act} {w0:World} {i:Nat} {o:Oper}
theorem sMove (ho:ops[i]? = some o) (x:Operand) (v:Value) (hV:∀ w,Held w0 w→V i v w) (hop:o.op=.move x∨o.op=.assign x) (hg:∀ a w,Kn md ops V l0 a0 w0 i a w→Region.wanted o (yielded ops a.tmps)=true)
    (hx:∀ a w,Kn md ops V l0 a0 w0 i a w→a.eval x=v):Step P md ops Q V l0 a0 w0 i:=
  Step.yield ho v hV fun a w k=>⟨hg a w k,by
    have e:=hx a w k
    rcases hop with hop | hop<;>(unfold execOp;simp only[hop,e];rfl)⟩
theorem sPick (ho:ops[i]? = some o) (c x y:Operand) (v:Value) (hV:∀ w,Held w0 w→V i v w) (hop:o.op=.pick c x y) (hg:∀ a w,Kn md ops V l0 a0 w0 i a w→Region.wanted o (yielded ops a.tmps)=true)
    (hx:∀ a w,Kn md ops V l0 a0 w0 i a w→a.eval c=.bool true∧a.eval x=v):Step P md ops Q V l0 a0 w0 i:=
  Step.yield ho v hV fun a w k=>⟨hg a w k,by
    obtain⟨e1,e2⟩:=hx a w k
    unfold execOp
    simp only[hop,e1,e2]
    rfl⟩
theorem sNot (ho:ops[i]? = some o) (t:TypeId) (x:Operand) (b:Bool) (hV:∀ w,Held w0 w→V i (.bool (!b)) w) (hop:o.op=.unOp .not t x) (hg:∀ a w,Kn md ops V l0 a0 w0 i a w→Region.wanted o (yielded ops a.tmps)=true)
    (hx:∀ a w,Kn md ops V l0 a0 w0 i a w→a.eval x=.bool b):Step P md ops Q V l0 a0 w0 i:=
  Step.yield ho _ hV fun a w k=>⟨hg a w k,by
    have e:=hx a w k
    unfold execOp
    simp only[hop,e]
    rfl⟩
theorem sLoad (ho:ops[i]? = some o) (t:TypeId) (x:Operand) (p v:Value) (hV:∀ w,Held w0 w→V i v w) (hop:o.op=.load t x) (hg:∀ a w,Kn md ops V l0 a0 w0 i a w→Region.wanted o (yielded ops a.tmps)=true)
    (hx:∀ a w,Kn md ops V l0 a0 w0 i a w→a.eval x=p) (hr:∀ w,Held w0 w→(Instr.loadAt t p).run P w=.ok v w):Step P md ops Q V l0 a0 w0 i:=
  Step.yield ho v hV fun a w k=>⟨hg a w k,by
    have e:=hx a w k
    unfold execOp
    simp only[hop,e,Sem.run_bind,Sem.run_pure,Result.andThen_ok,hr w k.held]⟩
theorem sBin (ho:ops[i]? = some o) (b:BinOp) (t t2:TypeId) (x y:Operand) (u1 u2 v:Value) (hV:∀ w,Held w0 w→V i v w) (hop:o.op=.binOp b t x y t2) (hg:∀ a w,Kn md ops V l0 a0 w0 i a w→Region.wanted o (yielded ops a.tmps)=true)
    (hx:∀ a w,Kn md ops V l0 a0 w0 i a w→a.eval x=u1∧a.eval y=u2) (hr:∀ w,(do eqGuard b t x y u1 u2;binOp b t u1 u2).run P w=.ok v w):Step P md ops Q V l0 a0 w0 i:=
  Step.yield ho v hV fun a w k=>⟨hg a w k,by
    obtain⟨e1,e2⟩:=hx a w k
    have h:=hr w
    unfold execOp
    simp only[hop,e1,e2]
    rw[Sem.run_bind,h]
    rfl⟩
theorem sLen (ho:ops[i]? = some o) (x:Operand) (t:TypeId) (n:Nat) (hV:∀ w,Held w0 w→V i (.int .i64 n) w) (hop:o.op=.call { callee:=.builtin .len,args:=#[x],argTypes:=#[t] }) {T:TypeId} (ht:P.underlying t=some (.slice T)) (hg:∀ a w,Kn md ops V l0 a0 w0 i a w→Region.wanted o (yielded ops a.tmps)=true)
    (hx:∀ a w,Kn md ops V l0 a0 w0 i a w→∃ b c,a.eval x=.slice b n c):Step P md ops Q V l0 a0 w0 i:=
  Step.yield ho _ hV fun a w k=>⟨hg a w k,by
    obtain⟨b,c,e⟩:=hx a w k
    have h1:execOp a.eval o=(do pure (.value (← Builtin.len_ #[t] o.type (#[x].map a.eval)))):=by
      unfold execOp
      rw[hop]
      rfl
    rw[h1]
    simp[Builtin.len_,e,run_underlying ht,goInt,Result.andThen]⟩
theorem sCall (ho:ops[i]? = some o) (f:FuncId) (xs:Array Operand) (ts:Array TypeId) {fn:Func} (hop:o.op=.call { callee:=.value (.func f),args:=xs,argTypes:=ts }) (hf:P.funcs[f]? = some fn) (hn:(fn.name =="runtime.NumGoroutine")=false) (hb:fn.body.isNone=false)
    (hg:∀ a w,Kn md ops V l0 a0 w0 i a w→Region.wanted o (yielded ops a.tmps)=true)
    (hx:∀ a w,Kn md ops V l0 a0 w0 i a w→∃ vs,xs.map a.eval=vs∧Calls P f vs w fun e w'=>∃ v,e=.returned v∧Held w w'∧V i v w'):Step P md ops Q V l0 a0 w0 i:=
  Step.calls ho fun a w k=>by
    obtain⟨vs,e,h⟩:=hx a w k
    exact⟨hg a w k,f,vs,enter_at f xs ts vs hop e hf hn hb,h⟩
end
end Lo
end Go.Proofs.YtijemcfnlbapjaaGreatDoor
namespace Go.Proofs.YtijemcfnlbapjaaGreatDoor
open Go Go.RowKit Go.ChangeShapes Go.WideShapes
namespace Gr
def slIs (id:List (BitVec 8)):Value→World→Prop:=fun v w=>∃ ad:Addr,v=.slice (some ad) 1 1∧Recs hsRec w (some ad) 1 [id]
def nilsh:Value→World→Prop:=fun v _=>∃ (b:Option Addr) (c:Nat),v=.slice b 0 c
theorem mono_sl (id:List (BitVec 8)):Lo.Mono (slIs id):=fun _ _ _ ⟨ad,e,h⟩ hh=>⟨ad,e,h.below hh⟩
theorem mono_nil:Lo.Mono nilsh:=fun _ _ _ h _=>h
theorem sBuild {ops:Array Oper} {Q:Exit→Act→World→Prop} {md:Region.Mode} {V:Nat→Value→World→Prop} {l0:Array Bool} {a0:Act} {w0:World} {i:Nat} {o:Oper} (ho:ops[i]? = some o) (x:Operand) (hop:o.op=.buildSlice 30 1 #[(0,x)]) (id:List (BitVec 8)) (hl:id.length=32)
    (hV:∀ v w,slIs id v w→V i v w) (hg:∀ a w,Lo.Kn md ops V l0 a0 w0 i a w→Region.wanted o (yielded ops a.tmps)=true) (hx:∀ a w,Lo.Kn md ops V l0 a0 w0 i a w→a.eval x=.agg (blist id).toArray):Lo.Step Tryz.prog md ops Q V l0 a0 w0 i:=
  Lo.Step.makes ho fun a w k=>⟨hg a w k,.slice (some ⟨w.heap.size,0,none⟩) 1 1,w.alloc (.cells (blist id).toArray 46),by
    have hr:=run_build_hash (P:=Tryz.prog) Tryz.underlying30 info_hs id hl w
    unfold execOp
    simp only[hop,List.map_toArray,List.map_cons,List.map_nil,hx a w k,Sem.run_bind,Sem.run_pure,Result.andThen_ok,hr],
    (Below.refl _ _).alloc (Nat.le_refl _) _,hV _ _ ⟨_,rfl,hs_fresh hl⟩⟩
theorem wpList_build_hs {ops:Array Oper} {rest:List Oper} {o:Oper} {a:Act} {w:World} {Q:Exit→Act→World→Prop} (hg:o.guard=none) (x:Operand) (hop:o.op=.buildSlice 30 1 #[(0,x)]) (l:List (BitVec 8)) (hl:l.length=32) (hx:a.eval x=.agg (blist l).toArray)
    (h:wpList Tryz.prog ops Q rest (a.put o.dst (.slice (some ⟨w.heap.size,0,none⟩) 1 1)) (w.alloc (.cells (blist l).toArray 46))):wpList Tryz.prog ops Q (o :: rest) a w:=by
  refine wpList_plain hg fun K hK=>?_
  have hr:=run_build_hash (P:=Tryz.prog) Tryz.underlying30 info_hs l hl w
  unfold Oper.wp execOp
  simp only[hop,List.map_toArray,List.map_cons,List.map_nil,hx,Sem.run_bind,Sem.run_pure,Result.andThen_ok,hr]
  exact hK _ _ h
theorem neq_nil (y:Addr) (n q:Nat) (x z:Operand) (w:World):(do eqGuard .neq 27 x z (.slice (some y) n q) (.slice none 0 0);binOp .neq 27 (.slice (some y) n q) (.slice none 0 0)).run Tryz.prog w=.ok (.bool true) w:=by
  simp only[binOp]
  simp[eqGuard,run_equal_slice_nil w 27 50 (some y) n q Tryz.underlying27]
theorem eqln_nil (y:Addr) (n q:Nat) (w:World):(binOp .eql 27 (.slice (some y) n q) (.slice none 0 0)).run Tryz.prog w=.ok (.bool false) w:=by
  simp only[binOp]
  simp[run_equal_slice_nil w 27 50 (some y) n q Tryz.underlying27]
theorem eq00 (x z:Operand) (w:World):(do eqGuard .eql 3 x z (.int .i64 0) (.int .i64 0);binOp .eql 3 (.int .i64 0) (.int .i64 0)).run Tryz.prog w=.ok (.bool true) w:=by
  kernel_rfl
theorem add00 (x z:Operand) (w:World):(do eqGuard .add 3 x z (.int .i64 0) (.int .i64 0);binOp .add 3 (.int .i64 0) (.int .i64 0)).run Tryz.prog w=.ok (.int .i64 0) w:=by
  kernel_rfl
theorem eqpn (x z:Operand) (w:World):(do eqGuard .eql 25 x z (.pointer none) (.pointer none);binOp .eql 25 (.pointer none) (.pointer none)).run Tryz.prog w=.ok (.bool true) w:=by
  kernel_rfl
theorem built_pt1_32 (d0 d1 d2 d3 d4 d5 d6 d7 d8 d9 d10 d11 d12 d13 d14 d15 d16 d17 d18 d19 d20 d21 d22 d23 d24 d25 d26 d27 d28 d29 d30 d31:BitVec 8):Tryz.prog.built 58 [(0,.agg (blist [d0,d1,d2,d3,d4,d5,d6,d7,d8,d9,d10,d11,d12,d13,d14,d15,d16,d17,d18,d19,d20,d21,d22,d23,d24,d25,d26,d27,d28,d29,d30,d31]).toArray)]=some (ptCells [d0,d1,d2,d3,d4,d5,d6,d7,d8,d9,d10,d11,d12,d13,d14,d15,d16,d17,d18,d19,d20,d21,d22,d23,d24,d25,d26,d27,d28,d29,d30,d31] 0).toArray:=by kernel_rfl
theorem built_pt1:∀ (D:List (BitVec 8)),D.length=32→Tryz.prog.built 58 [(0,.agg (blist D).toArray)]=some (ptCells D 0).toArray
  | [d0,d1,d2,d3,d4,d5,d6,d7,d8,d9,d10,d11,d12,d13,d14,d15,d16,d17,d18,d19,d20,d21,d22,d23,d24,d25,d26,d27,d28,d29,d30,d31],_=>built_pt1_32 d0 d1 d2 d3 d4 d5 d6 d7 d8 d9 d10 d11 d12 d13 d14 d15 d16 d17 d18 d19 d20 d21 d22 d23 d24 d25 d26 d27 d28 d29 d30 d31
end Gr
end Go.Proofs.YtijemcfnlbapjaaGreatDoor
