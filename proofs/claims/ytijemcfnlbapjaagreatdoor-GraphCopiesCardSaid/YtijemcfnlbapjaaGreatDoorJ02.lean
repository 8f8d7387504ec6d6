/- Go maps, of whatever keys and elements: what a map holds, key by key; what the operations on it answer; ranges over it. Nothing of the program. · Digests: arrays of 32 bytes, and slices of them, that came in. -/
import Derived.Test.YtijemcfnlbapjaaGreatDoorJ01
import Derived.Maps.OwnSet
import Derived.Maps.RangeRun
import Derived.Tactics
import Derived.Test.YtijemcfnlbapjaaGreatDoorRows
import Derived.Deep.Slices
import Derived.Deep.MidRow
namespace Go.Proofs.YtijemcfnlbapjaaGreatDoor
open Go Go.RowKit Go.ChangeShapes Go.WideShapes
structure MapT (P:Program) (κ β:Type) [DecidableEq κ] where
  tm:TypeId
  tk:TypeId
  te:TypeId
  kv:κ→Value
  kok:κ→Prop
  vv:β→Value
  vok:β→Prop
  z:β
  under:P.underlying tm=some (.map tk te)
  find:∀ (w:World) (k:κ) (es:List MapEntry),(Instr.findKey tk (kv k) es).run P w=(Instr.findAsking tk (kv k) es 0).run P w
  check:∀ (em:Bool) (w:World) (k:κ),kok k→(Instr.checkKey em 10000 tk (kv k)).run P w=.ok () w
  eq:∀ (w:World) (k k':κ),kok k→kok k'→(Op.equalIn 10000 tk (kv k) (kv k')).run P w=.ok (decide (k=k')) w
  keep:∀ (w:World) (k:κ),(Instr.keyThatStays (kv k) (kv k)).run P w=.ok (kv k) w
  zero:∀ (w:World),(zeroValue te).run P w=.ok (vv z) w
namespace Mp
section
variable {κ β:Type} [DecidableEq κ]
def idx (p:κ):List (κ×β)→Option (Nat×β)
  | []=>none
  | x :: M=>if p=x.1 then some (0,x.2) else(idx p M).map (fun r=>(r.1+1,r.2))
def look (M:List (κ×β)) (p:κ):Option β:=(idx p M).map (·.2)
def put (M:List (κ×β)) (p:κ) (c:β):List (κ×β):=match idx p M with
  | some r=>M.set r.1 (p,c)
  | none=>M++[(p,c)]
def del (M:List (κ×β)) (p:κ):List (κ×β):=match idx p M with
  | some r=>M.eraseIdx r.1
  | none=>M
theorem idx_at {p:κ} : ∀ {M:List (κ×β)} {r:Nat×β},idx p M=some r→M[r.1]? = some (p,r.2)
  | [],r,h=>by cases h
  | x :: M,r,h=>by
    unfold idx at h
    split at h
    · rename_i e
      injection h with h
      subst h
      subst e
      rfl
    · obtain⟨s,hs,rfl⟩:=Option.map_eq_some_iff.1 h
      show M[s.1]? = some (p,s.2)
      exact idx_at hs
theorem idx_none {p:κ} : ∀ {M:List (κ×β)},idx p M=none↔∀ x,x∈M→x.1≠p
  | []=>⟨(fun _ x h=>by cases h),(fun _=>rfl)⟩
  | x :: M=>by
    unfold idx
    split
    · rename_i e
      exact⟨(fun h=>by cases h),fun h=>absurd e.symm (h x List.mem_cons_self)⟩
    · rename_i e
      rw[Option.map_eq_none_iff,idx_none]
      refine⟨fun h y hy=>?_,fun h y hy=>h y (List.mem_cons_of_mem _ hy)⟩
      rcases List.mem_cons.1 hy with rfl | hy
      · exact fun e2=>e e2.symm
      · exact h y hy
theorem idx_cons (x:κ×β) (M:List (κ×β)) (q:κ):idx q (x :: M)=if q=x.1 then some (0,x.2) else(idx q M).map (fun r=>(r.1+1,r.2)):=rfl
theorem look_cons (x:κ×β) (M:List (κ×β)) (q:κ):look (x :: M) q=if q=x.1 then some x.2 else look M q:=by
  unfold look
  rw[idx_cons]
  by_cases h:q=x.1
  · rw[if_pos h,if_pos h]
    rfl
  · rw[if_neg h,if_neg h,Option.map_map]
    rfl
theorem put_cons (x:κ×β) (M:List (κ×β)) (p:κ) (c:β):put (x :: M) p c=if p=x.1 then(p,c) :: M else x :: put M p c:=by
  unfold put
  rw[idx_cons]
  by_cases h:p=x.1
  · rw[if_pos h,if_pos h]
    rfl
  · rw[if_neg h,if_neg h]
    cases idx p M<;>rfl
theorem del_cons (x:κ×β) (M:List (κ×β)) (p:κ):del (x :: M) p=if p=x.1 then M else x :: del M p:=by
  unfold del
  rw[idx_cons]
  by_cases h:p=x.1
  · rw[if_pos h,if_pos h]
    rfl
  · rw[if_neg h,if_neg h]
    cases idx p M<;>rfl
theorem look_put (p q:κ) (c:β):∀ M:List (κ×β),look (put M p c) q=if q=p then some c else look M q
  | []=>by
    show look [(p,c)] q=_
    rw[look_cons]
  | x :: M=>by
    rw[put_cons]
    by_cases h:p=x.1
    · rw[if_pos h,look_cons,look_cons]
      by_cases h2:q=p
      · rw[if_pos h2,if_pos h2]
      · rw[if_neg h2,if_neg h2,if_neg (by rw[← h];exact h2)]
    · rw[if_neg h,look_cons,look_cons,look_put p q c M]
      by_cases h2:q=x.1
      · rw[if_pos h2,if_pos h2,if_neg (fun e:q=p=>h (e.symm.trans h2))]
      · rw[if_neg h2,if_neg h2]
theorem look_none {M:List (κ×β)} {p:κ} : look M p=none↔∀ x,x∈M→x.1≠p:=by
  unfold look
  rw[Option.map_eq_none_iff]
  exact idx_none
theorem look_del (p q:κ):∀ {M:List (κ×β)},(M.map (·.1)).Nodup→look (del M p) q=if q=p then none else look M q
  | [],_=>by
    show look [] q=_
    split<;>rfl
  | x :: M,hn=>by
    rw[List.map_cons,List.nodup_cons] at hn
    rw[del_cons]
    by_cases h:p=x.1
    · rw[if_pos h,look_cons]
      by_cases h2:q=p
      · rw[if_pos h2]
        exact look_none.2 fun y hy e=>hn.1 (List.mem_map.2 ⟨y,hy,by rw[e,h2,h]⟩)
      · rw[if_neg h2,if_neg (by rw[← h];exact h2)]
    · rw[if_neg h,look_cons,look_cons,look_del p q hn.2]
      by_cases h2:q=x.1
      · rw[if_pos h2,if_pos h2,if_neg (fun e:q=p=>h (e.symm.trans h2))]
      · rw[if_neg h2,if_neg h2]
theorem put_keys {M:List (κ×β)} {p:κ} {c:β} (h:(M.map (·.1)).Nodup):((put M p c).map (·.1)).Nodup:=by
  unfold put
  cases hi:idx p M with
  | none=>
    show((M++[(p,c)]).map (·.1)).Nodup
    rw[List.map_append,List.nodup_append]
    refine⟨h,by simp,fun a ha b hb=>?_⟩
    obtain⟨x,hx,rfl⟩:=List.mem_map.1 ha
    obtain rfl:b=p:=by simpa using hb
    exact idx_none.1 hi x hx
  | some r=>
    show((M.set r.1 (p,c)).map (·.1)).Nodup
    have h2:=idx_at hi
    obtain⟨h3,h4⟩:=List.getElem?_eq_some_iff.1 h2
    have e:(M.set r.1 (p,c)).map (·.1)=M.map (·.1):=by
      rw[List.map_set]
      apply List.ext_getElem?
      intro i
      rw[List.getElem?_set]
      split
      · rename_i e
        subst e
        rw[List.length_map]
        simp[h3,h4]
      · rfl
    rw[e]
    exact h
theorem put_mem {M:List (κ×β)} {p:κ} {c:β} {x:κ×β} (h:x∈put M p c):x∈M∨x=(p,c):=by
  unfold put at h
  cases hi:idx p M with
  | none=>
    rw[hi] at h
    rcases List.mem_append.1 h with h | h
    · exact .inl h
    · exact .inr (List.mem_singleton.1 h)
  | some r=>
    rw[hi] at h
    exact List.mem_or_eq_of_mem_set h
end
end Mp
section
variable {P:Program} {κ β:Type} [DecidableEq κ]
def MapG (D:MapT P κ β) (w:World) (b:Nat) (M:List (κ×β)):Prop:=
  ∃ (es:Array MapEntry) (clock:Nat),w.heap[b]? = some (.map es clock)∧es.toList.map (fun e=>(e.key,e.val))=M.map (fun x=>(D.kv x.1,D.vv x.2))∧(M.map (·.1)).Nodup∧(∀ x,x∈M→D.kok x.1∧D.vok x.2)∧
    (∀ e,e∈es.toList→e.born<clock)∧(es.toList.map (·.born)).Nodup
variable {D:MapT P κ β}
theorem MapG.lt {w:World} {b:Nat} {M:List (κ×β)} (h:MapG D w b M):b<w.heap.size:=by
  obtain⟨es,clock,h,_⟩:=h
  exact(Array.getElem?_eq_some_iff.1 h).1
theorem MapG.keys {w:World} {b:Nat} {M:List (κ×β)} (h:MapG D w b M):(M.map (·.1)).Nodup:=by
  obtain⟨es,clock,_,_,hn,_⟩:=h
  exact hn
theorem MapG.moved {F:Nat→Prop} {w w':World} {b:Nat} {M:List (κ×β)} (h:MapG D w b M) (hm:Moved F w w') (hb:¬ F b):MapG D w' b M:=by
  have hl:=h.lt
  obtain⟨es,clock,h1,h2⟩:=h
  exact⟨es,clock,(hm.block b hl hb).trans h1,h2⟩
theorem MapG.below {w w':World} {b:Nat} {M:List (κ×β)} (h:MapG D w b M) (hb:Below w.heap.size w w'):MapG D w' b M:=h.moved (F:=fun _=>False) (Moved.of_below hb) (fun e=>e)
theorem MapG.fresh (w:World):MapG D (w.alloc (.map #[] 0)) w.heap.size []:=
  ⟨#[],0,(by show(w.heap.push _)[w.heap.size]? = _;exact Array.getElem?_push_size),rfl,List.nodup_nil,(fun _ h=>by cases h),(fun _ h=>by cases h),List.nodup_nil⟩
set_option maxRecDepth 100000 in
theorem run_findAskG (w:World) (p:κ) (hp:D.kok p):∀ (es:List MapEntry) (M:List (κ×β)) (i:Nat),es.map (fun e=>(e.key,e.val))=M.map (fun x=>(D.kv x.1,D.vv x.2))→(∀ x,x∈M→D.kok x.1∧D.vok x.2)→
    (Instr.findAsking D.tk (D.kv p) es i).run P w=.ok ((Mp.idx p M).map (fun r=>(i+r.1,D.vv r.2))) w
  | [],[],i,_,_=>rfl
  | [],x :: M,i,h,_=>by cases h
  | e :: es,[],i,h,_=>by cases h
  | e :: es,x :: M,i,h,hM=>by
    rw[List.map_cons,List.map_cons] at h
    injection h with h1 h2
    injection h1 with hk hv
    have ih:=run_findAskG w p hp es M (i+1) h2 (fun y hy=>hM y (List.mem_cons_of_mem _ hy))
    have he:=D.eq w p x.1 hp (hM x List.mem_cons_self).1
    unfold Instr.findAsking
    rw[hk,hv]
    show((Op.equalIn 10000 D.tk (D.kv p) (D.kv x.1)) >>= _:Sem _).run P w=_
    rw[Sem.run_bind,he]
    by_cases hx:p=x.1
    · rw[decide_eq_true hx,Mp.idx,if_pos hx]
      rfl
    · rw[decide_eq_false hx,Mp.idx,if_neg hx,Option.map_map]
      show(Instr.findAsking D.tk (D.kv p) es (i+1)).run P w=_
      rw[ih]
      congr 2
      funext r
      show(i+1+r.1,D.vv r.2)=(i+(r.1+1),D.vv r.2)
      rw[Nat.add_assoc,Nat.add_comm 1]
theorem run_findG (w:World) (p:κ) (hp:D.kok p) (es:List MapEntry) (M:List (κ×β)) (h:es.map (fun e=>(e.key,e.val))=M.map (fun x=>(D.kv x.1,D.vv x.2))) (hM:∀ x,x∈M→D.kok x.1∧D.vok x.2) :
    (Instr.findKey D.tk (D.kv p) es).run P w=.ok ((Mp.idx p M).map (fun r=>(r.1,D.vv r.2))) w:=by
  have hf:=run_findAskG w p hp es M 0 h hM
  simp only[Nat.zero_add] at hf
  rw[D.find w p es]
  exact hf
theorem MapG.look {w:World} {b:Nat} {M:List (κ×β)} (h:MapG D w b M) (p:κ) (hp:D.kok p) (c:Bool) :
    (Instr.lookup D.tm (.map (some b)) (D.kv p) c).run P w=.ok (if c then .tuple #[D.vv ((Mp.look M p).getD D.z),.bool (Mp.look M p).isSome] else D.vv ((Mp.look M p).getD D.z)) w:=by
  obtain⟨es,clock,hb,he,hn,hM,h1,h2⟩:=h
  have hf:=run_findG w p hp es.toList M he hM
  unfold Mp.look
  cases hi:Mp.idx p M with
  | none=>
    rw[hi] at hf
    simp[Instr.lookup,run_underlying D.under,MapKept.run_getObj_map hb,D.check _ w p hp,hf,D.zero w,Result.andThen]
  | some r=>
    rw[hi] at hf
    simp[Instr.lookup,run_underlying D.under,MapKept.run_getObj_map hb,D.check _ w p hp,hf,Result.andThen]
theorem MapG.len {w:World} {b:Nat} {M:List (κ×β)} (h:MapG D w b M) (ty:TypeId):(Builtin.len_ #[D.tm] ty #[.map (some b)]).run P w=.ok (.int .i64 M.length) w:=by
  obtain⟨es,clock,hb,he,hn,hM,h1,h2⟩:=h
  have e:es.size=M.length:=by
    have e2:=congrArg List.length he
    simpa using e2
  simp[Builtin.len_,run_underlying D.under,MapKept.run_getObj_map hb,goInt,Result.andThen,e]
theorem moved_setBlockG {w:World} {b:Nat} {es:Array MapEntry} {clock:Nat} (hb:w.heap[b]? = some (.map es clock)) (o:Obj):Moved (fun j=>j=b) w (ChangeMaps.setBlock w b o):=
  ⟨rfl,rfl,rfl,by simp[ChangeMaps.setBlock],fun k _ hk=>ChangeMaps.heap_setBlock_other hb o (fun e=>hk e)⟩
theorem entries_atG {es:Array MapEntry} {M:List (κ×β)} (he:es.toList.map (fun e=>(e.key,e.val))=M.map (fun x=>(D.kv x.1,D.vv x.2))) {i:Nat} {x:κ×β} (hx:M[i]? = some x):∃ e,es[i]? = some e∧e.key=D.kv x.1∧e.val=D.vv x.2:=by
  have h:=congrArg (fun l=>l[i]?) he
  simp only[List.getElem?_map,hx,Option.map_some] at h
  cases h2:es.toList[i]? with
  | none=>rw[h2] at h;cases h
  | some e=>
    rw[h2] at h
    injection h with h
    injection h with h3 h4
    exact⟨e,by rw[← Array.getElem?_toList];exact h2,h3,h4⟩
theorem MapG.put {w:World} {b:Nat} {M:List (κ×β)} (h:MapG D w b M) (p:κ) (hp:D.kok p) (c:β) (hc:D.vok c) :
    ∃ w',(Instr.mapUpdate D.tm (.map (some b)) (D.kv p) (D.vv c)).run P w=.ok () w'∧MapG D w' b (Mp.put M p c)∧Moved (fun j=>j=b) w w':=by
  have hkeys:=Mp.put_keys (p:=p) (c:=c) (M:=M)
  have hmem:=fun x=>Mp.put_mem (p:=p) (c:=c) (M:=M) (x:=x)
  obtain⟨es,clock,hb,he,hn,hM,h1,h2⟩:=h
  have hf:=run_findG w p hp es.toList M he hM
  have hall:∀ x,x∈Mp.put M p c→D.kok x.1∧D.vok x.2:=fun x hx=>by
    rcases hmem x hx with h | h
    · exact hM x h
    · rw[h];exact⟨hp,hc⟩
  cases hi:Mp.idx p M with
  | none=>
    rw[hi] at hf
    refine⟨ChangeMaps.setBlock w b (.map (es.push { key:=D.kv p,val:=D.vv c,born:=clock }) (clock+1)),?_,?_,moved_setBlockG hb _⟩
    · simp[Instr.mapUpdate,run_underlying D.under,MapKept.run_getObj_map hb,D.check _ w p hp,hf,MapKept.run_setObj_map _ hb,Result.andThen,ChangeMaps.setBlock]
    · refine⟨_,_,ChangeMaps.heap_setBlock_same hb _,?_,hkeys hn,hall,?_,?_⟩
      · rw[Mp.put,hi,Array.toList_push,List.map_append,he,List.map_append]
        rfl
      · intro e hm
        rw[Array.toList_push] at hm
        rcases List.mem_append.1 hm with hm | hm
        · have:=h1 e hm
          omega
        · rw[List.mem_singleton.1 hm]
          show clock<clock+1
          omega
      · rw[Array.toList_push,List.map_append,List.nodup_append]
        refine⟨h2,by simp,fun x hx y hy=>?_⟩
        obtain⟨e,hm,rfl⟩:=List.mem_map.1 hx
        have:=h1 e hm
        have e2:y=clock:=by simpa using hy
        omega
  | some r=>
    rw[hi] at hf
    obtain⟨e0,he0,hk0,hv0⟩:=entries_atG he (Mp.idx_at hi)
    have hlt:r.1<es.size:=(Array.getElem?_eq_some_iff.1 he0).1
    refine⟨ChangeMaps.setBlock w b (.map (es.modify r.1 fun e=>{ e with key:=D.kv p,val:=D.vv c }) clock),?_,?_,moved_setBlockG hb _⟩
    · simp[Instr.mapUpdate,run_underlying D.under,MapKept.run_getObj_map hb,D.check _ w p hp,hf,he0,hk0,D.keep w p,MapKept.run_setObj_map _ hb,Result.andThen,ChangeMaps.setBlock]
    · have hl:(es.modify r.1 fun e=>{ e with key:=D.kv p,val:=D.vv c }).toList=es.toList.set r.1 { e0 with key:=D.kv p,val:=D.vv c }:=by
        apply List.ext_getElem?
        intro i
        rw[Array.getElem?_toList,Array.getElem?_modify,List.getElem?_set,Array.getElem?_toList]
        split
        · rename_i e
          subst e
          rw[he0]
          simp[hlt]
        · rfl
      refine⟨_,_,ChangeMaps.heap_setBlock_same hb _,?_,hkeys hn,hall,?_,?_⟩
      · rw[hl,List.map_set,he,Mp.put,hi,List.map_set]
      · rw[hl]
        intro e hm
        rcases List.mem_or_eq_of_mem_set hm with hm | hm
        · exact h1 e hm
        · rw[hm]
          exact h1 e0 (List.mem_of_getElem? (by rw[Array.getElem?_toList];exact he0))
      · rw[hl,List.map_set]
        have e:(es.toList.map (·.born)).set r.1 e0.born=es.toList.map (·.born):=by
          apply List.ext_getElem?
          intro i
          rw[List.getElem?_set]
          split
          · rename_i e
            subst e
            rw[List.length_map,List.getElem?_map,Array.getElem?_toList,he0]
            simp[hlt]
          · rfl
        show((es.toList.map (·.born)).set r.1 e0.born).Nodup
        rw[e]
        exact h2
theorem MapG.del {w:World} {b:Nat} {M:List (κ×β)} (h:MapG D w b M) (p:κ) (hp:D.kok p) (ty:TypeId) :
    ∃ w',(Builtin.delete_ #[D.tm,D.tk] ty #[.map (some b),D.kv p]).run P w=.ok (.tuple #[]) w'∧MapG D w' b (Mp.del M p)∧Moved (fun j=>j=b) w w':=by
  obtain⟨es,clock,hb,he,hn,hM,h1,h2⟩:=h
  have hf:=run_findG w p hp es.toList M he hM
  cases hi:Mp.idx p M with
  | none=>
    rw[hi] at hf
    refine⟨ChangeMaps.setBlock w b (.map es clock),?_,⟨es,clock,ChangeMaps.heap_setBlock_same hb _,?_⟩,moved_setBlockG hb _⟩
    · simp[Builtin.delete_,run_underlying D.under,MapKept.run_getObj_map hb,D.check _ w p hp,hf,MapKept.run_setObj_map _ hb,Result.andThen,ChangeMaps.setBlock]
    · rw[Mp.del,hi]
      exact⟨he,hn,hM,h1,h2⟩
  | some r=>
    rw[hi] at hf
    have hsub:∀ {α:Type} (l:List α) (i:Nat),(l.eraseIdx i).Sublist l:=fun l i=>List.eraseIdx_sublist l i
    have hlt:r.1<es.size:=(Array.getElem?_eq_some_iff.1 (entries_atG he (Mp.idx_at hi)).choose_spec.1).1
    refine⟨ChangeMaps.setBlock w b (.map (es.eraseIdxIfInBounds r.1) clock),?_,⟨_,clock,ChangeMaps.heap_setBlock_same hb _,?_⟩,moved_setBlockG hb _⟩
    · simp[Builtin.delete_,run_underlying D.under,MapKept.run_getObj_map hb,D.check _ w p hp,hf,MapKept.run_setObj_map _ hb,Result.andThen,ChangeMaps.setBlock]
    · have hl:(es.eraseIdxIfInBounds r.1).toList=es.toList.eraseIdx r.1:=by
        simp[Array.eraseIdxIfInBounds,hlt]
      rw[hl,Mp.del,hi]
      refine⟨?_,?_,fun x hx=>hM x ((hsub _ _).subset hx),fun e hm=>h1 e ((hsub _ _).subset hm),?_⟩
      · rw[ChangeMaps.map_eraseIdx,he,ChangeMaps.map_eraseIdx]
      · show((M.eraseIdx r.1).map (·.1)).Nodup
        exact hn.sublist ((hsub _ _).map _)
      · exact h2.sublist ((hsub _ _).map _)
def RangeG (D:MapT P κ β) (w:World) (b r:Nat) (M left:List (κ×β)):Prop:=
  ∃ (es:Array MapEntry) (clock since c0:Nat) (seen:Array Nat),w.heap[b]? = some (.map es clock)∧es.toList.map (fun e=>(e.key,e.val))=M.map (fun x=>(D.kv x.1,D.vv x.2))∧(M.map (·.1)).Nodup∧(∀ x,x∈M→D.kok x.1∧D.vok x.2)∧
    (∀ e,e∈es.toList→e.born<clock)∧(es.toList.map (·.born)).Nodup∧
    w.heap[r]? = some (.mapIter (some b) since seen c0)∧(∀ x∈es.toList,x.born<since)∧since≤c0∧since≤clock∧
    (leftOf es seen).toList.map (fun e=>(e.key,e.val))=left.map (fun x=>(D.kv x.1,D.vv x.2))
section
variable {w:World} {b r:Nat} {M left:List (κ×β)}
theorem RangeG.ne (h:RangeG D w b r M left):r≠b:=by
  rintro rfl
  obtain⟨es,clock,since,c0,seen,h1,_,_,_,_,_,h7,_⟩:=h
  rw[h1] at h7
  cases h7
theorem RangeG.lt (h:RangeG D w b r M left):b<w.heap.size∧r<w.heap.size:=by
  obtain⟨es,clock,since,c0,seen,h1,_,_,_,_,_,h7,_⟩:=h
  exact⟨(Array.getElem?_eq_some_iff.1 h1).1,(Array.getElem?_eq_some_iff.1 h7).1⟩
theorem RangeG.moved {F:Nat→Prop} {w':World} (h:RangeG D w b r M left) (hm:Moved F w w') (hb:¬ F b) (hr:¬ F r):RangeG D w' b r M left:=by
  obtain⟨l1,l2⟩:=h.lt
  obtain⟨es,clock,since,c0,seen,h1,h2,h3,h4,h5,h6,h7,h8⟩:=h
  exact⟨es,clock,since,c0,seen,(hm.block b l1 hb).trans h1,h2,h3,h4,h5,h6,(hm.block r l2 hr).trans h7,h8⟩
theorem MapG.ranges (h:MapG D w b M):∃ w',(Instr.range D.tm (.map (some b))).run P w=.ok (.pointer (some ⟨w.heap.size,0,none⟩)) w'∧RangeG D w' b w.heap.size M M∧Below w.heap.size w w':=by
  have hlt:=h.lt
  obtain⟨es,clock,hb,he,hn,hM,h1,h2⟩:=h
  refine⟨_,run_range_map w _ _ _ b es clock D.under hb,⟨es,clock,clock,clock,#[],((MapKept.heap_alloc w _).2 b hlt).trans hb,he,hn,hM,h1,h2,(MapKept.heap_alloc w _).1,h1,Nat.le_refl _,Nat.le_refl _,?_⟩,(Below.refl _ _).alloc (Nat.le_refl _) _⟩
  have e:(leftOf es #[]).toList=es.toList:=by simp[leftOf]
  rw[e]
  exact he
theorem left_pushG {es:Array MapEntry} {seen:Array Nat} (k:Nat):(leftOf es (seen.push k)).toList=(leftOf es seen).toList.filter (fun y=>!(y.born==k)):=by
  unfold leftOf
  rw[Array.toList_filter,Array.toList_filter,List.filter_filter]
  congr 1
  funext y
  simp only[Array.contains_push,Bool.not_or]
  rw[Bool.and_comm]
theorem RangeG.next (h:RangeG D w b r M left) (ty:TypeId) :
    (left=[]∧(Instr.next (.pointer (some ⟨r,0,none⟩)) false ty).run P w=.ok (.tuple #[.bool false]) w)∨
    ∃ (l1 l2:List (κ×β)) (x:κ×β) (w':World),left=l1++x :: l2∧(Instr.next (.pointer (some ⟨r,0,none⟩)) false ty).run P w=.ok (.tuple #[.bool true,D.kv x.1,D.vv x.2]) w'∧
      RangeG D w' b r M (l1++l2)∧Moved (fun j=>j=r) w w'∧(Instr.entry (.pointer (some ⟨r,0,none⟩))).run P w'=.ok (.tuple #[D.kv x.1,D.vv x.2]) w':=by
  have hne:=h.ne
  obtain⟨es,clock,since,c0,seen,h1,h2,h3,h4,h5,h6,h7,h8,h9,h10,h11⟩:=h
  rcases run_next_at (P:=P) w ty r b since c0 seen es clock h7 h1 h8 h9 with⟨h0,hrun⟩ | ⟨e,he,w1,hw1,hrun⟩
  · refine .inl ⟨?_,hrun⟩
    have e:=congrArg List.length h11
    simp only[List.length_map,Array.length_toList,h0] at e
    exact List.length_eq_zero_iff.1 e.symm
  · obtain⟨A,B,hAB⟩:=List.append_of_mem he
    rw[hAB,List.map_append,List.map_cons] at h11
    obtain⟨l1,l2',rfl,hA,hB⟩:=List.map_eq_append_iff.1 h11.symm
    obtain⟨x,l2,rfl,hx,hB2⟩:=List.map_eq_cons_iff.1 hB
    injection hx with hk hv
    rw[← hk,← hv] at hrun
    have hw:w1.heap=w.heap:=by rcases hw1 with rfl | rfl<;>rfl
    have hr1:w1.heap[r]? = some (.mapIter (some b) since seen c0):=by rw[hw];exact h7
    have hb1:w1.heap[b]? = some (.map es clock):=by rw[hw];exact h1
    have s1:(ChangeMaps.setBlock w1 r (.mapIter (some b) since (seen.push e.born) clock)).heap[r]? = some (.mapIter (some b) since (seen.push e.born) clock):=by
      show(w1.heap.setIfInBounds r _)[r]? = _
      rw[Array.getElem?_setIfInBounds_self_of_lt (Array.getElem?_eq_some_iff.1 hr1).1]
    have s2:∀ j,j≠r→(ChangeMaps.setBlock w1 r (.mapIter (some b) since (seen.push e.born) clock)).heap[j]? = w.heap[j]?:=fun j hj=>by
      show(w1.heap.setIfInBounds r _)[j]? = _
      rw[Array.getElem?_setIfInBounds_ne (fun e=>hj e.symm),hw]
    have hsub:(leftOf es seen).toList.Sublist es.toList:=by
      unfold leftOf
      rw[Array.toList_filter]
      exact List.filter_sublist
    have hnd:((A++e :: B).map (·.born)).Nodup:=by rw[← hAB];exact h6.sublist (hsub.map _)
    have hleft:(leftOf es (seen.push e.born)).toList=A++B:=by
      rw[left_pushG,hAB,List.filter_append,List.filter_cons]
      rw[List.map_append,List.map_cons,List.nodup_append] at hnd
      obtain⟨_,n2,n3⟩:=hnd
      have f1:A.filter (fun y=>!(y.born==e.born))=A:=List.filter_eq_self.2 fun y hy=>by
        have:=n3 y.born (List.mem_map.2 ⟨y,hy,rfl⟩) e.born List.mem_cons_self
        simpa using this
      have f2:B.filter (fun y=>!(y.born==e.born))=B:=List.filter_eq_self.2 fun y hy=>by
        have n4:=(List.nodup_cons.1 n2).1
        have:y.born≠e.born:=fun e2=>n4 (List.mem_map.2 ⟨y,hy,e2⟩)
        simpa using this
      rw[f1,f2]
      simp
    refine .inr ⟨l1,l2,x,_,rfl,hrun,⟨es,clock,since,clock,seen.push e.born,(s2 b (fun e=>hne e.symm)).trans h1,h2,h3,h4,h5,h6,s1,h8,h10,h10,?_⟩,?_,?_⟩
    · rw[hleft,List.map_append,← hA,← hB2,List.map_append]
    · refine⟨?_,?_,?_,?_,fun j _ hj=>s2 j hj⟩
      · rcases hw1 with rfl | rfl<;>rfl
      · rcases hw1 with rfl | rfl<;>rfl
      · rcases hw1 with rfl | rfl<;>rfl
      · show w.heap.size≤(w1.heap.setIfInBounds r _).size
        rw[Array.size_setIfInBounds,hw]
        exact Nat.le_refl _
    · rw[hk,hv]
      exact run_entry_at _ r b since seen es clock e s1 ((s2 b (fun e=>hne e.symm)).trans h1) (hsub.subset he) h6
end
section
variable {w:World} {ops:Array Oper} {rest:List Oper} {o:Oper} {a:Act} {Q:Exit→Act→World→Prop} {M left:List (κ×β)} {b r:Nat}
def Mp.got (D:MapT P κ β) (M:List (κ×β)) (p:κ) (c:Bool):Value:=if c then .tuple #[D.vv ((Mp.look M p).getD D.z),.bool (Mp.look M p).isSome] else D.vv ((Mp.look M p).getD D.z)
theorem wpList_lookup_g (hg:o.guard=none) (m x:Operand) (c:Bool) (hop:o.op=Op.lookup D.tm m x c) (hm:a.eval m=.map (some b)) (h:MapG D w b M) (p:κ) (hx:a.eval x=D.kv p) (hp:D.kok p)
    (hK:wpList P ops Q rest (a.put o.dst (Mp.got D M p c)) w):wpList P ops Q (o :: rest) a w:=by
  refine wpList_plain hg fun K' hK'=>?_
  have hrun:=h.look p hp c
  unfold Oper.wp
  simp only[execOp,hop,hm,hx,Sem.run_bind,Sem.run_pure,hrun,Result.andThen_ok]
  exact hK' _ _ hK
theorem wpList_mapUpdate_g (hg:o.guard=none) (m x v:Operand) (hop:o.op=Op.mapUpdate D.tm m x v) (hm:a.eval m=.map (some b)) (h:MapG D w b M) (p:κ) (hx:a.eval x=D.kv p) (hp:D.kok p) (c:β) (hv:a.eval v=D.vv c) (hc:D.vok c)
    (hK:∀ w',MapG D w' b (Mp.put M p c)→Moved (fun j=>j=b) w w'→wpList P ops Q rest (a.put o.dst undef) w'):wpList P ops Q (o :: rest) a w:=by
  refine wpList_plain hg fun K' hK'=>?_
  obtain⟨w',hrun,r1,r2⟩:=h.put p hp c hc
  unfold Oper.wp
  simp[execOp,hop,hm,hx,hv,hrun,Result.andThen]
  exact hK' _ _ (hK w' r1 r2)
theorem wpList_len_g (hg:o.guard=none) (m:Operand) (hop:o.op=Op.call { callee:=Callee.builtin Builtin.len,args:=#[m],argTypes:=#[D.tm] }) (hm:a.eval m=.map (some b)) (h:MapG D w b M)
    (hK:wpList P ops Q rest (a.put o.dst (.int .i64 M.length)) w):wpList P ops Q (o :: rest) a w:=by
  refine wpList_plain hg fun K' hK'=>?_
  unfold Oper.wp
  simp[execOp,hop,resolve,invoke,builtin,hm,h.len o.type,Result.andThen]
  exact hK' _ _ hK
theorem wpList_range_g (hg:o.guard=none) (m:Operand) (hop:o.op=Op.range D.tm m) (hm:a.eval m=.map (some b)) (h:MapG D w b M)
    (hK:∀ w',RangeG D w' b w.heap.size M M→Below w.heap.size w w'→wpList P ops Q rest (a.put o.dst (.pointer (some ⟨w.heap.size,0,none⟩))) w'):wpList P ops Q (o :: rest) a w:=by
  refine wpList_plain hg fun K' hK'=>?_
  obtain⟨w',hrun,r1,r2⟩:=h.ranges
  unfold Oper.wp
  simp[execOp,hop,hm,hrun,Result.andThen]
  exact hK' _ _ (hK w' r1 r2)
theorem wpList_next_g (hg:o.guard=none) (it:Operand) (hop:o.op=Op.next it false) (hit:a.eval it=.pointer (some ⟨r,0,none⟩)) (h:RangeG D w b r M left)
    (hDone:left=[]→wpList P ops Q rest (a.put o.dst (.tuple #[.bool false])) w)
    (hMore:∀ (l1 l2:List (κ×β)) (x:κ×β) (w':World),left=l1++x :: l2→RangeG D w' b r M (l1++l2)→Moved (fun j=>j=r) w w'→(Instr.entry (.pointer (some ⟨r,0,none⟩))).run P w'=.ok (.tuple #[D.kv x.1,D.vv x.2]) w'→
      wpList P ops Q rest (a.put o.dst (.tuple #[.bool true,D.kv x.1,D.vv x.2])) w'):wpList P ops Q (o :: rest) a w:=by
  refine wpList_plain hg fun K' hK'=>?_
  unfold Oper.wp
  rcases h.next o.type with⟨h0,hrun⟩ | ⟨l1,l2,x,w',hl,hrun,h1,h2,h3⟩
  · simp[execOp,hop,hit,hrun,Result.andThen]
    exact hK' _ _ (hDone h0)
  · simp[execOp,hop,hit,hrun,Result.andThen]
    exact hK' _ _ (hMore l1 l2 x w' hl h1 h2 h3)
theorem wpList_entry_g (hg:o.guard=none) (it:Operand) (hop:o.op=Op.entry it) (hit:a.eval it=.pointer (some ⟨r,0,none⟩)) {v:Value} (h:(Instr.entry (.pointer (some ⟨r,0,none⟩))).run P w=.ok v w)
    (hK:wpList P ops Q rest (a.put o.dst v) w):wpList P ops Q (o :: rest) a w:=by
  refine wpList_plain hg fun K' hK'=>?_
  unfold Oper.wp
  simp[execOp,hop,hit,h,Result.andThen]
  exact hK' _ _ hK
theorem yieldsIf_lookup_g {S:World→Prop} (hw:Region.wanted o (yielded ops a.tmps)=true) (m x:Operand) (c:Bool) (hop:o.op=Op.lookup D.tm m x c) (hm:a.eval m=.map (some b)) (p:κ) (hx:a.eval x=D.kv p) (hp:D.kok p) (h:∀ w,S w→MapG D w b M) :
    YieldsIf P ops S o (Mp.got D M p c) a:=
  .inl ⟨hw,fun w hS=>by
    have hrun:=(h w hS).look p hp c
    unfold execOp
    simp only[hop,hm,hx,Sem.run_bind,Sem.run_pure,hrun,Result.andThen_ok]
    rfl⟩
theorem step_mapUpdate_g {K:Act→World→Prop} {E:Prop} (hwt:Region.wanted o (yielded ops a.tmps)=true) (m x v:Operand) (hop:o.op=Op.mapUpdate D.tm m x v) (hm:a.eval m=.map (some b)) (h:MapG D w b M) (p:κ) (hx:a.eval x=D.kv p) (hp:D.kok p) (c:β) (hv:a.eval v=D.vv c) (hc:D.vok c)
    (hK:∀ w',MapG D w' b (Mp.put M p c)→Moved (fun j=>j=b) w w'→K (a.put o.dst undef) w'):if Region.wanted o (yielded ops a.tmps)=true then Oper.wp P o a w K Q else E:=by
  rw[if_pos hwt]
  obtain⟨w',hrun,r1,r2⟩:=h.put p hp c hc
  unfold Oper.wp
  simp[execOp,hop,hm,hx,hv,hrun,Result.andThen]
  exact hK w' r1 r2
theorem step_delete_g {K:Act→World→Prop} {E:Prop} (hwt:Region.wanted o (yielded ops a.tmps)=true) (m x:Operand) (hop:o.op=Op.call { callee:=Callee.builtin Builtin.delete,args:=#[m,x],argTypes:=#[D.tm,D.tk] }) (hm:a.eval m=.map (some b)) (h:MapG D w b M) (p:κ) (hx:a.eval x=D.kv p) (hp:D.kok p)
    (hK:∀ w',MapG D w' b (Mp.del M p)→Moved (fun j=>j=b) w w'→K (a.put o.dst (.tuple #[])) w'):if Region.wanted o (yielded ops a.tmps)=true then Oper.wp P o a w K Q else E:=by
  rw[if_pos hwt]
  obtain⟨w',hrun,r1,r2⟩:=h.del p hp o.type
  unfold Oper.wp
  simp[execOp,hop,resolve,invoke,builtin,hm,hx,hrun,Result.andThen]
  exact hK w' r1 r2
end
end
end Go.Proofs.YtijemcfnlbapjaaGreatDoor
namespace Go.Proofs.YtijemcfnlbapjaaGreatDoor
open Go Go.RowKit Go.ChangeShapes Go.WideShapes
theorem blist_of:∀ (cs:List Value),(∀ v∈cs,∃ x:BitVec 8,v=.int .u8 (nb8 x))→∃ l,cs=blist l∧l.length=cs.length
  | [],_=>⟨[],rfl,rfl⟩
  | v :: cs,h=>by
    obtain⟨x,rfl⟩:=h v (by simp)
    obtain⟨l,rfl,hl⟩:=blist_of cs (fun u hu=>h u (by simp[hu]))
    exact⟨x :: l,rfl,congrArg (·+1) hl⟩
section
variable {H:Type} {enc:TypeId×Value→H} {P:Program} {w:World} {base:Nat} {spare:Nat→Bool} {held:Bool}
theorem open_bytes32 {t e:TypeId} {k fuel:Nat} {cs:List Value} {x:DataW H×List MemPlace} (ht:P.underlying t=some (.array k e)) (he:P.underlying e=some (.int .u8)) (hc:P.cellsOf e=1) (hC:P.cellsOf t=k) (h:DataW.trod enc P w base spare held fuel t cs=some x) :
    ∃ l:List (BitVec 8),cs=blist l∧l.length=k:=by
  obtain⟨xs,m,_,_,hlen,hxl,hg⟩:=DataW.trod_array ht h
  rw[hC] at hlen
  obtain⟨l,e1,e2⟩:=blist_of cs (fun v hv=>by
    obtain⟨i,hi,rfl⟩:=List.mem_iff_getElem.1 hv
    have h1:=hg i (by omega)
    rw[hc,Nat.mul_one] at h1
    have e1:(cs.drop i).take 1=[cs[i]]:=by
      rw[List.drop_eq_getElem_cons hi]
      rfl
    rw[e1,List.getElem?_eq_getElem (by omega)] at h1
    obtain⟨z,e,_,hw⟩:=DataW.trod_int he h1
    obtain⟨e,_⟩:=List.cons.inj e
    obtain⟨b,rfl⟩:=u8_of_wf hw
    exact⟨b,e⟩)
  exact⟨l,e1,e2.trans hlen⟩
end
section
variable {H:Type} {enc:TypeId×Value→H} {P:Program} {W:World} {base:Nat} {v:Value} {d:DataW H} {p:List MemPlace}
theorem arg_bytes32 {t e:TypeId} {k:Nat} (ht:P.underlying t=some (.array k e)) (he:P.underlying e=some (.int .u8)) (hc:P.cellsOf e=1) (hC:P.cellsOf t=k) (o:Value.okWide P W .any base t v) (h:DataW.Trod enc P W 0 (fun _=>true) true t v d p) :
    ∃ l:List (BitVec 8),v=.agg (blist l).toArray∧l.length=k:=by
  have hv:∃ cs:Array Value,v=.agg cs:=by
    simp only[Value.okWide,ht] at o
    obtain⟨cs,h1,_⟩:=o
    exact⟨cs,h1⟩
  obtain⟨cs,rfl⟩:=hv
  obtain⟨fuel,hf⟩:=h
  obtain⟨l,e1,e2⟩:=open_bytes32 ht he hc hC hf
  exact⟨l,by rw[← e1];rfl,e2⟩
end
theorem size_hash {l:List (BitVec 8)} (hl:l.length=32):(Tryz.prog.info? 46).map (·.size)=some (blist l).length:=by
  rw[blist_length,hl]
  kernel_rfl
theorem wpList_load_run {P:Program} {ops:Array Oper} {rest:List Oper} {op:Oper} {a:Act} {w:World} {Q:Exit→Act→World→Prop} (hgd:op.guard=none) (ty:TypeId) (x:Operand) (ho:op.op=.load ty x)
    (p v:Value) (hx:a.eval x=p) (hr:(Instr.loadAt ty p).run P w=.ok v w) (h:wpList P ops Q rest (a.put op.dst v) w):wpList P ops Q (op :: rest) a w:=
  wpList_plain hgd fun K hK=>by
    unfold Oper.wp execOp
    simp only[ho,hx,Sem.run_bind,Sem.run_pure,Result.andThen_ok,hr]
    exact hK _ _ h
theorem putAll_to:∀ (vs:List Value) (cs:Array Value) (o:Nat),o+vs.length=cs.size→putAll cs o vs=(cs.toList.take o++vs).toArray
  | [],cs,o,h=>by
    have:cs.toList.take o=cs.toList:=List.take_of_length_le (by rw[Array.length_toList];simp at h;omega)
    rw[List.append_nil,this]
    rfl
  | v :: vs,cs,o,h=>by
    have hs:(cs.setIfInBounds o v).size=cs.size:=Array.size_setIfInBounds
    rw[putAll,putAll_to vs _ (o+1) (by rw[hs];simp only[List.length_cons] at h;omega)]
    have ho:o<cs.toList.length:=by rw[Array.length_toList];simp only[List.length_cons] at h;omega
    rw[Array.toList_setIfInBounds]
    congr 1
    have:(cs.toList.set o v).take (o+1)=cs.toList.take o++[v]:=by
      rw[List.take_succ_eq_append_getElem (by rw[List.length_set];exact ho),List.getElem_set_self,List.take_set_of_le (Nat.le_refl _)]
    rw[this,List.append_assoc]
    rfl
theorem Has.whole {w:World} {g:Nat} {T:TypeId} {cs:Array Value} {l:List (BitVec 8)} (h:Has w g T cs) (hl:l.length=cs.size):Has (w.setCells g 0 (blist l)) g T (blist l).toArray:=by
  have:=h.putAll (blist l) 0
  rwa [putAll_to (blist l) cs 0 (by rw[blist_length,hl];omega)] at this
abbrev z32:Array Value:=#[.int .u8 0,.int .u8 0,.int .u8 0,.int .u8 0,.int .u8 0,.int .u8 0,.int .u8 0,.int .u8 0,.int .u8 0,.int .u8 0,.int .u8 0,.int .u8 0,.int .u8 0,.int .u8 0,.int .u8 0,.int .u8 0,.int .u8 0,.int .u8 0,.int .u8 0,.int .u8 0,.int .u8 0,.int .u8 0,.int .u8 0,.int .u8 0,.int .u8 0,.int .u8 0,.int .u8 0,.int .u8 0,.int .u8 0,.int .u8 0,.int .u8 0,.int .u8 0]
theorem there_new (w:World) (T:TypeId) {l:List (BitVec 8)} (hl:l.length=32):(w.alloc (.cells z32 T)).there w.heap.size 0 (blist l).toArray.size:=
  (Has.fresh w T z32).there 0 _ (by rw[List.size_toArray,blist_length,hl];decide)
theorem size_hash' {l:List (BitVec 8)} (hl:l.length=32):(Tryz.prog.info? 46).map (·.size)=some (blist l).toArray.size:=by
  rw[List.size_toArray];exact size_hash hl
theorem one_hash (l:List (BitVec 8)):(blist l).toArray.all (·.oneCell')=true:=
  Array.all_eq_true_iff_forall_mem.2 fun v hv=>blist_one l v (by simpa using hv)
theorem hash_new {w w':World} {T:TypeId} {l:List (BitVec 8)} (hl:l.length=32) (h:w'=(w.alloc (.cells z32 T)).setCells w.heap.size 0 (blist l)):Has w' w.heap.size T (blist l).toArray∧Below w.heap.size w w':=by
  subst h
  exact⟨(Has.fresh w T z32).whole (by rw[hl];rfl),below_setAll (Nat.le_refl _) _ 0 ((Below.refl _ _).alloc (Nat.le_refl _) _)⟩
theorem run_load_bytes {P:Program} {t e:TypeId} {k:Nat} (ht:P.underlying t=some (.array k e)) (hs:(P.info? t).map (·.size)=some k) {w:World} {a:Addr} {l:List (BitVec 8)} (hl:l.length=k) (hc:∀ j,j<k→w.cell? (a.add j)=some (.int .u8 (nb8 (cb l j)))) :
    (Instr.loadAt t (.pointer (some a))).run P w=.ok (.agg (blist l).toArray) w:=by
  have h1:(loadCells a k).run P w=.ok (blist l).toArray w:=by
    have:=run_loadCells_list (P:=P) w a (blist l) (fun j v hj=>by
      have hjl:j<l.length:=by
        have:=(List.getElem?_eq_some_iff.1 hj).1
        rwa [blist_length] at this
      rw[hc j (by omega),← hj,blist_at l j hjl])
    rwa [blist_length,hl] at this
  cases hq:P.info? t with
  | none=>simp[hq] at hs
  | some i=>
    have hz:i.size=k:=by simpa [hq] using hs
    have hagg:(isAgg t).run P w=.ok true w:=by
      unfold isAgg
      rw[Sem.run_bind,run_underlying ht w]
      rfl
    simp[Instr.loadAt,Instr.sureAddr,loadVar,Sem.run_bind,hagg,sizeOf,typeInfo,hq,hz,h1]
theorem Has.load_bytes {P:Program} {t e:TypeId} {k:Nat} (ht:P.underlying t=some (.array k e)) (hs:(P.info? t).map (·.size)=some k) {w:World} {g:Nat} {T:TypeId} {l:List (BitVec 8)} (hl:l.length=k) (h:Has w g T (blist l).toArray) :
    (Instr.loadAt t (.pointer (some ⟨g,0,none⟩))).run P w=.ok (.agg (blist l).toArray) w:=
  run_load_bytes ht hs hl fun j hj=>by
    rw[Addr.add_mid,Nat.zero_add,h.cell,List.getElem?_toArray]
    exact blist_at l j (by omega)
section
variable {H:Type} {enc:TypeId×Value→H} {P:Program} {W:World} {base:Nat} {v:Value} {d:DataW H} {p:List MemPlace}
end
end Go.Proofs.YtijemcfnlbapjaaGreatDoor
