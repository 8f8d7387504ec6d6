/- law 14: alive (mkgsh.py) -/
import Derived.Test.YtijemcfnlbapjaaGreatDoorJ33
import Derived.Test.YtijemcfnlbapjaaGreatDoorJ30
namespace Go.Proofs.YtijemcfnlbapjaaGreatDoor
open Go Go.RowKit Go.ChangeShapes Go.WideShapes
namespace Gr
theorem e_small (h:List (BitVec 8)):Tx.Small ⟨[⟨h,0,[],0#64⟩],[⟨0,0#64⟩],false⟩:=
  ⟨by show 1≤30;omega,by show 1≤30;omega,fun s hs=>by
    obtain rfl:=List.mem_singleton.1 (show s∈[(⟨h,0,[],0#64⟩:Tx.Sp)] from hs)
    exact Nat.zero_le _⟩
abbrev eT (h:List (BitVec 8)):Tx.T:=⟨[⟨h,0,[],0#64⟩],[⟨0,0#64⟩],false⟩
theorem e_at {w:World} {g k:Nat} {h:List (BitVec 8)} (hl:h.length=32) (h0:Has w g 61 (spCells ⟨h,0,[],0#64⟩).toArray) (h1:Has w k 74 #[.int .i64 0,.int .u64 0]):TxAt w (some ⟨g,0,none⟩) 1 1 (some ⟨k,0,none⟩) 1 1 (eT h):=
  ⟨recs_fresh (R:=spRec) (L:=[⟨h,0,[],0#64⟩]) (fun s hs=>by
      obtain rfl:=List.mem_singleton.1 hs
      exact⟨hl,by constructor<;>(dsimp only;omega),by show 0≤maxLen;unfold maxLen;omega⟩) h0 (by show 1≤maxLen;unfold maxLen;omega) (fun j u hj=>by
      have e:spRec.row [(⟨h,0,[],0#64⟩:Tx.Sp)]=spCells ⟨h,0,[],0#64⟩:=by show spRec.cells _++[]=_;rw[List.append_nil];rfl
      rw[e] at hj
      rw[List.getElem?_toArray]
      exact hj),
    recs_fresh (R:=coRec) (L:=[⟨0,0#64⟩]) (fun c hc=>by
      obtain rfl:=List.mem_singleton.1 hc
      constructor<;>decide) h1 (by show 1≤maxLen;unfold maxLen;omega) (fun j u hj=>by rw[← Array.getElem?_toList];exact hj),
    Nat.le_refl _,Nat.le_refl _,(fun e=>by cases e),(fun e=>by cases e)⟩
theorem e_put1:putE [] ea 1=0:=by
  unfold putE
  rw[if_pos ea_check,if_pos (by constructor<;>decide),if_neg (by simp[find]),if_neg]
  intro h
  obtain⟨s,_,hs⟩:=List.any_eq_true.1 h
  simp[cfl,spd] at hs
section
variable {w:World} {g bn bs nx:Nat} {xa xb:Nd}
theorem e_put2 (h1:xa.x.t=ea) (h2:xa.id=eI):putE ([]++[xa]) eb 2=0:=by
  unfold putE
  rw[if_pos eb_check,if_pos (by constructor<;>decide),if_neg,if_neg]
  · intro h
    obtain⟨s,hs,hq⟩:=List.any_eq_true.1 h
    obtain rfl:=List.mem_singleton.1 (show s∈[(⟨eI,0,[],0#64⟩:Tx.Sp)] from hs)
    have e:spd ([]++[xa]) (pt ⟨eI,0,[],0#64⟩)=none:=spd_none.2 fun z hz hp=>by
      obtain rfl:=List.mem_singleton.1 hz
      unfold Nd.pts at hp
      rw[h1] at hp
      obtain⟨s,hs,e⟩:=List.mem_map.1 hp
      obtain rfl:=List.mem_singleton.1 (show s∈[(⟨ez,0,[],0#64⟩:Tx.Sp)] from hs)
      exact eI_ne (congrArg Prod.fst e).symm
    rw[cfl_none e] at hq
    cases hq
  · intro h
    rw[Option.isSome_iff_exists] at h
    obtain⟨z,hz⟩:=h
    obtain⟨hm,e⟩:=find_mem hz
    obtain rfl:=List.mem_singleton.1 hm
    exact eb_ne (e.symm.trans h2)
theorem e_par1 (h:At w g bn bs ([]++[xa]++[xb]) nx) (h1:xa.x.t=ea) (h2:xa.id=eI) (h3:xb.x.t=eb) {L:List Nd} (hL:L.Pairwise (fun x y=>x.pl<y.pl)) (hm:∀ z,z∈L↔z∈[]++[xa]++[xb]∧∃ x,find ([]++[xa]++[xb]) xb.id=some x∧z∈near true ([]++[xa]++[xb]) x):L.length=1:=by
  have hb:xb∈([]++[xa]++[xb]:List Nd):=by simp
  have ha:xa∈([]++[xa]++[xb]:List Nd):=by simp
  have hf:find ([]++[xa]++[xb]) xb.id=some xb:=(find_is h.grp.inj).2 ⟨hb,rfl⟩
  have e:L=[xa]:=sorted_eq hL (by simp) fun z=>by
    rw[hm,List.mem_singleton]
    constructor
    · rintro ⟨hz,x,hx,hn⟩
      rw[hf] at hx
      obtain rfl:=Option.some.inj hx
      have hn:=(near_up h hz).1 hn
      rw[h3] at hn
      obtain⟨s,hs,hd⟩:=List.any_eq_true.1 hn
      obtain rfl:=List.mem_singleton.1 (show s∈[(⟨eI,0,[],0#64⟩:Tx.Sp)] from hs)
      exact h.grp.inj z xa hz ha ((of_decide_eq_true hd).1.symm.trans h2.symm)
    · rintro rfl
      refine⟨ha,xb,hf,(near_up h ha).2 ?_⟩
      rw[h3,h1,h2]
      rfl
  rw[e]
  rfl
theorem e_gone {L:List Nd} (hL:L.Pairwise (fun x y=>x.pl<y.pl)) (hne:¬ xb.id=eI) (h2:xa.id=eI) (hm:∀ z,z∈L↔z∈[]++[xa]++[xb]∧z.id∈[eI]):L.length=1:=by
  have e:L=[xa]:=sorted_eq hL (by simp) fun z=>by
    rw[hm]
    simp only[List.nil_append,List.mem_append,List.mem_singleton]
    constructor
    · rintro ⟨h | h,e⟩
      · exact h
      · rw[h] at e;exact absurd e hne
    · intro h
      rw[h]
      exact⟨.inl rfl,h2⟩
  rw[e]
  rfl
theorem e_rest (hne:¬ xb.id=eI) (h2:xa.id=eI):rest ([]++[xa]++[xb]) [eI]=[xb]:=by
  unfold rest
  simp[h2,hne]
theorem e_par2 (h:At w g bn bs [xb] nx) (h3:xb.x.t=eb) (hne:¬ xb.id=eI) {L:List Nd} (hm:∀ z,z∈L↔z∈[xb]∧∃ x,find [xb] xb.id=some x∧z∈near true [xb] x):L.length=0:=by
  rw[List.length_eq_zero_iff,List.eq_nil_iff_forall_not_mem]
  intro z hz
  obtain⟨hz,x,hx,hn⟩:=(hm z).1 hz
  have hn2:=(near_up h hz).1 hn
  obtain rfl:=List.mem_singleton.1 (find_mem hx).1
  rw[h3] at hn2
  obtain⟨s,hs,hd⟩:=List.any_eq_true.1 hn2
  obtain rfl:=List.mem_singleton.1 (show s∈[(⟨eI,0,[],0#64⟩:Tx.Sp)] from hs)
  rw[List.mem_singleton.1 hz] at hd
  exact hne (of_decide_eq_true hd).1.symm
end
theorem e_has {w:World} {g bn bs nx:Nat} {xb:Nd} {DB:List (BitVec 8)} (h:At w g bn bs [xb] nx) (e:xb.id=DB) (hl:DB.length=32):Calls Tryz.prog 38 #[.pointer (some ⟨g,0,none⟩),.agg (blist DB).toArray] w fun e w'=>e=.returned (.bool true)∧Below w.heap.size w w':=by
  have h1:=ghas_any h.has h.grp.map DB hl
  have h2:(Mp.look (ents [xb]) DB).isSome=true:=by
    rw[look_ents,(find_is h.grp.inj).2 ⟨List.mem_singleton.2 rfl,e⟩]
    rfl
  rwa [h2] at h1
end Gr
theorem Gr.size_txv':(Tryz.prog.info? 34).map (·.size)=some vRec.k:=by kernel_rfl
theorem gbuilt_sp:Tryz.prog.built 61 [(0,.agg (ptCells Gr.eI 0).toArray)]=some (spCells ⟨Gr.eI,0,[],0#64⟩).toArray:=by kernel_rfl
theorem ebld {P:Program} {ops:Array Oper} {rest:List Oper} {op:Oper} {a:Act} {w:World} {Q:Exit→Act→World→Prop} (hg:op.guard=none) (t:TypeId) (x:Operand) (ho:op.op=.build t #[(0,x)]) (v:Value) (C:Array Value) (hx:a.eval x=v) (hb:P.built t [(0,v)]=some C)
    (h:wpList P ops Q rest (a.put op.dst (.agg C)) w):wpList P ops Q (op :: rest) a w:=by
  refine wpList_plain hg fun K hK=>?_
  have hr:=run_build (P:=P) w t #[(0,v)] _ hb
  unfold Oper.wp execOp
  simp only[ho,List.map_toArray,List.map_cons,List.map_nil,hx,Sem.run_bind,Sem.run_pure,Result.andThen_ok,hr]
  exact hK _ _ h
theorem Gr.info_sp:(Tryz.prog.info? 61).map (fun i=>(i.zero,i.size,i.bytes))=some (some (.agg zSp),35,64):=by kernel_rfl
set_option maxRecDepth 100000 in
set_option maxHeartbeats 16000000 in
theorem alive14 (w:World) (hK:KDg w):Calls Tryz.prog 7 #[] w fun e w'=>e=.returned (.bool true)∧Below w.heap.size w w':=by
  have HKW:=Lib.hid hK
  have HNW:=Lib.hid (gnew_any w)
  clear hK
  go_enter Tryz.func7,Tryz.ntmps7
  go_upto_region 2 with(go_at_call 9;refine HNW.out.mono ?_;rintro e w1 ⟨rfl,hA1,hb1⟩)
  obtain⟨g,hg⟩:∃ u,u=w.heap.size+2:=⟨_,rfl⟩
  obtain⟨bn,hbn⟩:∃ u,u=w.heap.size:=⟨_,rfl⟩
  obtain⟨bs,hbs⟩:∃ u,u=w.heap.size+1:=⟨_,rfl⟩
  rw[← hg,← hbs,← hbn] at hA1
  rw[← hg]
  have HA1:=Lib.hid hA1
  have HB1:=Lib.hid hb1
  have HG:=Lib.hid (show w.heap.size≤g∧w.heap.size≤bn∧w.heap.size≤bs from⟨by omega,by omega,by omega⟩)
  clear hA1 hb1 hg hbn hbs
  obtain⟨DB,hDB⟩:∃ d,d=Tx.idOf false Gr.eb:=⟨_,rfl⟩
  have HDB:=Lib.hid hDB
  have HDL:=Lib.hid (show DB.length=32 by rw[hDB];exact Tx.idOf_len _ _)
  have HDN:=Lib.hid (show ¬ DB=Gr.eI by rw[hDB];exact Gr.eb_ne)
  clear hDB
  go_upto_region 3 with(refine wpList_store_mid rfl 34 (.tmp 2) (.tmp 9) rfl _ 0 (vCells ⟨some ⟨w1.heap.size,0,none⟩,1,1,some ⟨w1.heap.size+1,0,none⟩,1,1,Gr.ea⟩).toArray rfl rfl ((Has.fresh_at _ _ _ (by simp)).there 0 3 (Nat.le_refl _)) (by kernel_rfl) (vRec.all_one ⟨some ⟨w1.heap.size,0,none⟩,1,1,some ⟨w1.heap.size+1,0,none⟩,1,1,Gr.ea⟩) ?_)
  obtain⟨u3,hu3⟩:∃ u,u=((w1.alloc (.cells zSp 61)).alloc (.cells #[.int .i64 0,.int .u64 0] 74)).alloc (.cells zTx 34):=⟨_,rfl⟩
  obtain⟨w3,hw3⟩:∃ u,u=u3.setCells (w1.heap.size+1+1) 0 (vCells ⟨some ⟨w1.heap.size,0,none⟩,1,1,some ⟨w1.heap.size+1,0,none⟩,1,1,Gr.ea⟩):=⟨_,rfl⟩
  rw[← hu3,← hw3]
  have hm3:Moved (fun j=>j=w1.heap.size+1+1) u3 w3:=by rw[hw3];exact Moved.putAll (F:=fun j=>j=w1.heap.size+1+1) (.inl rfl) _ 0 (Moved.refl _ _)
  have hbu3:Below w1.heap.size w1 u3:=by rw[hu3];exact(((Below.refl _ w1).alloc (Nat.le_refl _) _).alloc (by simp) _).alloc (by simp;omega) _
  have hb3:Below w1.heap.size w1 w3:=by rw[hw3];exact below_setAll (by omega) _ 0 hbu3
  have hO3:Has w3 (w1.heap.size+1+1) 34 (vCells ⟨some ⟨w1.heap.size,0,none⟩,1,1,some ⟨w1.heap.size+1,0,none⟩,1,1,Gr.ea⟩).toArray:=by
    rw[hw3]
    exact(show Has u3 (w1.heap.size+1+1) 34 zTx by rw[hu3];exact Has.fresh_at _ _ _ (by simp)).whole_cs (cs2:=(vCells ⟨some ⟨w1.heap.size,0,none⟩,1,1,some ⟨w1.heap.size+1,0,none⟩,1,1,Gr.ea⟩).toArray) rfl
  have HTA:=Lib.hid (show TxAt w3 (some ⟨w1.heap.size,0,none⟩) 1 1 (some ⟨w1.heap.size+1,0,none⟩) 1 1 Gr.ea from Gr.e_at (h:=Gr.ez) rfl ((show Has u3 w1.heap.size 61 zSp by rw[hu3];exact((Has.fresh w1 _ _).past _).past _).moved hm3 (by omega)) ((show Has u3 (w1.heap.size+1) 74 #[.int .i64 0,.int .u64 0] by rw[hu3];exact(Has.fresh_at _ _ _ (by simp)).past _).moved hm3 (by omega)))
  have HO3:=Lib.hid hO3
  have HB3:=Lib.hid (HB1.out.trans (hb3.mono HB1.out.size))
  have HA3:=Lib.hid (HA1.out.below hb3)
  obtain⟨ka,hka⟩:∃ u,u=w1.heap.size:=⟨_,rfl⟩
  obtain⟨g3,hg3⟩:∃ u,u=w1.heap.size+1+1:=⟨_,rfl⟩
  have HGK:=Lib.hid (show g<ka∧bn<ka∧bs<ka∧g3=ka+2∧ka+2<w3.heap.size from by
    have h1:=HA1.out.lt3
    have h2:=hO3.lt
    omega)
  rw[← hg3,← hka] at HO3
  rw[← hka] at HTA
  rw[← hg3]
  have HAT:=Lib.hid (show ∀ w',Below w3.heap.size w3 w'→TxAt w' (some ⟨ka,0,none⟩) 1 1 (some ⟨ka+1,0,none⟩) 1 1 Gr.ea from fun w' hb=>HTA.out.below hb)
  have HLA:=Lib.hid (show ∀ w',Below w3.heap.size w3 w'→(Instr.loadAt 34 (.pointer (some ⟨g3,0,none⟩))).run Tryz.prog w'=.ok (txv (some ⟨ka,0,none⟩) 1 1 (some ⟨ka+1,0,none⟩) 1 1 false) w' from fun w' hb=>(HO3.out.under hb HO3.out.lt).load_agg (P:=Tryz.prog) (t:=34) Tryz.underlying34 rfl (vRec.size_eq Gr.size_txv' trivial))
  have lA:=HLA.out w3 (Below.refl _ _)
  have HPT:=Lib.hid (show Calls Tryz.prog 41 #[txv (some ⟨ka,0,none⟩) 1 1 (some ⟨ka+1,0,none⟩) 1 1 false,.int .i64 0] w3 fun e w'=>e=.returned (.agg (ptCells Gr.eI 0).toArray)∧Below w3.heap.size w3 w' from by
    have:=ppoint_any (some ⟨ka,0,none⟩) 1 1 (some ⟨ka+1,0,none⟩) 1 1 Gr.ea false rfl 0 w3 HTA.out (Gr.e_small _) (HKW.out.below HB3.out)
    rwa [Gr.ea_id] at this)
  clear hu3 hw3 hm3 hbu3 hb3 hO3 hka hg3 HTA
  go_upto_region 4 with(first
    | (refine wpList_store_mid rfl 34 (.tmp 3) (.tmp 16) rfl _ 0 (vCells ⟨some ⟨w4.heap.size,0,none⟩,1,1,some ⟨w4.heap.size+1,0,none⟩,1,1,Gr.eb⟩).toArray rfl rfl ((Has.fresh_at _ _ _ (by simp)).there 0 3 (Nat.le_refl _)) (by kernel_rfl) (vRec.all_one ⟨some ⟨w4.heap.size,0,none⟩,1,1,some ⟨w4.heap.size+1,0,none⟩,1,1,Gr.eb⟩) ?_)
    | (refine wpList_build_row rfl (.tmp 12) 31 rfl 61 Tryz.underlying31 Gr.info_sp (by decide) (by decide) (spCells ⟨Gr.eI,0,[],0#64⟩).toArray (by kernel_rfl) rfl ?_)
    | (refine ebld rfl 61 (.tmp 11) rfl _ _ rfl gbuilt_sp ?_)
    | (go_at_call 41;refine HPT.out.mono ?_;rintro e w4 ⟨rfl,hb4⟩)
    | (refine wpList_load_run rfl 34 (.tmp 2) rfl _ _ rfl lA ?_))
  obtain⟨u5,hu5⟩:∃ u,u=((w4.alloc (.cells (spCells ⟨Gr.eI,0,[],0#64⟩).toArray 61)).alloc (.cells #[.int .i64 0,.int .u64 0] 74)).alloc (.cells zTx 34):=⟨_,rfl⟩
  obtain⟨w5,hw5⟩:∃ u,u=u5.setCells (w4.heap.size+1+1) 0 (vCells ⟨some ⟨w4.heap.size,0,none⟩,1,1,some ⟨w4.heap.size+1,0,none⟩,1,1,Gr.eb⟩):=⟨_,rfl⟩
  rw[← hu5,← hw5]
  have hm5:Moved (fun j=>j=w4.heap.size+1+1) u5 w5:=by rw[hw5];exact Moved.putAll (F:=fun j=>j=w4.heap.size+1+1) (.inl rfl) _ 0 (Moved.refl _ _)
  have hbu5:Below w4.heap.size w4 u5:=by rw[hu5];exact(((Below.refl _ w4).alloc (Nat.le_refl _) _).alloc (by simp) _).alloc (by simp;omega) _
  have hb45:Below w4.heap.size w4 w5:=by rw[hw5];exact below_setAll (by omega) _ 0 hbu5
  have hO5:Has w5 (w4.heap.size+1+1) 34 (vCells ⟨some ⟨w4.heap.size,0,none⟩,1,1,some ⟨w4.heap.size+1,0,none⟩,1,1,Gr.eb⟩).toArray:=by
    rw[hw5]
    exact(show Has u5 (w4.heap.size+1+1) 34 zTx by rw[hu5];exact Has.fresh_at _ _ _ (by simp)).whole_cs (cs2:=(vCells ⟨some ⟨w4.heap.size,0,none⟩,1,1,some ⟨w4.heap.size+1,0,none⟩,1,1,Gr.eb⟩).toArray) rfl
  have HTB:=Lib.hid (show TxAt w5 (some ⟨w4.heap.size,0,none⟩) 1 1 (some ⟨w4.heap.size+1,0,none⟩) 1 1 Gr.eb from Gr.e_at (h:=Gr.eI) rfl ((show Has u5 w4.heap.size 61 (spCells ⟨Gr.eI,0,[],0#64⟩).toArray by rw[hu5];exact((Has.fresh w4 _ _).past _).past _).moved hm5 (by omega)) ((show Has u5 (w4.heap.size+1) 74 #[.int .i64 0,.int .u64 0] by rw[hu5];exact(Has.fresh_at _ _ _ (by simp)).past _).moved hm5 (by omega)))
  have HO5:=Lib.hid hO5
  have h35:Below w3.heap.size w3 w5:=hb4.trans (hb45.mono hb4.size)
  have HB5:=Lib.hid (HB3.out.trans (h35.mono HB3.out.size))
  have HA5:=Lib.hid (HA3.out.below h35)
  have H35:=Lib.hid h35
  have HLT:=Lib.hid (show g<w3.heap.size∧bn<w3.heap.size∧bs<w3.heap.size from HA3.out.lt3)
  obtain⟨kb,hkb⟩:∃ u,u=w4.heap.size:=⟨_,rfl⟩
  obtain⟨g5,hg5⟩:∃ u,u=w4.heap.size+1+1:=⟨_,rfl⟩
  have HK5:=Lib.hid (show w3.heap.size≤kb∧g5=kb+2 from⟨by rw[hkb];exact hb4.size,by omega⟩)
  rw[← hg5,← hkb] at HO5
  rw[← hkb] at HTB
  rw[← hg5]
  obtain⟨e3,he3⟩:∃ u,u=w3.heap.size:=⟨_,rfl⟩
  clear hu5 hw5 hm5 hbu5 hb45 hO5 hb4 hkb hg5 lA h35
  have HKA:=Lib.hid (show ∀ w',Moved (Gr.F3 g bn bs) w5 w'→(Instr.loadAt 34 (.pointer (some ⟨g3,0,none⟩))).run Tryz.prog w'=.ok (txv (some ⟨ka,0,none⟩) 1 1 (some ⟨ka+1,0,none⟩) 1 1 false) w'∧TxAt w' (some ⟨ka,0,none⟩) 1 1 (some ⟨ka+1,0,none⟩) 1 1 Gr.ea from fun w' hm=>by
    have h9:=HGK.out
    have h1:=HAT.out w5 H35.out
    exact⟨((HO3.out.under H35.out HO3.out.lt).moved hm (fun e=>by rcases e with e | e | e<;>omega)).load_agg (P:=Tryz.prog) (t:=34) Tryz.underlying34 rfl (vRec.size_eq Gr.size_txv' trivial),⟨h1.sp.moved hm (fun _ x e=>by(injection e with e;subst e;show ¬ (ka=g∨ka=bn∨ka=bs);omega)),h1.co.moved hm (fun _ x e=>by(injection e with e;subst e;show ¬ (ka+1=g∨ka+1=bn∨ka+1=bs);omega)),h1.nq,h1.mr,h1.q0,h1.r0⟩⟩)
  have HKB:=Lib.hid (show ∀ w',Moved (Gr.F3 g bn bs) w5 w'→(Instr.loadAt 34 (.pointer (some ⟨g5,0,none⟩))).run Tryz.prog w'=.ok (txv (some ⟨kb,0,none⟩) 1 1 (some ⟨kb+1,0,none⟩) 1 1 false) w'∧TxAt w' (some ⟨kb,0,none⟩) 1 1 (some ⟨kb+1,0,none⟩) 1 1 Gr.eb from fun w' hm=>by
    have h9:=HGK.out
    have h8:=HK5.out
    have h1:=HTB.out
    exact⟨(HO5.out.moved hm (fun e=>by rcases e with e | e | e<;>omega)).load_agg (P:=Tryz.prog) (t:=34) Tryz.underlying34 rfl (vRec.size_eq Gr.size_txv' trivial),⟨h1.sp.moved hm (fun _ x e=>by(injection e with e;subst e;show ¬ (kb=g∨kb=bn∨kb=bs);omega)),h1.co.moved hm (fun _ x e=>by(injection e with e;subst e;show ¬ (kb+1=g∨kb+1=bn∨kb+1=bs);omega)),h1.nq,h1.mr,h1.q0,h1.r0⟩⟩)
  have HKK:=Lib.hid (show ∀ w',Moved (Gr.F3 g bn bs) w5 w'→KDg w' from fun w' hm=>HKW.out.below (HB5.out.trans (hm.below (fun j hj=>by have:=HG.out;rcases hj with e | e | e<;>omega) HB5.out.size)))
  have HIB:=Lib.hid (show ∀ w',Moved (Gr.F3 g bn bs) w5 w'→Calls Tryz.prog 42 #[txv (some ⟨kb,0,none⟩) 1 1 (some ⟨kb+1,0,none⟩) 1 1 false] w' fun e w2=>e=.returned (.agg (blist DB).toArray)∧Below w'.heap.size w' w2 from fun w' hm=>by
    have:=pid_any (some ⟨kb,0,none⟩) 1 1 (some ⟨kb+1,0,none⟩) 1 1 Gr.eb false rfl w' (HKB.out w' hm).2 (Gr.e_small _) (HKK.out w' hm)
    rwa [← HDB.out] at this)
  have HIA:=Lib.hid (show ∀ w',Moved (Gr.F3 g bn bs) w5 w'→Calls Tryz.prog 42 #[txv (some ⟨ka,0,none⟩) 1 1 (some ⟨ka+1,0,none⟩) 1 1 false] w' fun e w2=>e=.returned (.agg (blist Gr.eI).toArray)∧Below w'.heap.size w' w2 from fun w' hm=>by
    have:=pid_any (some ⟨ka,0,none⟩) 1 1 (some ⟨ka+1,0,none⟩) 1 1 Gr.ea false rfl w' (HKA.out w' hm).2 (Gr.e_small _) (HKK.out w' hm)
    rwa [Gr.ea_id] at this)
  have HP1:=Lib.hid (gPut_any HA5.out (by omega) (some ⟨ka,0,none⟩) 1 1 (some ⟨ka+1,0,none⟩) 1 1 Gr.ea 1 (HKA.out w5 (Moved.refl _ _)).2 (Gr.e_small _) (HKK.out w5 (Moved.refl _ _)))
  have lA5:=(HKA.out w5 (Moved.refl _ _)).1
  clear he3
  go_upto_region 6 with(first
    | (go_at_call 19;refine(gParents_any HA8.out DB HDL.out).mono ?_;rintro e w9 ⟨v9,L9,rfl,ho9,hw9,hz9,hb9⟩;obtain⟨a9,c9,rfl,_⟩:=ho9.shape (K:=1) (by rw[List.length_map];exact Gr.e_par1 HA8.out HX6.out.1 HX6.out.2 HX7.out.1 hw9 (by rw[HX7.out.2];exact hz9));have H89:=Lib.hid hb9;clear ho9 hw9 hz9 hb9)
    | (go_at_call 42;refine(HIB.out w7 HM57.out).mono ?_;rintro e w8 ⟨rfl,hb8⟩;have HA8:=Lib.hid (HA7.out.below hb8);have H78:=Lib.hid hb8;clear hb8)
    | (refine Gr.wpList_load_run_if (by rfl) 34 (.tmp 3) rfl _ _ rfl lB7 ?_)
    | (go_at_call 37;refine HP2.out.mono ?_;rintro e w7 ⟨z7,rfl,hz7,hm67,hA7⟩;obtain rfl:=hz7.trans (Gr.e_put2 HX6.out.1 HX6.out.2);rw[show errn 0=Value.nilIface from rfl];obtain⟨_,xb,hA7,h71,h72,_⟩:=hA7.resolve_right (fun h=>h.1 rfl);have HM57:=Lib.hid (HM56.out.trans hm67 (fun k hk=>.inl hk));have lB7:=(HKB.out w7 HM57.out).1;have HX7:=Lib.hid (show xb.x.t=Gr.eb∧xb.id=DB from⟨h71,h72.trans HDB.out.symm⟩);have HA7:=Lib.hid hA7;clear hA7 h71 h72 hm67 lB6)
    | (refine Gr.wpList_load_run_if (by rfl) 34 (.tmp 3) rfl _ _ rfl lB6 ?_)
    | (go_at_call 37;refine HP1.out.mono ?_;rintro e w6 ⟨z6,rfl,hz6,hm56,hA6⟩;obtain rfl:=hz6.trans Gr.e_put1;rw[show errn 0=Value.nilIface from rfl];obtain⟨_,xa,hA6,h61,h62,_⟩:=hA6.resolve_right (fun h=>h.1 rfl);rw[Gr.ea_id] at h62;have lB6:=(HKB.out w6 hm56).1;have HM56:=Lib.hid hm56;have HA6:=Lib.hid hA6;have HX6:=Lib.hid (And.intro h61 h62);have HP2:=Lib.hid (gPut_any HA6.out (by omega) (some ⟨kb,0,none⟩) 1 1 (some ⟨kb+1,0,none⟩) 1 1 Gr.eb 2 (HKB.out w6 hm56).2 (Gr.e_small _) (HKK.out w6 hm56));clear hA6 h61 h62 hm56)
    | (refine wpList_load_run rfl 34 (.tmp 2) rfl _ _ rfl lA5 ?_))
  have HXN:=Lib.hid (show ¬ xb.id=Gr.eI from fun e=>HDN.out (HX7.out.2.symm.trans e))
  have HM59:=Lib.hid ((HM57.out.then H78.out).then H89.out)
  have HA9:=Lib.hid (HA8.out.below H89.out)
  have lA9:=(HKA.out w9 HM59.out).1
  clear lB7 lA5
  go_wp2_with (first
    | (go_at_call 39;refine(glen_any HA15.out.has HA15.out.grp.map).mono ?_;rintro e w16 ⟨rfl,hb16⟩)
    | (go_at_call 19;refine(gParents_any HA14.out DB HDL.out).mono ?_;rintro e w15 ⟨v15,L15,rfl,ho15,hw15,hz15,hb15⟩;obtain⟨a15,c15,rfl,_⟩:=ho15.shape (K:=0) (by rw[List.length_map];exact Gr.e_par2 HA14.out HX7.out.1 HXN.out (by rw[HX7.out.2];exact hz15));have HA15:=Lib.hid (HA14.out.below hb15);have HM15:=Lib.hid (HM14.out.then hb15);clear ho15 hw15 hz15 hb15)
    | (go_at_call 42;refine(HIB.out w13 HM13.out).mono ?_;rintro e w14 ⟨rfl,hb14⟩;have HA14:=Lib.hid (HA13.out.below hb14);have HM14:=Lib.hid (HM13.out.then hb14);clear hb14)
    | (refine Gr.wpList_load_run_if (by rfl) 34 (.tmp 3) rfl _ _ rfl lB13 ?_)
    | (go_at_call 38;refine HHS.out.mono ?_;rintro e w13 ⟨rfl,hb13⟩;have HA13:=Lib.hid (HA12.out.below hb13);have HM13:=Lib.hid (HM12.out.then hb13);have lB13:=(HKB.out w13 HM13.out).1;clear hb13 lB11)
    | (go_at_call 42;refine(HIB.out w11 HM11.out).mono ?_;rintro e w12 ⟨rfl,hb12⟩;have HA12:=Lib.hid (HA11.out.below hb12);have HM12:=Lib.hid (HM11.out.then hb12);have HHS:=Lib.hid (Gr.e_has HA12.out HX7.out.2 HDL.out);clear hb12)
    | (refine Gr.wpList_load_run_if (by rfl) 34 (.tmp 3) rfl _ _ rfl lB11 ?_)
    | (go_at_call 40;refine HRM.out.mono ?_;rintro e w11 ⟨v11,vs11,G11,rfl,ho11,hvs11,hp11,hz11,hA11,hm11⟩;obtain⟨a11,c11,rfl,_⟩:=ho11.shape (K:=1) (by have h1:=congrArg List.length hvs11;rw[List.length_map,List.length_map,Gr.e_gone hp11 HXN.out HX6.out.2 hz11] at h1;exact h1);rw[Gr.e_rest HXN.out HX6.out.2] at hA11;have HA11:=Lib.hid hA11;have HM11:=Lib.hid (HM10.out.trans hm11 (fun k hk=>.inl hk));have lB11:=(HKB.out w11 HM11.out).1;clear ho11 hvs11 hp11 hz11 hA11 hm11)
    | (refine wpList_build_row rfl (.tmp 37) 30 rfl 46 Tryz.underlying30 Gr.info_hs (by decide) (by decide) (blist Gr.eI).toArray (by rw[List.size_toArray,blist_length];rfl) rfl ?_)
    | (go_at_call 42;refine(HIA.out w9 HM59.out).mono ?_;rintro e w10 ⟨rfl,hb10⟩;have HM10:=Lib.hid ((HM59.out.then hb10).then (show Below w10.heap.size w10 (w10.alloc (.cells (blist Gr.eI).toArray 46)) from(Below.refl _ _).alloc (Nat.le_refl _) _));have HRM:=Lib.hid (gRemove_any ((HA9.out.below hb10).below (show Below w10.heap.size w10 (w10.alloc (.cells (blist Gr.eI).toArray 46)) from(Below.refl _ _).alloc (Nat.le_refl _) _)) (some ⟨w10.heap.size,0,none⟩) 1 1 [Gr.eI] (Gr.hs_fresh Gr.eI_len) (by omega));clear hb10)
    | (refine wpList_load_run rfl 34 (.tmp 2) rfl _ _ rfl lA9 ?_))
  go_ret
  exact⟨rfl,HB5.out.trans ((HM15.out.then hb16).below (fun j hj=>by have:=HG.out;rcases hj with e | e | e<;>omega) HB5.out.size)⟩
end Go.Proofs.YtijemcfnlbapjaaGreatDoor
