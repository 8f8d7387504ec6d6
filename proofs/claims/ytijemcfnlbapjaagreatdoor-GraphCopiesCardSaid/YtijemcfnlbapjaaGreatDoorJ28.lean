/- the reference 14: Remove (mkgrt.py) · pure: a graph beside the reference's list (by hand) · law 14: has (mkgrv.py) -/
import Derived.Test.YtijemcfnlbapjaaGreatDoorJ27
import Derived.Test.YtijemcfnlbapjaaGreatDoorJ25
namespace Go.Proofs.YtijemcfnlbapjaaGreatDoor
open Go Go.RowKit Go.ChangeShapes Go.WideShapes
theorem Gr.info_rn:(Tryz.prog.info? 50).map (fun i=>(i.zero,i.size,i.bytes))=some (some (.agg (#[.slice none 0 0,.slice none 0 0,.bool false]++(z32++#[.int .i64 0]))),Gr.rnRec.k,96):=by kernel_rfl
theorem Gr.rn_fresh {w:World} {x:Gr.Rn} (hx:Gr.rnRec.ok x):Recs Gr.rnRec (w.alloc (.cells (Gr.rnCells x).toArray 50)) (some ⟨w.heap.size,0,none⟩) 1 [x]:=
  recs_fresh (R:=Gr.rnRec) (L:=[x]) (fun q hq=>by rw[List.mem_singleton.1 hq];exact hx) (Has.fresh _ _ _) (by show 1≤maxLen;unfold maxLen;omega) (fun j u hj=>by
    have e:Gr.rnRec.row [x]=Gr.rnCells x:=by show Gr.rnRec.cells x++[]=_;rw[List.append_nil];rfl
    rw[e] at hj
    rw[← Array.getElem?_toList]
    exact hj)
theorem Gr.rn_tx {x:Gr.Rn} (j:Nat) (v:Value) (hv:(vCells x.v)[j]? = some v):(Gr.rnCells x)[j]? = some v:=by
  unfold Gr.rnCells
  rw[List.getElem?_append_left (List.getElem?_eq_some_iff.1 hv).1]
  exact hv
theorem rn_ltx {w:World} {x:Addr} {n i:Nat} {L:List Gr.Rn} {t:Gr.Rn} (h:Recs Gr.rnRec w (some x) n L) (hi:L[i]? = some t):(Instr.loadAt 34 (.pointer (some (x.add (i*36))))).run Tryz.prog w=.ok (.agg (vCells t.v).toArray) w:=
  Gr.load_part (R:=Gr.rnRec) Tryz.underlying34 rfl h hi (vCells t.v) (by kernel_rfl) (fun j v hv=>Gr.rn_tx j v hv)
theorem rn_lall {w:World} {x:Addr} {n i:Nat} {L:List Gr.Rn} {t:Gr.Rn} (h:Recs Gr.rnRec w (some x) n L) (hi:L[i]? = some t):(Instr.loadAt 50 (.pointer (some (x.add (i*36))))).run Tryz.prog w=.ok (.agg (Gr.rnCells t).toArray) w:=
  Recs.load_at (R:=Gr.rnRec) Tryz.underlying50 rfl (by kernel_rfl) h hi
theorem Gr.own_ne {α β:Type} {R:Rec α} {R':Rec β} {T T':TypeId} {B B':Nat} {w:World} {v v':Value} {L:List α} {L':List β} (hT:(T==T')=false) (h:OwnR R T B w v L) (h':OwnR R' T' B' w v' L') {j:Nat} (hj:v.ownBlock=some j) (hj':v'.ownBlock=some j):False:=by
  obtain⟨cs,hh⟩:=ownr_block h hj
  obtain⟨cs',hh'⟩:=ownr_block h' hj'
  exact Has.ne_type hh hh' (by intro e;rw[e] at hT;simp at hT) rfl
namespace Gr
def rstay (L:List Rn) (I:List (List (BitVec 8))):List Rn:=L.filter fun x=>!decide (x.id∈I)
def rgone (L:List Rn) (I:List (List (BitVec 8))):List Tx.V:=(L.filter fun x=>decide (x.id∈I)).map (·.v)
theorem rstay_in {L:List Rn} {I:List (List (BitVec 8))} {x:Rn} (h:x.id∈I):rstay (L++[x]) I=rstay L I:=by unfold rstay;rw[List.filter_append];simp[h]
theorem rstay_out {L:List Rn} {I:List (List (BitVec 8))} {x:Rn} (h:x.id∉I):rstay (L++[x]) I=rstay L I++[x]:=by unfold rstay;rw[List.filter_append];simp[h]
theorem rgone_in {L:List Rn} {I:List (List (BitVec 8))} {x:Rn} (h:x.id∈I):rgone (L++[x]) I=rgone L I++[x.v]:=by unfold rgone;rw[List.filter_append,List.map_append];simp[h]
theorem rgone_out {L:List Rn} {I:List (List (BitVec 8))} {x:Rn} (h:x.id∉I):rgone (L++[x]) I=rgone L I:=by unfold rgone;rw[List.filter_append,List.map_append];simp[h]
theorem rstay_len (L:List Rn) (I:List (List (BitVec 8))) (i:Nat):(rstay (L.take i) I).length≤i:=by
  refine Nat.le_trans (List.length_filter_le _ _) ?_
  rw[List.length_take]
  omega
theorem rgone_len (L:List Rn) (I:List (List (BitVec 8))) (i:Nat):(rgone (L.take i) I).length≤i:=by
  unfold rgone
  rw[List.length_map]
  refine Nat.le_trans (List.length_filter_le _ _) ?_
  rw[List.length_take]
  omega
end Gr
set_option maxRecDepth 100000 in
set_option maxHeartbeats 8000000 in
theorem rremove14_any (a:Option Addr) (n q:Nat) (L:List Gr.Rn) (b:Option Addr) (m r:Nat) (I:List (List (BitVec 8))) (w:World) (h:Recs Gr.rnRec w a n L) (hI:Recs Gr.hsRec w b m I) (hn:n≤1000000) :
    Calls Tryz.prog 43 #[.slice a n q,.slice b m r] w fun e w'=>∃ v u,e=.returned (.tuple #[v,u])∧OwnR Gr.rnRec 50 w.heap.size w' v (Gr.rstay L I)∧OwnR vRec 34 w.heap.size w' u (Gr.rgone L I)∧Below w.heap.size w w':=by
  have HH:=Lib.hid h
  have HI:=Lib.hid hI
  have HN:=Lib.hid hn
  have hnmx:n≤9223372036854775807:=h.2.1
  clear h hI hn
  go_enter Tryz.func43,Tryz.ntmps43
  go_wp2
  have hO0:RowKit.Hid (OwnR Gr.rnRec 50 w.heap.size w (.slice none 0 0) (Gr.rstay (L.take 0) I)):=Lib.hid (OwnR.nil _ _ _ _)
  have hU0:RowKit.Hid (OwnR vRec 34 w.heap.size w (.slice none 0 0) (Gr.rgone (L.take 0) I)):=Lib.hid (OwnR.nil _ _ _ _)
  go_loopw [6,7,8] (fun sv tv iv wr=>∃ (i:Nat) (ov uv:Value),i≤n∧iv=.int .i64 i∧ov=sv∧uv=tv∧RowKit.Hid (OwnR Gr.rnRec 50 w.heap.size wr ov (Gr.rstay (L.take i) I))∧RowKit.Hid (OwnR vRec 34 w.heap.size wr uv (Gr.rgone (L.take i) I))∧Below w.heap.size w wr) (fun _ _ iv _=>n-(intOf iv).toNat)
  case atStart=>exact⟨0,_,_,Nat.zero_le _,rfl,rfl,rfl,hO0,hU0,Below.refl _ _⟩
  case round=>
    clear hO0 hU0
    obtain⟨i,ov,uv,hi,rfl,rfl,rfl,HO,HU,hb⟩:=hrel
    by_cases hlt:i<n
    · have hii:(i:Int)<(n:Int):=by omega
      have hi0:(0:Int)≤(i:Int):=by omega
      obtain⟨x,hx⟩:=HH.out.get hlt
      have HYL:=Lib.hid (show Gr.rnRec.ok x from HH.out.okay hx)
      obtain⟨ad,rfl,_⟩:=HH.out.2.2.2 i x hx
      have HT:=Lib.hid (show L.take (i+1)=L.take i++[x] by
        obtain⟨h2,h3⟩:=List.getElem?_eq_some_iff.1 hx
        rw[List.take_succ_eq_append_getElem h2,h3])
      have HLO:=Lib.hid (Gr.rstay_len L I i)
      have HLU:=Lib.hid (Gr.rgone_len L I i)
      have lid:=rn_lid (HH.out.below hb) hx
      have HX:=Lib.hid hx
      have HIN:=Lib.hid (rin_any b m r I x.id HYL.out wr (HI.out.below hb))
      have hsz:=hb.size
      obtain⟨R,hR⟩:∃ r,r=decide (x.id∈I):=⟨_,rfl⟩
      rw[← hR] at HIN
      have HB:=Lib.hid hb
      clear hx hb
      cases R
      · have hni:=of_decide_eq_false hR.symm
        have HF:=Lib.hid (show Gr.rstay (L.take (i+1)) I=Gr.rstay (L.take i) I++[x]∧Gr.rgone (L.take (i+1)) I=Gr.rgone (L.take i) I by rw[HT.out];exact⟨Gr.rstay_out hni,Gr.rgone_out hni⟩)
        clear hR hni
        go_wp2_with (first
          | (at_builtin;refine wpList_append_recs (R:=Gr.rnRec) rfl (.tmp 30) (.tmp 35) 27 rfl 50 Tryz.underlying27 Gr.info_rn (by kernel_rfl) (by decide) w.heap.size ov _ rfl (HO5.out.below ((Below.refl _ _).alloc (Nat.le_refl _) _)) (some ⟨w5.heap.size,0,none⟩) 1 1 [x] rfl (Gr.rn_fresh HYL.out) (fun e=>by cases e) (by have:=HLO.out;have:=HN.out;omega) (by have:=hB5.size;simp;omega) ?_;intro v' w7 ho' hg' hl')
          | (refine wpList_build_row rfl (.tmp 34) 27 rfl 50 Tryz.underlying27 Gr.info_rn (by decide) (by decide) (Gr.rnCells x).toArray (by rw[List.size_toArray];exact Gr.rnRec.len x HYL.out) rfl ?_)
          | (go_at_call 53;refine HIN.out.mono ?_;rintro e w5 ⟨rfl,hb5⟩;have hB5:=HB.out.trans (hb5.mono HB.out.size);have HO5:=Lib.hid (HO.out.below hb5);have HU5:=Lib.hid (HU.out.below hb5);have lall5:=rn_lall (HH.out.below hB5) HX.out)
          | (refine wpList_load_run rfl 46 (.tmp 19) rfl _ _ rfl lid ?_)
          | (refine wpList_load_run rfl 50 (.tmp 33) rfl _ _ rfl lall5 ?_))
        have hB7:=below_own_recs (hB5.alloc hB5.size _) hg' HO5.out.lt
        have HO2:=Lib.hid (show OwnR Gr.rnRec 50 w.heap.size w7 v' (Gr.rstay (L.take (i+1)) I) by rw[HF.out.1];exact ho')
        have hal:Below w5.heap.size w5 (w5.alloc (.cells (Gr.rnCells x).toArray 50)):=(Below.refl _ _).alloc (Nat.le_refl _) _
        have HU2:=Lib.hid (show OwnR vRec 34 w.heap.size w7 uv (Gr.rgone (L.take (i+1)) I) by rw[HF.out.2];exact(HU5.out.below hal).moved (Moved.of_grown (F:=fun k=>ov.ownBlock=some k) hg' (fun k h=>h)) (fun k hk hk'=>Gr.own_ne (by rfl) (HO5.out.below hal) (HU5.out.below hal) hk' hk))
        clear ho' hg' hl' hal lid lall5
        go_roundw
        case rel=>exact⟨i+1,v',uv,by omega,by go_num,rfl,rfl,HO2,HU2,hB7⟩
        case measure=>(simp[intOf];try omega)
      · have hni:=of_decide_eq_true hR.symm
        have HF:=Lib.hid (show Gr.rstay (L.take (i+1)) I=Gr.rstay (L.take i) I∧Gr.rgone (L.take (i+1)) I=Gr.rgone (L.take i) I++[x.v] by rw[HT.out];exact⟨Gr.rstay_in hni,Gr.rgone_in hni⟩)
        clear hR hni
        go_wp2_with (first
          | (at_builtin;refine wpList_append_recs (R:=vRec) rfl (.tmp 22) (.tmp 28) 82 rfl 34 Tryz.underlying82 Gr.info_tx (by kernel_rfl) (by decide) w.heap.size uv _ rfl (HU5.out.below ((Below.refl _ _).alloc (Nat.le_refl _) _)) (some ⟨w5.heap.size,0,none⟩) 1 1 [x.v] rfl (Gr.recs_one' trivial rfl) (fun e=>by cases e) (by have:=HLU.out;have:=HN.out;omega) (by have:=hB5.size;simp;omega) ?_;intro v' w7 ho' hg' hl')
          | (refine wpList_build_row rfl (.tmp 27) 82 rfl 34 Tryz.underlying82 Gr.info_tx (by decide) (by decide) (vCells x.v).toArray rfl rfl ?_)
          | (go_at_call 53;refine HIN.out.mono ?_;rintro e w5 ⟨rfl,hb5⟩;have hB5:=HB.out.trans (hb5.mono HB.out.size);have HO5:=Lib.hid (HO.out.below hb5);have HU5:=Lib.hid (HU.out.below hb5);have ltx5:=rn_ltx (HH.out.below hB5) HX.out)
          | (refine wpList_load_run rfl 46 (.tmp 19) rfl _ _ rfl lid ?_)
          | (refine wpList_load_run rfl 34 (.tmp 26) rfl _ _ rfl ltx5 ?_))
        have hB7:=below_own_recs (hB5.alloc hB5.size _) hg' HU5.out.lt
        have HU2:=Lib.hid (show OwnR vRec 34 w.heap.size w7 v' (Gr.rgone (L.take (i+1)) I) by rw[HF.out.2];exact ho')
        have hal:Below w5.heap.size w5 (w5.alloc (.cells (vCells x.v).toArray 34)):=(Below.refl _ _).alloc (Nat.le_refl _) _
        have HO2:=Lib.hid (show OwnR Gr.rnRec 50 w.heap.size w7 ov (Gr.rstay (L.take (i+1)) I) by rw[HF.out.1];exact(HO5.out.below hal).moved (Moved.of_grown (F:=fun k=>uv.ownBlock=some k) hg' (fun k h=>h)) (fun k hk hk'=>Gr.own_ne (by rfl) (HO5.out.below hal) (HU5.out.below hal) hk hk'))
        clear ho' hg' hl' hal lid ltx5
        go_roundw
        case rel=>exact⟨i+1,ov,v',by omega,by go_num,rfl,rfl,HO2,HU2,hB7⟩
        case measure=>(simp[intOf];try omega)
    · have hii:¬ (i:Int)<(n:Int):=by omega
      obtain rfl:i=n:=by omega
      have e:L.take i=L:=List.take_of_length_le (by rw[HH.out.1];exact Nat.le_refl _)
      have HO2:=Lib.hid (show OwnR Gr.rnRec 50 w.heap.size wr ov (Gr.rstay L I) by have:=HO.out;rw[e] at this;exact this)
      have HU2:=Lib.hid (show OwnR vRec 34 w.heap.size wr uv (Gr.rgone L I) by have:=HU.out;rw[e] at this;exact this)
      clear HO HU e
      go_wp2
      go_ret2
      exact⟨ov,uv,rfl,HO2.out,HU2.out,hb⟩
end Go.Proofs.YtijemcfnlbapjaaGreatDoor
namespace Go.Proofs.YtijemcfnlbapjaaGreatDoor
open Go Go.RowKit
namespace Gr
def Nd.key (x:Nd):Tx.T×List (BitVec 8)×Int:=(x.x.t,x.id,x.fee)
def Rn.key (y:Rn):Tx.T×List (BitVec 8)×Int:=(y.v.t,y.id,y.fee)
def Sim (M:List Nd) (L:List Rn):Prop:=M.map Nd.key=L.map Rn.key
section
variable {M:List Nd} {L:List Rn}
theorem Sim.len (h:Sim M L):M.length=L.length:=by
  have:=congrArg List.length h
  rwa [List.length_map,List.length_map] at this
theorem Sim.push (h:Sim M L) {x:Nd} {y:Rn} (e:x.key=y.key):Sim (M++[x]) (L++[y]):=by
  unfold Sim at h ⊢
  rw[List.map_append,List.map_append,h,List.map_cons,List.map_cons,e]
  rfl
theorem Sim.find (h:Sim M L) (P:Tx.T×List (BitVec 8)×Int→Bool):(M.find? (P∘Nd.key)).map Nd.key=(L.find? (P∘Rn.key)).map Rn.key:=by
  rw[← List.find?_map,← List.find?_map,h]
theorem Sim.keep (h:Sim M L) (P:Tx.T×List (BitVec 8)×Int→Bool):Sim (M.filter (P∘Nd.key)) (L.filter (P∘Rn.key)):=by
  unfold Sim
  rw[← List.filter_map,← List.filter_map,h]
theorem Sim.spd (h:Sim M L) (p:Cs.Pt):(spd M p).map Nd.key=(rspd L p).map Rn.key:=h.find fun k=>decide (p∈k.1.sp.map pt)
theorem Sim.has (h:Sim M L) (D:List (BitVec 8)):(Gr.find M D).isSome=decide (∃ x,x∈L∧x.id=D):=by
  have h1:=h.find fun k=>decide (D=k.2.1)
  have e:Gr.find M D=M.find? ((fun k:Tx.T×List (BitVec 8)×Int=>decide (D=k.2.1))∘Nd.key):=rfl
  have h2:(Gr.find M D).isSome=(L.find? ((fun k:Tx.T×List (BitVec 8)×Int=>decide (D=k.2.1))∘Rn.key)).isSome:=by
    rw[e,← Option.isSome_map (f:=Nd.key),h1,Option.isSome_map]
  rw[h2,Bool.eq_iff_iff,List.find?_isSome,decide_eq_true_eq]
  refine⟨fun⟨x,hx,hp⟩=>⟨x,hx,(of_decide_eq_true hp).symm⟩,fun⟨x,hx,hp⟩=>⟨x,hx,decide_eq_true hp.symm⟩⟩
theorem Sim.cfl (h:Sim M L) (D:List (BitVec 8)) (p:Cs.Pt):(cfl M D p).isSome=(rcfl L D p).isSome:=by
  have h1:=h.spd p
  unfold Gr.cfl rcfl
  rw[Option.isSome_map]
  cases ha:Gr.spd M p with
  | none=>
    rw[ha] at h1
    cases hb:rspd L p with
    | none=>rfl
    | some y=>rw[hb] at h1;cases h1
  | some x=>
    rw[ha] at h1
    cases hb:rspd L p with
    | none=>rw[hb] at h1;cases h1
    | some y=>
      rw[hb] at h1
      have e:x.id=y.id:=congrArg (fun k:Tx.T×List (BitVec 8)×Int=>k.2.1) (Option.some.inj h1)
      simp only[Option.filter,e]
      split<;>rfl
def rconf (L:List Rn) (t:Tx.T):List (List (BitVec 8)):=(L.filter fun x=>decide (x.id∈(t.sp.map pt).filterMap (rcfl L (Tx.idOf false t)))).map (·.id)
theorem rconf_some {t:Tx.T} : 0<(rconf L t).length↔∃ s,s∈t.sp∧(rcfl L (Tx.idOf false t) (pt s)).isSome=true:=by
  unfold rconf
  rw[List.length_map,List.length_pos_iff_exists_mem]
  constructor
  · rintro ⟨x,hx⟩
    obtain⟨_,hx⟩:=List.mem_filter.1 hx
    obtain⟨p,hp,e⟩:=List.mem_filterMap.1 (of_decide_eq_true hx)
    obtain⟨s,hs,rfl⟩:=List.mem_map.1 hp
    exact⟨s,hs,by rw[e];rfl⟩
  · rintro ⟨s,hs,e⟩
    obtain⟨i,hi⟩:=Option.isSome_iff_exists.1 e
    have hi2:=hi
    unfold rcfl at hi2
    obtain⟨y,hy,rfl⟩:=Option.map_eq_some_iff.1 hi2
    obtain⟨hy,_⟩:=Option.filter_eq_some_iff.1 hy
    exact⟨y,List.mem_filter.2 ⟨rspd_mem hy,decide_eq_true (List.mem_filterMap.2 ⟨pt s,List.mem_map.2 ⟨s,hs,rfl⟩,hi⟩)⟩⟩
def rputE (L:List Rn) (t:Tx.T) (fee:Int):Int:=
  if Tx.check t=0 then if Am.Good fee then if decide (∃ x,x∈L∧x.id=Tx.idOf false t)=true then 6 else if 0<(rconf L t).length then 8 else 0 else 9 else Tx.check t
theorem Sim.putE (h:Sim M L) (t:Tx.T) (fee:Int):putE M t fee=rputE L t fee:=by
  unfold Gr.putE rputE
  have h1:(t.sp.any fun s=>(Gr.cfl M (Tx.idOf false t) (pt s)).isSome)=true↔0<(rconf L t).length:=by
    rw[rconf_some,List.any_eq_true]
    refine⟨fun⟨s,hs,e⟩=>⟨s,hs,by rw[← h.cfl];exact e⟩,fun⟨s,hs,e⟩=>⟨s,hs,by rw[h.cfl];exact e⟩⟩
  simp only[h.has,h1]
theorem Sim.rest (h:Sim M L) (I:List (List (BitVec 8))):Sim (Gr.rest M I) (rstay L I):=by
  have h1:=h.keep fun k=>!decide (k.2.1∈I)
  have e:Gr.rest M I=M.filter ((fun k:Tx.T×List (BitVec 8)×Int=>!decide (k.2.1∈I))∘Nd.key):=by
    unfold Gr.rest
    congr 1
    funext y
    exact decide_not
  rw[e]
  exact h1
theorem sorted_eq:∀ {A B:List Nd},A.Pairwise (fun x y=>x.pl<y.pl)→B.Pairwise (fun x y=>x.pl<y.pl)→(∀ z,z∈A↔z∈B)→A=B
  | [],[],_,_,_=>rfl
  | [],b :: B,_,_,h=>by have:=(h b).2 List.mem_cons_self;cases this
  | a :: A,[],_,_,h=>by have:=(h a).1 List.mem_cons_self;cases this
  | a :: A,b :: B,hA,hB,h=>by
    obtain⟨hA1,hA2⟩:=List.pairwise_cons.1 hA
    obtain⟨hB1,hB2⟩:=List.pairwise_cons.1 hB
    have e:a=b:=by
      rcases List.mem_cons.1 ((h a).1 List.mem_cons_self) with e | h1
      · exact e
      · rcases List.mem_cons.1 ((h b).2 List.mem_cons_self) with e | h2
        · exact e.symm
        · have:=hB1 a h1;have:=hA1 b h2;omega
    subst e
    refine congrArg (a :: ·) (sorted_eq hA2 hB2 fun z=>⟨fun hz=>?_,fun hz=>?_⟩)
    · rcases List.mem_cons.1 ((h z).1 (List.mem_cons_of_mem _ hz)) with e | h1
      · subst e;have:=hA1 z hz;omega
      · exact h1
    · rcases List.mem_cons.1 ((h z).2 (List.mem_cons_of_mem _ hz)) with e | h1
      · subst e;have:=hB1 z hz;omega
      · exact h1
theorem Sim.gone (h:Sim M L) (ho:M.Pairwise (fun x y=>x.pl<y.pl)) {I:List (List (BitVec 8))} {G:List Nd} (hG:G.Pairwise (fun x y=>x.pl<y.pl)) (hm:∀ z,z∈G↔z∈M∧z.id∈I):G.map (·.x.t)=(rgone L I).map (·.t):=by
  have e:G=M.filter ((fun k:Tx.T×List (BitVec 8)×Int=>decide (k.2.1∈I))∘Nd.key):=sorted_eq hG (List.Pairwise.filter _ ho) fun z=>by
    rw[hm,List.mem_filter]
    exact and_congr_right fun _=>(decide_eq_true_iff (p:=z.id∈I)).symm
  have h1:=h.keep fun k=>decide (k.2.1∈I)
  rw[← e] at h1
  have h2:=congrArg (List.map (fun k:Tx.T×List (BitVec 8)×Int=>k.1)) h1
  rw[List.map_map,List.map_map] at h2
  unfold rgone
  rw[List.map_map]
  exact h2
end
end Gr
end Go.Proofs.YtijemcfnlbapjaaGreatDoor
namespace Go.Proofs.YtijemcfnlbapjaaGreatDoor
open Go Go.RowKit Go.ChangeShapes Go.WideShapes
theorem Gr.wpList_eql_if {P:Program} {ops:Array Oper} {rest:List Oper} {op:Oper} {a:Act} {w:World} {Q:Exit→Act→World→Prop} (hgd:Region.wanted op (yielded ops a.tmps)=true) (t e yt:TypeId) (k:Nat) (x y:Operand) (ho:op.op=.binOp .eql t x y yt)
    (l m:List (BitVec 8)) (hx:a.eval x=.agg (blist l).toArray) (hy:a.eval y=.agg (blist m).toArray) (hg:P.eqGuardType P.depth t=false) (ht:P.underlying t=some (.array k e)) (he:P.underlying e=some (.int .u8)) (hs:(P.info? e).map (·.size)=some 1) (hl:l.length=k) (hm:m.length=k) {b:Bool} (hb:decide (l=m)=b)
    (h:wpList P ops Q rest (a.put op.dst (.bool b)) w):wpList P ops Q (op :: rest) a w:=by
  show if Region.wanted op (yielded ops a.tmps) then _ else _
  rw[if_pos hgd]
  refine .inl ?_
  have hn:=run_eql_hash w ht he hs l m hl hm
  rw[hb] at hn
  unfold Oper.wp execOp
  simp only[ho,hx,hy,Sem.run_bind,run_eqGuard_agg w .eql t x y _ _ hg,Result.andThen_ok,hn,Sem.run_pure]
  exact h
end Go.Proofs.YtijemcfnlbapjaaGreatDoor
