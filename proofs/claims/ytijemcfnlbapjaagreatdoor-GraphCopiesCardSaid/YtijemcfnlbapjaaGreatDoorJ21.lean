/- package graph: family; Ancestors, Descendants (mkgri.py) -/
import Derived.Test.YtijemcfnlbapjaaGreatDoorJ20
namespace Go.Proofs.YtijemcfnlbapjaaGreatDoor
open Go Go.RowKit Go.ChangeShapes Go.WideShapes
namespace Gr
inductive Reach (up:Bool) (M:List Nd) (I:List (List (BitVec 8))):Nd→Prop
  | base {z:Nd} : z∈M→z.id∈I→Reach up M I z
  | step {x z:Nd} : Reach up M I x→z∈near up M x→Reach up M I z
theorem Reach.mem {up:Bool} {M:List Nd} {I:List (List (BitVec 8))} {z:Nd} (h:Reach up M I z):z∈M:=by
  cases h with
  | base h _=>exact h
  | step _ h=>exact near_mem h
structure Inv (up:Bool) (M:List Nd) (I:List (List (BitVec 8))) (L R:List Nd):Prop where
  sub:∀ z,z∈L∨z∈R→Reach up M I z
  base:∀ z,z∈M→z.id∈I→z∈L∨z∈R
  cl:∀ x,x∈L→∀ z,z∈near up M x→z∈L∨z∈R
section
variable {up:Bool} {M L L2 R:List Nd} {I:List (List (BitVec 8))} {n:Nd}
theorem Inv.start (h:∀ z,z∈R↔z∈M∧z.id∈I):Inv up M I [] R:=
  ⟨fun z hz=>by rcases hz with hz | hz;· cases hz
                · exact .base ((h z).1 hz).1 ((h z).1 hz).2,fun z h1 h2=>.inr ((h z).2 ⟨h1,h2⟩),fun x hx=>by cases hx⟩
theorem Inv.old (h:Inv up M I L (R++[n])) (hn:n∈L):Inv up M I L R:=by
  have hk:∀ z,z∈L∨z∈R++[n]→z∈L∨z∈R:=fun z hz=>hz.elim .inl fun hz=>(List.mem_append.1 hz).elim .inr fun e=>.inl (by rw[List.mem_singleton.1 e];exact hn)
  exact⟨fun z hz=>h.sub z (hz.elim .inl fun e=>.inr (List.mem_append_left _ e)),fun z h1 h2=>hk z (h.base z h1 h2),fun x hx z hz=>hk z (h.cl x hx z hz)⟩
theorem Inv.new (h:Inv up M I L (R++[n])) (h2:∀ z,z∈L2↔z∈L∨z=n):Inv up M I L2 (R++near up M n):=by
  have hn:=h.sub n (.inr (by simp))
  have hk:∀ z,z∈L∨z∈R++[n]→z∈L2∨z∈R++near up M n:=fun z hz=>hz.elim (fun e=>.inl ((h2 z).2 (.inl e))) fun hz=>(List.mem_append.1 hz).elim (fun e=>.inr (List.mem_append_left _ e)) fun e=>.inl ((h2 z).2 (.inr (List.mem_singleton.1 e)))
  refine⟨fun z hz=>?_,fun z h1 h3=>hk z (h.base z h1 h3),fun x hx z hz=>?_⟩
  · rcases hz with hz | hz
    · exact((h2 z).1 hz).elim (fun e=>h.sub z (.inl e)) (fun e=>e▸hn)
    · exact(List.mem_append.1 hz).elim (fun e=>h.sub z (.inr (List.mem_append_left _ e))) (fun e=>.step hn e)
  · rcases(h2 x).1 hx with e | e
    · exact hk z (h.cl x e z hz)
    · subst e
      exact .inr (List.mem_append_right _ hz)
theorem Inv.done (h:Inv up M I L []) (z:Nd):z∈L↔Reach up M I z:=by
  refine⟨fun hz=>h.sub z (.inl hz),fun hz=>?_⟩
  induction hz with
  | base h1 h2=>exact(h.base _ h1 h2).elim id (fun e=>by cases e)
  | step _ h2 ih=>exact(h.cl _ ih _ h2).elim id (fun e=>by cases e)
end
theorem filter_lt {α:Type} (p q:α→Bool):∀ {l:List α},(∀ x,x∈l→q x=true→p x=true)→(∃ x,x∈l∧p x=true∧q x=false)→(l.filter q).length<(l.filter p).length
  | [],_,⟨x,h,_⟩=>by cases h
  | y :: l,h,⟨x,hx,h1,h2⟩=>by
    have hle:∀ {l:List α},(∀ x,x∈l→q x=true→p x=true)→(l.filter q).length≤(l.filter p).length:=by
      intro l
      induction l with
      | nil=>intro _;exact Nat.le_refl _
      | cons z l ih=>
        intro hz
        have ih2:=ih (fun x hx=>hz x (List.mem_cons_of_mem _ hx))
        rw[List.filter_cons,List.filter_cons]
        cases hq:q z
        · cases hp:p z<;>simp<;>omega
        · simp[hz z List.mem_cons_self hq];omega
    have hr:∀ x,x∈l→q x=true→p x=true:=fun x hx=>h x (List.mem_cons_of_mem _ hx)
    rw[List.filter_cons,List.filter_cons]
    rcases List.mem_cons.1 hx with e | e
    · subst e
      have:=hle hr
      simp[h1,h2]
      omega
    · have ih:=filter_lt p q hr ⟨x,e,h1,h2⟩
      cases hq:q y
      · cases hp:p y<;>simp<;>omega
      · simp[h y List.mem_cons_self hq];omega
def cnt (M L:List Nd):Nat:=(M.filter fun x=>decide (x.id∉L.map (·.id))).length
theorem cnt_lt {M L L2:List Nd} {n:Nd} (hn:n∈M) (h:find L n.id=none) (h2:∀ z,z∈L2↔z∈L∨z=n):cnt M L2<cnt M L:=by
  refine filter_lt _ _ (fun x _ hx=>decide_eq_true fun e=>(of_decide_eq_true hx) ?_) ⟨n,hn,decide_eq_true fun e=>?_,decide_eq_false fun e=>e ?_⟩
  · obtain⟨z,hz,e⟩:=List.mem_map.1 e
    exact List.mem_map.2 ⟨z,(h2 z).2 (.inl hz),e⟩
  · obtain⟨z,hz,e⟩:=List.mem_map.1 e
    exact find_none.1 h z hz e
  · exact List.mem_map.2 ⟨n,(h2 n).2 (.inr rfl),rfl⟩
theorem cnt_le (M L:List Nd):cnt M L≤M.length:=List.length_filter_le _ _
theorem own_cut {B:Nat} {w:World} {v:Value} {R:List Nd} {n:Nd} (h:OwnR ptrRec 104 B w v (R++[n])):∃ g c,v=.slice (some ⟨g,0,none⟩) (R.length+1) c∧R.length<c∧B≤g∧w.cell? ⟨g,R.length,none⟩=some (.pointer (some ⟨n.g,0,none⟩))∧OwnR ptrRec 104 B w (.slice (some ⟨g,0,none⟩) R.length c) R:=by
  have hl:(R++[n]).length=R.length+1:=by simp
  rcases h.2.2 with⟨rfl,h0⟩ | ⟨g,cap,cur,rfl,hgB,hgb,hnc,hcm,hcs,hct⟩
  · rw[hl] at h0;omega
  · rw[hl] at hnc hct
    have hH:Has w g 104 cur:=hgb
    refine⟨g,cap,by rw[hl],by omega,hgB,hH.cell_at ?_,(fun _ _=>trivial),by rw[ptr_row,List.length_map];exact(Nat.mul_one _).symm,.inr ⟨g,cap,cur,rfl,hgB,hgb,by omega,hcm,hcs,?_⟩⟩
    · have e:(cur.toList.take ((R.length+1)*1))[R.length]? = (ptrRec.row (R++[n]))[R.length]?:=by rw[← hct];rfl
      rw[List.getElem?_take,if_pos (by omega),Array.getElem?_toList,ptr_row,List.map_append,List.getElem?_append_right (by rw[List.length_map];exact Nat.le_refl _),List.length_map,Nat.sub_self] at e
      exact e
    · have e:(cur.toList.take ((R.length+1)*1)).take (R.length*1)=(ptrRec.row (R++[n])).take (R.length*1):=by rw[← hct];rfl
      rw[List.take_take,Nat.min_eq_left (by omega),ptr_row,List.map_append,List.take_left' (by rw[List.length_map];omega)] at e
      rw[ptr_row]
      exact e
end Gr
theorem Gr.nodup_len {α:Type} [DecidableEq α]:∀ {L M:List α},L.Nodup→(∀ z,z∈L→z∈M)→L.length≤M.length
  | [],_,_,_=>Nat.zero_le _
  | x :: L,M,hn,h=>by
    obtain⟨h1,h2⟩:=List.nodup_cons.1 hn
    have hx:=h x List.mem_cons_self
    have ih:=Gr.nodup_len (M:=M.erase x) h2 (fun z hz=>(List.mem_erase_of_ne (fun e=>h1 (by rw[← e];exact hz))).2 (h z (List.mem_cons_of_mem _ hz)))
    rw[List.length_erase_of_mem hx] at ih
    have:=List.length_pos_of_mem hx
    rw[List.length_cons]
    omega
theorem Gr.grp_len {w:World} {b:Nat} {L M:List Gr.Nd} (h:Gr.GrpAt w b L) (hs:∀ z,z∈L→z∈M):L.length≤M.length:=by
  obtain⟨es,clock,_,_,hn,_⟩:=h.map
  rw[Gr.ents,List.map_map] at hn
  have hn2:(L.map (·.id)).Nodup:=hn
  have h3:=Gr.nodup_len (M:=M.map (·.id)) hn2 (fun z hz=>by
    obtain⟨y,hy,rfl⟩:=List.mem_map.1 hz
    exact List.mem_map.2 ⟨y,hs y hy,rfl⟩)
  rw[List.length_map,List.length_map] at h3
  exact h3
set_option maxRecDepth 100000 in
set_option maxHeartbeats 8000000 in
theorem gfamily_parents {w:World} {g bn bs:Nat} {M:List Gr.Nd} {nx:Nat} (h:Gr.At w g bn bs M nx) (a:Option Addr) (n q:Nat) (I:List (List (BitVec 8))) (hI:Recs Gr.hsRec w a n I) (hn:n≤1000) :
    Calls Tryz.prog 64 #[.pointer (some ⟨g,0,none⟩),.slice a n q,.func (.func 60) #[.pointer (some ⟨g,0,none⟩)] #[]] w (Gr.IdsPost M (Gr.Reach true M I) w):=by
  have hmm:=@run_makeMap Tryz.prog
  have HH:=Lib.hid h
  obtain⟨w1,hw1⟩:∃ x,x=w.alloc (.map #[] 0):=⟨_,rfl⟩
  obtain⟨b,hb⟩:∃ b,b=w.heap.size:=⟨_,rfl⟩
  have hb1:Below w.heap.size w w1:=by rw[hw1];exact(Below.refl _ _).alloc (Nat.le_refl _) _
  have hG1:Gr.GrpAt w1 b []:=by rw[hw1,hb];exact Gr.GrpAt.fresh w
  have HB:=Lib.hid hb
  have HW1:=Lib.hid hw1
  have hblt:b<w1.heap.size:=by rw[hw1,hb];simp
  have hA1:=h.below hb1
  have HS:=Lib.hid (gsome_any hA1.has hA1.grp a n q I (hI.below hb1) (by omega) hA1.grp.inj)
  have HB1:=Lib.hid hb1
  have HG1:=Lib.hid hG1
  clear hw1 hb hA1 hI h hb1 hG1
  unfold Gr.IdsPost
  go_enter Tryz.func64,Tryz.ntmps64
  go_upto_region 2 with fail
  rw[← HW1.out,← HB.out]
  go_wp2_with (first
    | (go_at_call 50;refine HS.out.mono ?_;rintro e w2 ⟨b2,L2,rfl,hlb2,hg2,hz2,hn2,hb2⟩;have HO:=Lib.hid (ginorder_any hg2 (by omega) (Gr.pls_of (fun x y hx hy=>(HH.out).pl_inj x y ((hz2 x).1 hx).1 ((hz2 y).1 hy).1) hg2)))
    | (go_at_call 77;refine HO.out.mono ?_;rintro e w3 ⟨v3,R3,rfl,ho3,hp3,hw3,hb3⟩))
  have hb13:Below w1.heap.size w1 w3:=hb2.trans (hb3.mono hb2.size)
  have HG3:=Lib.hid (HG1.out.below hb13)
  have HO3:=Lib.hid (ho3.low hb2.size)
  have HB3:=Lib.hid (HB1.out.trans (hb13.mono HB1.out.size))
  have HI3:=Lib.hid (show Gr.Inv true M I [] R3 from Gr.Inv.start fun z=>by rw[hp3.mem_iff,hz2])
  have HL3:=Lib.hid (show R3.length≤1000 by rw[hp3.length_eq];omega)
  have hs3:w1.heap.size≤w3.heap.size:=hb13.size
  clear ho3 hp3 hw3 hb3 hg2 hz2 hn2 hb2 hb13 HS HO
  go_loopg [8] (31*Gr.cnt M []+R3.length) (fun k sv wr=>∃ (ov:Value) (L R:List Gr.Nd),k=31*Gr.cnt M L+R.length∧ov=sv∧RowKit.Hid (OwnR Gr.ptrRec 104 w1.heap.size wr ov R)∧RowKit.Hid (Gr.GrpAt wr b L)∧RowKit.Hid (Gr.Inv true M I L R)∧RowKit.Hid (31*Gr.cnt M L+R.length≤40000)∧Below w.heap.size w wr∧w1.heap.size≤wr.heap.size)
  case atStart=>exact⟨_,[],R3,rfl,rfl,HO3,HG3,HI3,Lib.hid (by have:=Gr.cnt_le M [];have:=HH.out.le;have:=HH.out.n1;have:=HL3.out;omega),HB3.out,hs3⟩
  case round=>
    clear HO3 HG3 HI3 HB3 HL3 hs3
    obtain⟨ov,L,R,hk,rfl,HO,HG,HI,HLE,hb,hs⟩:=hrel
    rcases List.eq_nil_or_concat R with rfl | ⟨R,y,hRy⟩
    · obtain⟨a5,c5,rfl,_⟩:=Gr.own_shape HO.out
      have hA:=HH.out.below hb
      have HIDS:=Lib.hid (gids_any HG.out (by have:=HH.out.le;have:=HH.out.n1;have:=Gr.grp_len HG.out (fun z hz=>(HI.out.sub z (.inl hz)).mem);omega) (Gr.pls_of (fun x y hx hy=>HH.out.pl_inj x y (HI.out.sub x (.inl hx)).mem (HI.out.sub y (.inl hy)).mem) HG.out))
      have HBW:=Lib.hid hb
      clear hk hA hb
      go_wp2_with (go_at_call 67;refine HIDS.out.mono ?_;rintro e w5 ⟨v5,L5,rfl,ho5,hp5,hw5,hb5⟩)
      go_ret
      exact⟨v5,L5,rfl,ho5.low HBW.out.size,hw5,fun z=>by
        rw[hp5.mem_iff,HI.out.done]
        exact⟨fun h=>⟨h.mem,h⟩,fun h=>h.2⟩,HBW.out.trans (hb5.mono HBW.out.size)⟩
    · rw[List.concat_eq_append] at hRy
      subst hRy
      obtain⟨gr,cr,rfl,hcr,hgB,hcell,hcut⟩:=Gr.own_cut HO.out
      obtain⟨rl,hrl⟩:∃ k,k=R.length:=⟨_,rfl⟩
      rw[← hrl] at hcr hcell hcut ⊢
      have HRL:=Lib.hid hrl
      have hyM:y∈M:=(HI.out.sub y (.inr (by simp))).mem
      have hA:=HH.out.below hb
      have hnd:=hA.grp.nd y hyM
      have lid:=hnd.lid
      have hyl:=hnd.id
      have hmap:=HG.out.map
      have HCUT:=Lib.hid hcut
      have HBW:=Lib.hid hb
      have HKK:=Lib.hid hk
      have hsub:((rl+1:Nat):Int)-1=(rl:Int):=by omega
      have hwr1:IntKind.i64.wrap (rl:Int)=(rl:Int):=IntWalk.i64_in _ (by have:=HLE.out;rw[List.length_append] at this;omega)
      have hgt:(0:Int)<((rl+1:Nat):Int):=by omega
      have hlt1:(rl:Int)<((rl+1:Nat):Int):=by omega
      have hlc:(rl:Int)≤(cr:Int):=by omega
      have hl0:(0:Int)≤(rl:Int):=by omega
      have HGE:=Lib.hid hgB
      have HWS:=Lib.hid hs
      have hws:w.heap.size≤w1.heap.size:=HB1.out.size
      clear hrl hb hk hcut HO hnd hgB
      cases hf:Gr.find L y.id with
      | some y2=>
        have hyL:y∈L:=by
          have h1:=Gr.find_mem hf
          have:=HH.out.grp.inj y2 y (HI.out.sub y2 (.inl h1.1)).mem hyM h1.2
          exact this▸h1.1
        have HGOT:=Lib.hid (show Mp.got Gr.dH (Gr.ents L) y.id true=.tuple #[.pointer (some ⟨y2.g,0,none⟩),.bool true] by
          show Value.tuple #[Gr.ptrV ((Mp.look (Gr.ents L) y.id).getD none),.bool (Mp.look (Gr.ents L) y.id).isSome]=_
          rw[Gr.look_ents,hf]
          rfl)
        have HI2:=Lib.hid (HI.out.old hyL)
        clear hf hyL hA
        go_wp2_with (first
          | (at_lookup;refine wpList_lookup_g (D:=Gr.dH) rfl (.tmp 32) (.tmp 36) true rfl rfl hmap y.id rfl hyl ?_;rw[HGOT.out])
          | (refine wpList_load_run rfl 46 (.tmp 35) rfl _ _ rfl lid ?_))
        go_roundg (31*Gr.cnt M L+R.length)
        case measure=>rw[HKK.out,List.length_append];simp
        case rel=>exact⟨_,L,R,rfl,rfl,HCUT,HG,HI2,Lib.hid (by have:=HLE.out;rw[List.length_append] at this;omega),HBW.out,HWS.out⟩
      | none=>
        have HGOT:=Lib.hid (show Mp.got Gr.dH (Gr.ents L) y.id true=.tuple #[.pointer none,.bool false] by
          show Value.tuple #[Gr.ptrV ((Mp.look (Gr.ents L) y.id).getD none),.bool (Mp.look (Gr.ents L) y.id).isSome]=_
          rw[Gr.look_ents,hf]
          rfl)
        obtain⟨L2,hp2,hz2,hn2⟩:=Gr.ents_put (L:=L) (x:=y) (fun z hz=>HH.out.grp.inj z y (HI.out.sub z (.inl hz)).mem hyM)
        have HP2:=Lib.hid (show Mp.put (Gr.ents L) y.id (some y.g)=Gr.ents L2 from hp2)
        have HI2:=Lib.hid (HI.out.new hz2)
        have HCL:=Lib.hid (Gr.cnt_lt hyM hf hz2)
        have HNL:=Lib.hid (Gr.near_len (up:=true) (M:=M) (HH.out.grp.nd y hyM))
        have HYM:=Lib.hid hyM
        have HLEN:=Lib.hid (show R.length+(Gr.near true M y).length≤1099511627776 by have h1:=HLE.out;have h2:=HNL.out;rw[List.length_append] at h1;omega)
        have HZ2:=Lib.hid (show ∀ z,z∈L2→z∈M from fun z hz=>(HI2.out.sub z (.inl hz)).mem)
        clear hf hp2 hz2 hn2 hA hyM
        go_wp2_with (first
          | (at_builtin;refine wpList_append_recs (R:=Gr.ptrRec) rfl (.tmp 48) (.tmp 51) 122 rfl 104 Tryz.underlying122 Gr.info_nd rfl (by decide) w1.heap.size (.slice (some ⟨gr,0,none⟩) rl cr) R rfl HCUT5.out a5 _ c5 (Gr.near true M y) rfl hr5 h05 HLEN.out HS5.out ?_;intro v6 w6 ho6 hg6 hl6)
          | (at_lookup;refine wpList_lookup_g (D:=Gr.dH) rfl (.tmp 32) (.tmp 36) true rfl rfl hmap y.id rfl hyl ?_;rw[HGOT.out])
          | (refine wpList_mapUpdate_g (D:=Gr.dH) rfl (.tmp 42) (.tmp 46) (.tmp 47) rfl rfl hmap y.id rfl hyl (some y.g) rfl rfl ?_;intro w4 hm4 hmv4;have HM4:=Lib.hid (And.intro hm4 hmv4);have HB4:=Lib.hid (show Below w.heap.size w w4 from HBW.out.trans (hmv4.below (fun k hk=>by have:=HB.out;omega) HBW.out.size));have HN:=Lib.hid (gparents_any (HH.out.below HB4.out) y HYM.out);clear hm4 hmv4)
          | (go_at_call 60;refine HN.out.mono ?_;rintro e w5 ⟨v5,rfl,ho5,hb5⟩;obtain⟨a5,c5,rfl,hc5,h05,_,hr5⟩:=ho5.shape rfl;have HB45:=Lib.hid hb5;have HCUT5:=Lib.hid ((HCUT.out.moved HM4.out.2 (fun k hk e=>by have:=HCUT.out.lt k hk;omega)).below hb5);have HS5:=Lib.hid (show w1.heap.size≤w5.heap.size by have:=hb5.size;have:=HM4.out.2.size;have:=HWS.out;omega);clear ho5 hc5 hb5)
          | (refine wpList_load_run rfl 46 (.tmp 35) rfl _ _ rfl lid ?_)
          | (refine wpList_load_run rfl 46 (.tmp 45) rfl _ _ rfl lid ?_))
        have hb56:Below w1.heap.size w5 w6:=(Below.refl w1.heap.size w5).grown hg6 HS5.out HCUT5.out.lt
        have hb46:Below w.heap.size w w6:=(HB4.out.trans (HB45.out.mono HB4.out.size)).trans (hb56.mono hws)
        have hm6:MapG Gr.dH w6 b (Gr.ents L2):=by
          have h4:=HM4.out.1
          rw[HP2.out] at h4
          exact(h4.below HB45.out).moved (moved_below hb56) (by omega)
        have HG6:=Lib.hid (show Gr.GrpAt w6 b L2 from⟨hm6,fun z hz=>(HH.out.below hb46).grp.nd z (HZ2.out z hz)⟩)
        have hms:31*Gr.cnt M L2+(R++Gr.near true M y).length<gk:=by
          have h1:=HCL.out
          have h2:=HNL.out
          rw[HKK.out,List.length_append,List.length_append]
          simp
          omega
        have h6:31*Gr.cnt M L2+(R++Gr.near true M y).length≤40000:=by
          have:=HLE.out
          have:=HKK.out
          omega
        have hs6:w1.heap.size≤w6.heap.size:=by have:=hb56.size;have:=HS5.out;omega
        clear hg6 hl6 lid hr5 hcell hmap hb56 hm6
        go_roundg (31*Gr.cnt M L2+(R++Gr.near true M y).length)
        case measure=>exact hms
        case rel=>exact⟨v6,L2,R++Gr.near true M y,rfl,rfl,Lib.hid ho6,HG6,HI2,Lib.hid h6,hb46,hs6⟩
set_option maxRecDepth 100000 in
set_option maxHeartbeats 8000000 in
theorem gfamily_children {w:World} {g bn bs:Nat} {M:List Gr.Nd} {nx:Nat} (h:Gr.At w g bn bs M nx) (a:Option Addr) (n q:Nat) (I:List (List (BitVec 8))) (hI:Recs Gr.hsRec w a n I) (hn:n≤1000) :
    Calls Tryz.prog 64 #[.pointer (some ⟨g,0,none⟩),.slice a n q,.func (.func 62) #[.pointer (some ⟨g,0,none⟩)] #[]] w (Gr.IdsPost M (Gr.Reach false M I) w):=by
  have hmm:=@run_makeMap Tryz.prog
  have HH:=Lib.hid h
  obtain⟨w1,hw1⟩:∃ x,x=w.alloc (.map #[] 0):=⟨_,rfl⟩
  obtain⟨b,hb⟩:∃ b,b=w.heap.size:=⟨_,rfl⟩
  have hb1:Below w.heap.size w w1:=by rw[hw1];exact(Below.refl _ _).alloc (Nat.le_refl _) _
  have hG1:Gr.GrpAt w1 b []:=by rw[hw1,hb];exact Gr.GrpAt.fresh w
  have HB:=Lib.hid hb
  have HW1:=Lib.hid hw1
  have hblt:b<w1.heap.size:=by rw[hw1,hb];simp
  have hA1:=h.below hb1
  have HS:=Lib.hid (gsome_any hA1.has hA1.grp a n q I (hI.below hb1) (by omega) hA1.grp.inj)
  have HB1:=Lib.hid hb1
  have HG1:=Lib.hid hG1
  clear hw1 hb hA1 hI h hb1 hG1
  unfold Gr.IdsPost
  go_enter Tryz.func64,Tryz.ntmps64
  go_upto_region 2 with fail
  rw[← HW1.out,← HB.out]
  go_wp2_with (first
    | (go_at_call 50;refine HS.out.mono ?_;rintro e w2 ⟨b2,L2,rfl,hlb2,hg2,hz2,hn2,hb2⟩;have HO:=Lib.hid (ginorder_any hg2 (by omega) (Gr.pls_of (fun x y hx hy=>(HH.out).pl_inj x y ((hz2 x).1 hx).1 ((hz2 y).1 hy).1) hg2)))
    | (go_at_call 77;refine HO.out.mono ?_;rintro e w3 ⟨v3,R3,rfl,ho3,hp3,hw3,hb3⟩))
  have hb13:Below w1.heap.size w1 w3:=hb2.trans (hb3.mono hb2.size)
  have HG3:=Lib.hid (HG1.out.below hb13)
  have HO3:=Lib.hid (ho3.low hb2.size)
  have HB3:=Lib.hid (HB1.out.trans (hb13.mono HB1.out.size))
  have HI3:=Lib.hid (show Gr.Inv false M I [] R3 from Gr.Inv.start fun z=>by rw[hp3.mem_iff,hz2])
  have HL3:=Lib.hid (show R3.length≤1000 by rw[hp3.length_eq];omega)
  have hs3:w1.heap.size≤w3.heap.size:=hb13.size
  clear ho3 hp3 hw3 hb3 hg2 hz2 hn2 hb2 hb13 HS HO
  go_loopg [8] (31*Gr.cnt M []+R3.length) (fun k sv wr=>∃ (ov:Value) (L R:List Gr.Nd),k=31*Gr.cnt M L+R.length∧ov=sv∧RowKit.Hid (OwnR Gr.ptrRec 104 w1.heap.size wr ov R)∧RowKit.Hid (Gr.GrpAt wr b L)∧RowKit.Hid (Gr.Inv false M I L R)∧RowKit.Hid (31*Gr.cnt M L+R.length≤40000)∧Below w.heap.size w wr∧w1.heap.size≤wr.heap.size)
  case atStart=>exact⟨_,[],R3,rfl,rfl,HO3,HG3,HI3,Lib.hid (by have:=Gr.cnt_le M [];have:=HH.out.le;have:=HH.out.n1;have:=HL3.out;omega),HB3.out,hs3⟩
  case round=>
    clear HO3 HG3 HI3 HB3 HL3 hs3
    obtain⟨ov,L,R,hk,rfl,HO,HG,HI,HLE,hb,hs⟩:=hrel
    rcases List.eq_nil_or_concat R with rfl | ⟨R,y,hRy⟩
    · obtain⟨a5,c5,rfl,_⟩:=Gr.own_shape HO.out
      have hA:=HH.out.below hb
      have HIDS:=Lib.hid (gids_any HG.out (by have:=HH.out.le;have:=HH.out.n1;have:=Gr.grp_len HG.out (fun z hz=>(HI.out.sub z (.inl hz)).mem);omega) (Gr.pls_of (fun x y hx hy=>HH.out.pl_inj x y (HI.out.sub x (.inl hx)).mem (HI.out.sub y (.inl hy)).mem) HG.out))
      have HBW:=Lib.hid hb
      clear hk hA hb
      go_wp2_with (go_at_call 67;refine HIDS.out.mono ?_;rintro e w5 ⟨v5,L5,rfl,ho5,hp5,hw5,hb5⟩)
      go_ret
      exact⟨v5,L5,rfl,ho5.low HBW.out.size,hw5,fun z=>by
        rw[hp5.mem_iff,HI.out.done]
        exact⟨fun h=>⟨h.mem,h⟩,fun h=>h.2⟩,HBW.out.trans (hb5.mono HBW.out.size)⟩
    · rw[List.concat_eq_append] at hRy
      subst hRy
      obtain⟨gr,cr,rfl,hcr,hgB,hcell,hcut⟩:=Gr.own_cut HO.out
      obtain⟨rl,hrl⟩:∃ k,k=R.length:=⟨_,rfl⟩
      rw[← hrl] at hcr hcell hcut ⊢
      have HRL:=Lib.hid hrl
      have hyM:y∈M:=(HI.out.sub y (.inr (by simp))).mem
      have hA:=HH.out.below hb
      have hnd:=hA.grp.nd y hyM
      have lid:=hnd.lid
      have hyl:=hnd.id
      have hmap:=HG.out.map
      have HCUT:=Lib.hid hcut
      have HBW:=Lib.hid hb
      have HKK:=Lib.hid hk
      have hsub:((rl+1:Nat):Int)-1=(rl:Int):=by omega
      have hwr1:IntKind.i64.wrap (rl:Int)=(rl:Int):=IntWalk.i64_in _ (by have:=HLE.out;rw[List.length_append] at this;omega)
      have hgt:(0:Int)<((rl+1:Nat):Int):=by omega
      have hlt1:(rl:Int)<((rl+1:Nat):Int):=by omega
      have hlc:(rl:Int)≤(cr:Int):=by omega
      have hl0:(0:Int)≤(rl:Int):=by omega
      have HGE:=Lib.hid hgB
      have HWS:=Lib.hid hs
      have hws:w.heap.size≤w1.heap.size:=HB1.out.size
      clear hrl hb hk hcut HO hnd hgB
      cases hf:Gr.find L y.id with
      | some y2=>
        have hyL:y∈L:=by
          have h1:=Gr.find_mem hf
          have:=HH.out.grp.inj y2 y (HI.out.sub y2 (.inl h1.1)).mem hyM h1.2
          exact this▸h1.1
        have HGOT:=Lib.hid (show Mp.got Gr.dH (Gr.ents L) y.id true=.tuple #[.pointer (some ⟨y2.g,0,none⟩),.bool true] by
          show Value.tuple #[Gr.ptrV ((Mp.look (Gr.ents L) y.id).getD none),.bool (Mp.look (Gr.ents L) y.id).isSome]=_
          rw[Gr.look_ents,hf]
          rfl)
        have HI2:=Lib.hid (HI.out.old hyL)
        clear hf hyL hA
        go_wp2_with (first
          | (at_lookup;refine wpList_lookup_g (D:=Gr.dH) rfl (.tmp 32) (.tmp 36) true rfl rfl hmap y.id rfl hyl ?_;rw[HGOT.out])
          | (refine wpList_load_run rfl 46 (.tmp 35) rfl _ _ rfl lid ?_))
        go_roundg (31*Gr.cnt M L+R.length)
        case measure=>rw[HKK.out,List.length_append];simp
        case rel=>exact⟨_,L,R,rfl,rfl,HCUT,HG,HI2,Lib.hid (by have:=HLE.out;rw[List.length_append] at this;omega),HBW.out,HWS.out⟩
      | none=>
        have HGOT:=Lib.hid (show Mp.got Gr.dH (Gr.ents L) y.id true=.tuple #[.pointer none,.bool false] by
          show Value.tuple #[Gr.ptrV ((Mp.look (Gr.ents L) y.id).getD none),.bool (Mp.look (Gr.ents L) y.id).isSome]=_
          rw[Gr.look_ents,hf]
          rfl)
        obtain⟨L2,hp2,hz2,hn2⟩:=Gr.ents_put (L:=L) (x:=y) (fun z hz=>HH.out.grp.inj z y (HI.out.sub z (.inl hz)).mem hyM)
        have HP2:=Lib.hid (show Mp.put (Gr.ents L) y.id (some y.g)=Gr.ents L2 from hp2)
        have HI2:=Lib.hid (HI.out.new hz2)
        have HCL:=Lib.hid (Gr.cnt_lt hyM hf hz2)
        have HNL:=Lib.hid (Gr.near_len (up:=false) (M:=M) (HH.out.grp.nd y hyM))
        have HYM:=Lib.hid hyM
        have HLEN:=Lib.hid (show R.length+(Gr.near false M y).length≤1099511627776 by have h1:=HLE.out;have h2:=HNL.out;rw[List.length_append] at h1;omega)
        have HZ2:=Lib.hid (show ∀ z,z∈L2→z∈M from fun z hz=>(HI2.out.sub z (.inl hz)).mem)
        clear hf hp2 hz2 hn2 hA hyM
        go_wp2_with (first
          | (at_builtin;refine wpList_append_recs (R:=Gr.ptrRec) rfl (.tmp 48) (.tmp 51) 122 rfl 104 Tryz.underlying122 Gr.info_nd rfl (by decide) w1.heap.size (.slice (some ⟨gr,0,none⟩) rl cr) R rfl HCUT5.out a5 _ c5 (Gr.near false M y) rfl hr5 h05 HLEN.out HS5.out ?_;intro v6 w6 ho6 hg6 hl6)
          | (at_lookup;refine wpList_lookup_g (D:=Gr.dH) rfl (.tmp 32) (.tmp 36) true rfl rfl hmap y.id rfl hyl ?_;rw[HGOT.out])
          | (refine wpList_mapUpdate_g (D:=Gr.dH) rfl (.tmp 42) (.tmp 46) (.tmp 47) rfl rfl hmap y.id rfl hyl (some y.g) rfl rfl ?_;intro w4 hm4 hmv4;have HM4:=Lib.hid (And.intro hm4 hmv4);have HB4:=Lib.hid (show Below w.heap.size w w4 from HBW.out.trans (hmv4.below (fun k hk=>by have:=HB.out;omega) HBW.out.size));have HN:=Lib.hid (gchildren_any (HH.out.below HB4.out) y HYM.out);clear hm4 hmv4)
          | (go_at_call 62;refine HN.out.mono ?_;rintro e w5 ⟨v5,rfl,ho5,hb5⟩;obtain⟨a5,c5,rfl,hc5,h05,_,hr5⟩:=ho5.shape rfl;have HB45:=Lib.hid hb5;have HCUT5:=Lib.hid ((HCUT.out.moved HM4.out.2 (fun k hk e=>by have:=HCUT.out.lt k hk;omega)).below hb5);have HS5:=Lib.hid (show w1.heap.size≤w5.heap.size by have:=hb5.size;have:=HM4.out.2.size;have:=HWS.out;omega);clear ho5 hc5 hb5)
          | (refine wpList_load_run rfl 46 (.tmp 35) rfl _ _ rfl lid ?_)
          | (refine wpList_load_run rfl 46 (.tmp 45) rfl _ _ rfl lid ?_))
        have hb56:Below w1.heap.size w5 w6:=(Below.refl w1.heap.size w5).grown hg6 HS5.out HCUT5.out.lt
        have hb46:Below w.heap.size w w6:=(HB4.out.trans (HB45.out.mono HB4.out.size)).trans (hb56.mono hws)
        have hm6:MapG Gr.dH w6 b (Gr.ents L2):=by
          have h4:=HM4.out.1
          rw[HP2.out] at h4
          exact(h4.below HB45.out).moved (moved_below hb56) (by omega)
        have HG6:=Lib.hid (show Gr.GrpAt w6 b L2 from⟨hm6,fun z hz=>(HH.out.below hb46).grp.nd z (HZ2.out z hz)⟩)
        have hms:31*Gr.cnt M L2+(R++Gr.near false M y).length<gk:=by
          have h1:=HCL.out
          have h2:=HNL.out
          rw[HKK.out,List.length_append,List.length_append]
          simp
          omega
        have h6:31*Gr.cnt M L2+(R++Gr.near false M y).length≤40000:=by
          have:=HLE.out
          have:=HKK.out
          omega
        have hs6:w1.heap.size≤w6.heap.size:=by have:=hb56.size;have:=HS5.out;omega
        clear hg6 hl6 lid hr5 hcell hmap hb56 hm6
        go_roundg (31*Gr.cnt M L2+(R++Gr.near false M y).length)
        case measure=>exact hms
        case rel=>exact⟨v6,L2,R++Gr.near false M y,rfl,rfl,Lib.hid ho6,HG6,HI2,Lib.hid h6,hb46,hs6⟩
set_option maxRecDepth 100000 in
set_option maxHeartbeats 8000000 in
theorem gAncestors_any {w:World} {g bn bs:Nat} {M:List Gr.Nd} {nx:Nat} (h:Gr.At w g bn bs M nx) (a:Option Addr) (n q:Nat) (I:List (List (BitVec 8))) (hI:Recs Gr.hsRec w a n I) (hn:n≤1000) :
    Calls Tryz.prog 26 #[.pointer (some ⟨g,0,none⟩),.slice a n q] w (Gr.IdsPost M (Gr.Reach true M I) w):=by
  have HF:=Lib.hid (gfamily_parents h a n q I hI hn)
  clear h hI
  unfold Gr.IdsPost at HF ⊢
  go_enter Tryz.func26,Tryz.ntmps26
  go_wp2_with (go_at_call 64;refine HF.out.mono ?_;rintro e w2 ⟨v,L,rfl,ho,hw,hz,hb⟩)
  go_ret
  exact⟨v,L,rfl,ho,hw,hz,hb⟩
set_option maxRecDepth 100000 in
set_option maxHeartbeats 8000000 in
theorem gDescendants_any {w:World} {g bn bs:Nat} {M:List Gr.Nd} {nx:Nat} (h:Gr.At w g bn bs M nx) (a:Option Addr) (n q:Nat) (I:List (List (BitVec 8))) (hI:Recs Gr.hsRec w a n I) (hn:n≤1000) :
    Calls Tryz.prog 28 #[.pointer (some ⟨g,0,none⟩),.slice a n q] w (Gr.IdsPost M (Gr.Reach false M I) w):=by
  have HF:=Lib.hid (gfamily_children h a n q I hI hn)
  clear h hI
  unfold Gr.IdsPost at HF ⊢
  go_enter Tryz.func28,Tryz.ntmps28
  go_wp2_with (go_at_call 64;refine HF.out.mono ?_;rintro e w2 ⟨v,L,rfl,ho,hw,hz,hb⟩)
  go_ret
  exact⟨v,L,rfl,ho,hw,hz,hb⟩
end Go.Proofs.YtijemcfnlbapjaaGreatDoor
