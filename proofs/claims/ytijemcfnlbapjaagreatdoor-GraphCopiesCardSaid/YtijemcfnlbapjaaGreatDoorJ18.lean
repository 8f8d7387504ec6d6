/- package graph: spender, creator (mkgrc.py) · package graph: nodes sorted by their places (mkgrd.py) · A slice literal of one record. Nothing of the program. · package graph: the nodes of a group in the order of insertion, their ids -/
import Derived.Test.YtijemcfnlbapjaaGreatDoorJ17
import Derived.BigQuiet
import Derived.Deep.QuietTactic
import Derived.Test.YtijemcfnlbapjaaGreatDoorJ03
import Derived.Maps.RangeWalk
import Derived.Deep.LoopGhost
namespace Go.Proofs.YtijemcfnlbapjaaGreatDoor
open Go Go.RowKit Go.ChangeShapes Go.WideShapes
set_option maxRecDepth 100000 in
set_option maxHeartbeats 8000000 in
theorem gspender_any {w:World} {g bs:Nat} {v0 v2:Value} {M:List (Cs.Pt×Option Nat)} (h:Has w g 93 #[v0,.map (some bs),v2]) (hm:MapG Gr.dP w bs M) (p:Cs.Pt) (hp:Cs.ptOk p) :
    Calls Tryz.prog 63 #[.pointer (some ⟨g,0,none⟩),.agg (ptCells p.1 p.2).toArray] w fun e w'=>e=.returned (.tuple #[Gr.ptrV ((Mp.look M p).getD none),.bool (Mp.look M p).isSome])∧Below w.heap.size w w':=by
  obtain⟨o,ho⟩:∃ o,o=(Mp.look M p).isSome:=⟨_,rfl⟩
  obtain⟨x,hx⟩:∃ x,x=Gr.ptrV ((Mp.look M p).getD none):=⟨_,rfl⟩
  rw[← ho,← hx]
  have HGOT:=Lib.hid (show Mp.got Gr.dP M p true=.tuple #[x,.bool o] by rw[hx,ho];rfl)
  clear hx ho
  obtain⟨W1,hW1⟩:∃ ww,ww=w.alloc (.cells (ptCells p.1 p.2).toArray 58):=⟨_,rfl⟩
  have hB1:Below w.heap.size w W1:=by rw[hW1];exact(Below.refl _ _).alloc (Nat.le_refl _) _
  have hP1:Has W1 w.heap.size 58 (ptCells p.1 p.2).toArray:=by rw[hW1];exact Has.fresh _ _ _
  have HW1:=Lib.hid hW1
  clear hW1
  go_enter Tryz.func63,Tryz.ntmps63
  go_upto_region 3 with fail
  rw[← HW1.out]
  obtain⟨ws,hws⟩:∃ ww,ww=W1.drew:=⟨_,rfl⟩
  have hBs:Below w.heap.size w ws:=by rw[hws];exact hB1.drew
  have hPs:Has ws w.heap.size 58 (ptCells p.1 p.2).toArray:=by rw[hws];exact hP1.draw
  have lP:=fun(wq:World) (hSw:Held ws wq)=>(hPs.under hSw.below hPs.lt).load_agg (P:=Tryz.prog) (t:=58) Tryz.underlying58 rfl (gsize_pt hp.1)
  have HM:=Lib.hid (fun(wq:World) (hSw:Held ws wq)=>(hm.below hBs).below hSw.below)
  refine wp_region_held_drew (S:=Held ws) (by kernel_rfl) (by rw[hws];exact Held.refl _) (fun hHeld=>?_)
  rw[← hws] at hHeld ⊢
  clear hws hB1 hP1 HW1
  refine tka (v:=?_) 0 11 rfl rfl hHeld (Or.inl ⟨by rfl,?_⟩) rfl ?_
  rotate_left
  · intro wq hSw
    go_simp
    try with_reducible rfl
  simp only[ts0,ts1]
  refine tka (v:=?_) 1 12 rfl rfl hHeld (Or.inl ⟨by rfl,?_⟩) rfl ?_
  rotate_left
  · intro wq hSw
    go_simp
    try with_reducible rfl
  simp only[ts0,ts1]
  refine tka (v:=?_) 2 13 rfl rfl hHeld (Or.inl ⟨by rfl,?_⟩) rfl ?_
  rotate_left
  · intro wq hSw
    go_simp
    try with_reducible rfl
  simp only[ts0,ts1]
  refine tka (v:=?_) 3 14 rfl rfl hHeld (Or.inl ⟨by rfl,?_⟩) rfl ?_
  rotate_left
  · intro wq hSw
    have hst:=(h.under hBs h.lt).under hSw.below (h.under hBs h.lt).lt|>.cell_at (i:=1) (v:=.map (some bs)) rfl
    go_simp
    try with_reducible rfl
  simp only[ts0,ts1]
  refine tka 4 15 rfl rfl hHeld (yieldsIf_load_agg (by rfl) 58 (.tmp 3) rfl _ _ (by rfl) (fun wq hSw=>lP wq hSw)) rfl ?_
  simp only[ts0,ts1]
  refine tka 5 16 rfl rfl hHeld (yieldsIf_lookup_g (D:=Gr.dP) (M:=M) (b:=bs) (by rfl) (.tmp 14) (.tmp 15) true (by rfl) (by rfl) p (by rfl) hp (fun wq hSw=>HM.out wq hSw)) rfl ?_
  simp only[ts0,ts1]
  rw[HGOT.out]
  refine tka (v:=?_) 6 10 rfl rfl hHeld (Or.inl ⟨by rfl,?_⟩) rfl ?_
  rotate_left
  · intro wq hSw
    go_simp
    try with_reducible rfl
  simp only[ts0,ts1]
  refine tka (v:=?_) 7 17 rfl rfl hHeld (Or.inl ⟨by rfl,?_⟩) rfl ?_
  rotate_left
  · intro wq hSw
    go_simp
    try with_reducible rfl
  simp only[ts0,ts1]
  refine tka (v:=?_) 8 18 rfl rfl hHeld (Or.inl ⟨by rfl,?_⟩) rfl ?_
  rotate_left
  · intro wq hSw
    go_simp
    try with_reducible rfl
  simp only[ts0,ts1]
  refine tka (v:=?_) 9 6 rfl rfl hHeld (Or.inl ⟨by rfl,?_⟩) rfl ?_
  rotate_left
  · intro wq hSw
    go_simp
    try with_reducible rfl
  simp only[ts0,ts1]
  refine tka (v:=?_) 10 7 rfl rfl hHeld (Or.inl ⟨by rfl,?_⟩) rfl ?_
  rotate_left
  · intro wq hSw
    go_simp
    try with_reducible rfl
  simp only[ts0,ts1]
  refine wpAnyH_done (by kernel_rfl) ?_ _
  go_wp2
  go_ret2
  exact⟨rfl,hBs⟩
set_option maxRecDepth 100000 in
set_option maxHeartbeats 8000000 in
theorem gcreator_any {w:World} {g bn:Nat} {v1 v2:Value} {N:List Gr.Nd} (h:Has w g 93 #[.map (some bn),v1,v2]) (hN:Gr.GrpAt w bn N) (p:Cs.Pt) (hp:Cs.ptOk p) :
    Calls Tryz.prog 72 #[.pointer (some ⟨g,0,none⟩),.agg (ptCells p.1 p.2).toArray] w fun e w'=>e=.returned (.tuple #[Gr.ptrV ((Gr.maker N p).map (·.g)),.bool (Gr.maker N p).isSome])∧Below w.heap.size w w':=by
  obtain⟨R,hR⟩:∃ R,R=Gr.maker N p:=⟨_,rfl⟩
  rw[← hR]
  obtain⟨M,hM⟩:∃ M,M=Gr.ents N:=⟨_,rfl⟩
  have hm:MapG Gr.dH w bn M:=by rw[hM];exact hN.map
  obtain⟨o,ho⟩:∃ o,o=(Mp.look M p.1).isSome:=⟨_,rfl⟩
  obtain⟨x,hx⟩:∃ x,x=Gr.ptrV ((Mp.look M p.1).getD none):=⟨_,rfl⟩
  have HGOT:=Lib.hid (show Mp.got Gr.dH M p.1 true=.tuple #[x,.bool o] by rw[hx,ho];rfl)
  have HX:=Lib.hid (And.intro hM (And.intro ho hx))
  clear hx ho hM
  obtain⟨W1,hW1⟩:∃ ww,ww=w.alloc (.cells (ptCells p.1 p.2).toArray 58):=⟨_,rfl⟩
  have hB1:Below w.heap.size w W1:=by rw[hW1];exact(Below.refl _ _).alloc (Nat.le_refl _) _
  have hP1:Has W1 w.heap.size 58 (ptCells p.1 p.2).toArray:=by rw[hW1];exact Has.fresh _ _ _
  have HW1:=Lib.hid hW1
  clear hW1
  go_enter Tryz.func72,Tryz.ntmps72
  go_upto_region 1 with fail
  rw[← HW1.out]
  obtain⟨ws,hws⟩:∃ ww,ww=W1.drew:=⟨_,rfl⟩
  have hBs:Below w.heap.size w ws:=by rw[hws];exact hB1.drew
  have hPs:Has ws w.heap.size 58 (ptCells p.1 p.2).toArray:=by rw[hws];exact hP1.draw
  have lP:=fun(wq:World) (hSw:Held ws wq)=>(hPs.under hSw.below hPs.lt).load_agg (P:=Tryz.prog) (t:=58) Tryz.underlying58 rfl (gsize_pt hp.1)
  have HM:=Lib.hid (fun(wq:World) (hSw:Held ws wq)=>(hm.below hBs).below hSw.below)
  have HA:=fun(wq:World) (hSw:Held ws wq)=>gall_any ((h.under hBs h.lt).under hSw.below (h.under hBs h.lt).lt)
  have lH:=fun(wq:World) (hSw:Held ws wq)=>Gr.load_mid (P:=Tryz.prog) (t:=46) (hPs.under hSw.below hPs.lt) 0 (blist p.1) (fun j v hj=>by
    rw[Nat.zero_add,List.getElem?_toArray]
    unfold ptCells
    rw[List.getElem?_append_left (List.getElem?_eq_some_iff.1 hj).1]
    exact hj) Tryz.underlying46 rfl (by rw[blist_length,hp.1];kernel_rfl)
  refine wp_region_held_drew (S:=Held ws) (by kernel_rfl) (by rw[hws];exact Held.refl _) (fun hHeld=>?_)
  rw[← hws] at hHeld ⊢
  clear hws hB1 hP1 HW1
  refine tka (v:=?_) 0 9 rfl rfl hHeld (Or.inl ⟨by rfl,?_⟩) rfl ?_
  rotate_left
  · intro wq hSw
    go_simp
    try with_reducible rfl
  simp only[ts0,ts1]
  refine tka (v:=?_) 2 11 rfl rfl hHeld (Or.inl ⟨by rfl,?_⟩) rfl ?_
  rotate_left
  · intro wq hSw
    go_simp
    try with_reducible rfl
  simp only[ts0,ts1]
  refine tka 3 12 rfl rfl hHeld (yieldsIf_load_agg (by rfl) 46 (.tmp 11) rfl _ _ (by rfl) (fun wq hSw=>lH wq hSw)) rfl ?_
  simp only[ts0,ts1]
  refine wpAnyH_ready (rs:=[1]) (by kernel_rfl) (by simp) ?_
  refine AllReadyH.cons rfl (fun K hK=>?_) AllReadyH.nil
  go_simp
  go_at_call 56
  refine(HA _ hHeld).mono ?_
  rintro e w2 ⟨rfl,rfl⟩
  refine hK.out _ _ hHeld (fun _=>?_)
  clear hK K
  try simp only[Act.put,List.setIfInBounds_toArray,ts0,ts1]
  refine tka 4 13 rfl rfl hHeld (yieldsIf_lookup_g (D:=Gr.dH) (M:=M) (b:=bn) (by rfl) (.tmp 10) (.tmp 12) true (by rfl) (by rfl) p.1 (by rfl) hp.1 (fun wq hSw=>HM.out wq hSw)) rfl ?_
  simp only[ts0,ts1]
  rw[HGOT.out]
  refine tka (v:=?_) 5 8 rfl rfl hHeld (Or.inl ⟨by rfl,?_⟩) rfl ?_
  rotate_left
  · intro wq hSw
    go_simp
    try with_reducible rfl
  simp only[ts0,ts1]
  refine tka (v:=?_) 6 14 rfl rfl hHeld (Or.inl ⟨by rfl,?_⟩) rfl ?_
  rotate_left
  · intro wq hSw
    go_simp
    try with_reducible rfl
  simp only[ts0,ts1]
  refine tka (v:=?_) 7 15 rfl rfl hHeld (Or.inl ⟨by rfl,?_⟩) rfl ?_
  rotate_left
  · intro wq hSw
    go_simp
    try with_reducible rfl
  simp only[ts0,ts1]
  refine tka (v:=?_) 8 6 rfl rfl hHeld (Or.inl ⟨by rfl,?_⟩) rfl ?_
  rotate_left
  · intro wq hSw
    go_simp
    try with_reducible rfl
  simp only[ts0,ts1]
  refine tka (v:=?_) 9 7 rfl rfl hHeld (Or.inl ⟨by rfl,?_⟩) rfl ?_
  rotate_left
  · intro wq hSw
    go_simp
    try with_reducible rfl
  simp only[ts0,ts1]
  refine wpAnyH_done (by kernel_rfl) ?_ _
  have c32:ws.cell? ⟨w.heap.size,32,none⟩=some (.int .i64 p.2):=hPs.cell_at (by
    rw[List.getElem?_toArray]
    unfold ptCells
    rw[List.getElem?_append_right (by rw[blist_length,hp.1];exact Nat.le_refl _),blist_length,hp.1]
    rfl)
  have hNs:=hN.below hBs
  cases hf:Gr.find N p.1 with
  | none=>
    have e1:o=false:=by rw[HX.out.2.1,HX.out.1,Gr.look_ents,hf];rfl
    have e2:Gr.maker N p=none:=by unfold Gr.maker;rw[hf];rfl
    rw[e2] at hR
    subst hR
    subst e1
    clear hf HX e2
    go_upto_region 2 with fail
    go_quiet (fail)
    go_wp2
    go_ret2
    exact⟨rfl,below_draws hBs _⟩
  | some y=>
    have e1:o=true:=by rw[HX.out.2.1,HX.out.1,Gr.look_ents,hf];rfl
    have e3:x=.pointer (some ⟨y.g,0,none⟩):=by rw[HX.out.2.2,HX.out.1,Gr.look_ents,hf];rfl
    have hy:=(hNs.nd y (Gr.find_mem hf).1).co
    subst e1
    subst e3
    by_cases h0:p.2<0
    · have e2:Gr.maker N p=none:=by
        cases hq:Gr.maker N p with
        | none=>rfl
        | some z=>have:=(Gr.maker_some.1 hq).2.1;omega
      rw[e2] at hR
      subst hR
      clear e2 HX hf
      go_upto_region 2 with fail
      go_quiet (fail)
      go_wp2
      go_ret2
      exact⟨rfl,below_draws hBs _⟩
    · have h0b:decide (p.2<0)=false:=decide_eq_false h0
      have hl0:(0:Int)≤p.2:=by omega
      by_cases hlt:p.2<(y.x.m:Int)
      · have e2:Gr.maker N p=some y:=Gr.maker_some.2 ⟨hf,hl0,hlt⟩
        have hgb:decide ((y.x.m:Int)≤p.2)=false:=decide_eq_false (by omega)
        rw[e2] at hR
        subst hR
        clear e2 HX hf
        go_upto_region 2 with fail
        go_quiet (fail)
        go_wp2
        go_ret2
        exact⟨rfl,below_draws hBs _⟩
      · have e2:Gr.maker N p=none:=by
          cases hq:Gr.maker N p with
          | none=>rfl
          | some z=>
            have h3:=Gr.maker_some.1 hq
            rw[hf] at h3
            injection h3.1 with h4
            subst h4
            exact absurd h3.2.2 hlt
        have hge:(y.x.m:Int)≤p.2:=by omega
        rw[e2] at hR
        subst hR
        clear e2 HX hf
        go_upto_region 2 with fail
        go_quiet (fail)
        go_wp2
        go_ret2
        exact⟨rfl,below_draws hBs _⟩
end Go.Proofs.YtijemcfnlbapjaaGreatDoor
namespace Go.Proofs.YtijemcfnlbapjaaGreatDoor
open Go Go.RowKit Go.ChangeShapes Go.WideShapes
open Go.Sort (Holds PermIn SortedIn putRow)
namespace Gr
def cmpI (x y:Int):Int:=if x<y then -1 else if y<x then 1 else 0
theorem cmpI_lt {x y:Int} : cmpI x y<0↔x<y:=by
  unfold cmpI
  by_cases h:x<y
  · simp[h]
  · by_cases h2:y<x
    · simp[h,h2]
    · simp[h,h2]
def ptrRec:Rec Nd where
  k:=1
  cells:=fun x=>[.pointer (some ⟨x.g,0,none⟩)]
  ok:=fun _=>True
  pos:=by omega
  len t _:=rfl
  one t v hv:=by rw[List.mem_singleton.1 hv];rfl
theorem ptr_row (L:List Nd):ptrRec.row L=L.map fun x=>Value.pointer (some ⟨x.g,0,none⟩):=by
  induction L with
  | nil=>rfl
  | cons x L ih=>
    show ptrRec.cells x++ptrRec.row L=_
    rw[ih]
    rfl
end Gr
set_option maxHeartbeats 2000000 in
theorem gnani_no (x:Int) (w:World):Calls Tryz.prog 112 #[.int .i64 x] w fun e w'=>e=.returned (.bool false)∧w=w':=by
  go_enter Tryz.func112,Tryz.ntmps112
  go_wp2
  go_ret
  exact⟨by simp,rfl⟩
set_option maxHeartbeats 2000000 in
theorem gcmpi_any (x y:Int) (w:World):Calls Tryz.prog 95 #[.int .i64 x,.int .i64 y] w fun e w'=>e=.returned (.int .i64 (Gr.cmpI x y))∧w=w':=by
  obtain⟨r,hr⟩:∃ r,r=Gr.cmpI x y:=⟨_,rfl⟩
  rw[← hr]
  rcases Int.lt_trichotomy x y with h | h | h
  · have HE:=Lib.hid (show r=-1 by rw[hr,Gr.cmpI,if_pos h])
    clear hr
    go_enter Tryz.func95,Tryz.ntmps95
    go_wp2_with (first
      | (go_at_call 112;(with_reducible refine(gnani_no y _).mono ?_);rintro e wk ⟨rfl,rfl⟩)
      | (go_at_call 112;(with_reducible refine(gnani_no x _).mono ?_);rintro e wk ⟨rfl,rfl⟩))
    go_ret
    exact⟨by rw[HE.out];rfl,rfl⟩
  · have HE:=Lib.hid (show r=0 by rw[hr,Gr.cmpI,if_neg (by omega),if_neg (by omega)])
    have h1:¬ x<y:=by omega
    have h2:¬ y<x:=by omega
    clear hr
    go_enter Tryz.func95,Tryz.ntmps95
    go_wp2_with (first
      | (go_at_call 112;(with_reducible refine(gnani_no y _).mono ?_);rintro e wk ⟨rfl,rfl⟩)
      | (go_at_call 112;(with_reducible refine(gnani_no x _).mono ?_);rintro e wk ⟨rfl,rfl⟩))
    go_ret
    exact⟨by rw[HE.out];rfl,rfl⟩
  · have HE:=Lib.hid (show r=1 by rw[hr,Gr.cmpI,if_neg (by omega),if_pos h])
    have h1:¬ x<y:=by omega
    clear hr
    go_enter Tryz.func95,Tryz.ntmps95
    go_wp2_with (first
      | (go_at_call 112;(with_reducible refine(gnani_no y _).mono ?_);rintro e wk ⟨rfl,rfl⟩)
      | (go_at_call 112;(with_reducible refine(gnani_no x _).mono ?_);rintro e wk ⟨rfl,rfl⟩))
    go_ret
    exact⟨by rw[HE.out];rfl,rfl⟩
set_option maxHeartbeats 4000000 in
theorem gless_any (x y:Gr.Nd) (w:World) (cx:w.cell? ⟨x.g,37,none⟩=some (.int .i64 x.pl)) (cy:w.cell? ⟨y.g,37,none⟩=some (.int .i64 y.pl)) :
    Calls Tryz.prog 94 #[.pointer (some ⟨x.g,0,none⟩),.pointer (some ⟨y.g,0,none⟩)] w fun e w'=>e=.returned (.int .i64 (Gr.cmpI x.pl y.pl))∧∃ q,w'=w.drewN q:=by
  have HC:∀ W:World,Calls Tryz.prog 95 #[.int .i64 x.pl,.int .i64 y.pl] W fun e w'=>e=.returned (.int .i64 (Gr.cmpI x.pl y.pl))∧w'=W:=fun W=>(gcmpi_any x.pl y.pl W).mono fun _ _ h=>⟨h.1,h.2.symm⟩
  obtain⟨r,hr⟩:∃ r,r=Gr.cmpI x.pl y.pl:=⟨_,rfl⟩
  rw[← hr] at HC ⊢
  clear hr
  go_enter Tryz.func94,Tryz.ntmps94
  go_upto_region 1 with fail
  go_quiet (first | (go_at_call 95;refine Calls.quiet_of_same (HC _)))
  go_wp2
  go_ret
  exact⟨rfl,_,rfl⟩
theorem gsort_below {α:Type} [Inhabited α] {enc:α→Value} {B g n:Nat} {w:World} {d:Array α} {os:Array Obj} (hg:B≤g) (hlt:g<w.heap.size):Below B w (sortWorld enc w g 0 n d os):=by
  refine⟨rfl,rfl,rfl,?_,fun k hk=>?_⟩
  · unfold sortWorld
    rw[Go.Sort.size_grow,Go.Sort.size_putRow]
    show w.heap.size≤w.heap.size+_
    omega
  · show(((Go.Sort.ahead w n).heap.modify g _)++os)[k]? = w.heap[k]?
    rw[Array.getElem?_append_left (by rw[Array.size_modify];show k<w.heap.size;omega),Array.getElem?_modify,if_neg (by omega)]
    rfl
theorem sortNd0:Go.Proofs.SlLaysF0.n6 Tryz.prog sortNd_ren:={ sortNd with }
set_option maxHeartbeats 2000000 in
theorem gsort_any {w:World} {B:Nat} {v:Value} {L:List Gr.Nd} (ho:OwnR Gr.ptrRec 104 B w v L) (hn:L.length≤1000000000) (hpl:∀ x,x∈L→w.cell? ⟨x.g,37,none⟩=some (.int .i64 x.pl)) (hg:∀ x,x∈L→x.g<B) (hd:(L.map (·.pl)).Nodup) :
    Calls Tryz.prog 93 #[v,.func (.func 94) #[] #[]] w fun e w'=>e=.returned (.tuple #[])∧∃ L':List Gr.Nd,L'.Perm L∧L'.Pairwise (fun x y=>x.pl<y.pl)∧OwnR Gr.ptrRec 104 B w' v L'∧Below B w w':=by
  have hok:=ho.1
  rcases ho.2.2 with⟨rfl,h0⟩ | ⟨g,cap,cur,rfl,hgB,hgb,hnc,hcm,hcs,hct⟩
  · obtain rfl:=List.length_eq_zero_iff.1 h0
    refine(AnyF.slices_SortFunc_none sortNd0 none 0 (.func (.func 94) #[] #[]) w).mono fun e w' ⟨he,hw⟩=>⟨he,[],List.Perm.refl _,List.Pairwise.nil,OwnR.nil _ _ _ _,?_⟩
    rw[hw]
    exact Below.refl _ _
  · have hgl:g<w.heap.size:=(Array.getElem?_eq_some_iff.1 hgb).1
    by_cases hL0:L=[]
    · subst hL0
      refine(AnyF.slices_SortFunc_none sortNd0 _ cap (.func (.func 94) #[] #[]) w).mono fun e w' ⟨he,hw⟩=>⟨he,[],List.Perm.refl _,List.Pairwise.nil,by rw[hw];exact ho,by rw[hw];exact Below.refl _ _⟩
    obtain⟨x0,hx0⟩:=List.exists_mem_of_ne_nil L hL0
    haveI:Inhabited { x:Gr.Nd // x∈L }:=⟨⟨x0,hx0⟩⟩
    obtain⟨enc,henc⟩:∃ enc:{ x:Gr.Nd // x∈L }→Value,enc=fun x=>.pointer (some ⟨x.1.g,0,none⟩):=⟨_,rfl⟩
    obtain⟨cf,hcf⟩:∃ cf:{ x:Gr.Nd // x∈L }→{ x:Gr.Nd // x∈L }→Int,cf=fun x y=>Gr.cmpI x.1.pl y.1.pl:=⟨_,rfl⟩
    have hlt:∀ x y,ltOf cf x y=true↔x.1.pl<y.1.pl:=fun x y=>by
      unfold ltOf
      rw[decide_eq_true_eq,hcf]
      show Gr.cmpI x.1.pl y.1.pl<0↔_
      rw[Gr.cmpI_lt]
      omega
    have hltf:∀ x y,ltOf cf x y=false↔¬ x.1.pl<y.1.pl:=fun x y=>by rw[← hlt,Bool.not_eq_true]
    have hO:Go.Sort.SWO (ltOf cf):=⟨fun x=>(hltf x x).2 (by omega),fun x y z h1 h2=>(hlt x z).2 (by have:=(hlt x y).1 h1;have:=(hlt y z).1 h2;omega),fun x y z h1 h2=>(hltf x z).2 (by have:=(hltf x y).1 h1;have:=(hltf y z).1 h2;omega)⟩
    obtain⟨dl,hdl⟩:∃ dl:List { x:Gr.Nd // x∈L },dl=L.attach:=⟨_,rfl⟩
    have hdm:dl.map (·.1)=L:=by rw[hdl];exact List.attach_map_subtype_val L
    have hds:dl.toArray.size=L.length:=by rw[List.size_toArray,hdl,List.length_attach]
    have hdg:∀ i,i<L.length→∃ x,dl[i]? = some x∧L[i]? = some x.1:=fun i hi=>by
      have h9:i<dl.length:=by rw[← List.size_toArray,hds];exact hi
      refine⟨dl[i],List.getElem?_eq_getElem h9,?_⟩
      have e:L[i]? = (dl.map (·.1))[i]?:=by rw[hdm]
      rw[e,List.getElem?_map,List.getElem?_eq_getElem h9]
      rfl
    have hone:OneCell enc:=fun x=>by rw[henc];rfl
    have hH:Holds enc w g 0 dl.toArray:=fun j hj=>by
      rw[hds] at hj
      obtain⟨x,hx,hLx⟩:=hdg _ hj
      have hc:w.cell? ⟨g,0+j,none⟩=cur[j]?:=by
        rw[Nat.zero_add]
        unfold World.cell?
        rw[hgb]
        rfl
      refine⟨?_,?_⟩
      · have e1:cur[j]? = (Gr.ptrRec.row L)[j]?:=by
          rw[← hct,List.getElem?_take,if_pos (by show j<L.length*1;omega),Array.getElem?_toList]
        rw[hc,e1,Gr.ptr_row,List.getElem?_map,hLx]
        have e3:dl.toArray[j]! = x:=by
          rw[getElem!_def,List.getElem?_toArray,hx]
        rw[e3,henc]
        rfl
      · have hh:Has w g 104 cur:=hgb
        rw[Nat.zero_add]
        exact hh.loose j
    have hcmp:CmpLays1 Tryz.prog 94 #[] enc cf g 0 dl.toArray.size w:=fun m os dk hdk x y=>by
      have hb:Below B w (sortWorld enc w g 0 m dk os):=gsort_below hgB hgl
      have cc:∀ z:{ x:Gr.Nd // x∈L },(sortWorld enc w g 0 m dk os).cell? ⟨z.1.g,37,none⟩=some (.int .i64 z.1.pl):=fun z=>by
        rw[hb.cell (hg _ z.2)]
        exact hpl _ z.2
      rw[henc,hcf]
      refine(gless_any x.1 y.1 _ (by have:=cc x;rw[henc] at this;exact this) (by have:=cc y;rw[henc] at this;exact this)).mono fun e w' ⟨he,q,hq⟩=>⟨he,q,#[],by rw[hq,Go.Sort.grow_empty]⟩
    have hS:=Any.slices_SortFunc sortNd enc hone cf hO 94 #[] g 0 cap dl.toArray w (enters_of Tryz.func94 (by kernel_rfl) rfl) hcmp hH hgl (by rw[hds];omega)
    rw[hds] at hS
    refine hS.mono fun e w' ⟨he,d',n,os,hp,hs,hw⟩=>?_
    have hsz:d'.size=L.length:=hp.1.trans hds
    have hperm:d'.toList.Perm dl:=by
      have h6:=hp.2.2
      rw[← hsz,Array.extract_size] at h6
      rw[hsz,← hds,Array.extract_size] at h6
      simpa using h6
    have hPL:(d'.toList.map (·.1)).Perm L:=by
      have h1:=hperm.map (·.1)
      rw[hdm] at h1
      exact h1
    have hND:((d'.toList.map (·.1)).map (·.pl)).Nodup:=(hPL.map _).nodup_iff.2 hd
    have hHw:Holds enc w' g 0 d':=by
      rw[hw]
      exact holds_sortWorld enc w g 0 n dl.toArray d' os hgl hH hp.1
    have hblk:w'.heap[g]? = some (.cells (Go.Sort.putCells enc 0 d' cur) 104 (0,0)):=by
      rw[hw]
      show(((Go.Sort.ahead w n).heap.modify g _)++os)[g]? = _
      rw[Array.getElem?_append_left (by rw[Array.size_modify];exact hgl),Array.getElem?_modify,if_pos rfl]
      show Option.map _ (w.heap[g]?)=_
      rw[hgb]
      rfl
    have hll:(d'.toList.map (·.1)).length=L.length:=by rw[List.length_map,Array.length_toList];exact hsz
    have hcs1:cur.size=cap:=by rw[hcs];exact Nat.mul_one cap
    refine⟨he,d'.toList.map (·.1),hPL,?_,⟨(fun _ _=>trivial),by rw[Gr.ptr_row,List.length_map];exact(Nat.mul_one _).symm,.inr ⟨g,cap,_,by rw[hll],hgB,hblk,by rw[hll];exact hnc,hcm,by rw[← hcs];exact Array.size_mapIdx,?_⟩⟩,?_⟩
    · rw[List.pairwise_iff_getElem]
      intro i j hi hj hij
      rw[List.length_map,Array.length_toList] at hi hj
      have h5:=(hltf _ _).1 (hs i j (Nat.zero_le _) hij (by omega))
      rw[getElem!_pos d' j hj,getElem!_pos d' i hi] at h5
      have h3:=List.pairwise_iff_getElem.1 hND i j (by simpa using hi) (by simpa using hj) hij
      simp only[List.getElem_map,Array.getElem_toList] at h3 ⊢
      omega
    · rw[hll,Gr.ptr_row]
      apply List.ext_getElem?
      intro j
      rw[List.getElem?_take,Array.getElem?_toList,List.getElem?_map,List.getElem?_map,Array.getElem?_toList]
      by_cases hj:j<L.length
      · rw[if_pos (by show j<L.length*1;omega)]
        unfold Go.Sort.putCells
        rw[Array.getElem?_mapIdx,Array.getElem?_eq_getElem (show j<cur.size by omega),Array.getElem?_eq_getElem (show j<d'.size by omega)]
        show some (if 0≤j∧j<0+d'.size then enc d'[j-0]! else _)=_
        rw[if_pos ⟨Nat.zero_le _,by omega⟩,Nat.sub_zero,getElem!_pos d' j (by omega),henc]
        rfl
      · rw[if_neg (by show ¬ j<L.length*1;omega),Array.getElem?_eq_none (by omega)]
        rfl
    · rw[hw]
      exact gsort_below hgB hgl
end Go.Proofs.YtijemcfnlbapjaaGreatDoor
namespace Go.Proofs.YtijemcfnlbapjaaGreatDoor
open Go Go.RowKit Go.ChangeShapes Go.WideShapes
theorem fold_row:∀ (l pre b r:List Value),b.length=l.length→(l.zipIdx pre.length).foldl (fun acc (p:Value×Nat)=>acc.setIfInBounds (0+p.2) p.1) (pre++b++r).toArray=(pre++l++r).toArray
  | [],pre,b,r,hb=>by
    obtain rfl:=List.length_eq_zero_iff.1 hb
    rfl
  | v :: l,pre,[],r,hb=>by cases hb
  | v :: l,pre,b0 :: b,r,hb=>by
    rw[List.zipIdx_cons,List.foldl_cons]
    have e:(pre++b0 :: b++r).toArray.setIfInBounds (0+pre.length) v=((pre++[v])++b++r).toArray:=by
      rw[List.setIfInBounds_toArray,Nat.zero_add]
      congr 1
      simp
    have ih:=fold_row l (pre++[v]) b r (by simpa using hb)
    rw[List.length_append] at ih
    simp only
    rw[e]
    rw[show pre.length+[v].length=pre.length+1 from rfl] at ih
    rw[ih]
    simp
theorem fill_row {k:Nat} (cs zs:Array Value) (hc:cs.size=k) (hz:zs.size=k):Instr.fill (fun i=>some (i*k,k)) zs [(0,.agg cs)]=some cs:=by
  have h:=fold_row cs.toList [] zs.toList [] (by rw[Array.length_toList,Array.length_toList,hc,hz])
  have hcc:(Value.agg cs).cells=cs:=rfl
  unfold Instr.fill
  simp only[Nat.zero_mul,hcc,hc,hz,ne_eq,not_true_eq_false,Nat.zero_add,gt_iff_lt,Nat.lt_irrefl,decide_false,Bool.or_self,Bool.false_eq_true,if_false]
  unfold Instr.fill
  congr 1
  rw[← Array.foldl_toList,Array.toList_zipIdx]
  simpa using h
theorem run_build_row {P:Program} {t T:TypeId} {z:Array Value} {k by_:Nat} (ht:P.underlying t=some (.slice T)) (hi:(P.info? T).map (fun i=>(i.zero,i.size,i.bytes))=some (some (.agg z),k,by_)) (hk:0<k) (hk2:k≤16777216) (cs:Array Value) (hc:cs.size=k) (w:World) :
    (Instr.buildSlice t 1 #[(0,.agg cs)]).run P w=.ok (.slice (some ⟨w.heap.size,0,none⟩) 1 1) (w.alloc (.cells cs T)):=by
  obtain⟨i0,hi0,hz0,hz1,hz2⟩:=info_parts hi
  have hf:=fill_row cs ((Array.range (1*k)).map (z[·%z.size]!)) hc (by simp)
  have hz:(Value.agg z).cells=z:=rfl
  have hne:¬ k=0:=by omega
  have hgt:¬ 16777216<k:=by omega
  simp at hf
  simp[Instr.buildSlice,Sem.run_bind,run_underlying ht,sizeOf,typeInfo,zeroValue,hi0,hz0,hz1,hz,newRow,hf,hne,hgt]
theorem wpList_build_row {P:Program} {w:World} {ops:Array Oper} {rest:List Oper} {o:Oper} {a:Act} {Q:Exit→Act→World→Prop} (hgd:o.guard=none) (x:Operand) (t:TypeId) (ho:o.op=.buildSlice t 1 #[(0,x)])
    (T:TypeId) {z:Array Value} {k by_:Nat} (ht:P.underlying t=some (.slice T)) (hi:(P.info? T).map (fun i=>(i.zero,i.size,i.bytes))=some (some (.agg z),k,by_)) (hk:0<k) (hk2:k≤16777216) (cs:Array Value) (hc:cs.size=k) (hx:a.eval x=.agg cs)
    (h:wpList P ops Q rest (a.put o.dst (.slice (some ⟨w.heap.size,0,none⟩) 1 1)) (w.alloc (.cells cs T))):wpList P ops Q (o :: rest) a w:=
  wpList_plain hgd fun K hK=>by
    have hr:=run_build_row (P:=P) ht hi hk hk2 cs hc w
    unfold Oper.wp execOp
    simp only[ho,List.map_toArray,List.map_cons,List.map_nil,hx,Sem.run_bind,Sem.run_pure,Result.andThen_ok,hr]
    exact hK _ _ h
end Go.Proofs.YtijemcfnlbapjaaGreatDoor
namespace Go.Proofs.YtijemcfnlbapjaaGreatDoor
open Go Go.RowKit Go.ChangeShapes Go.WideShapes
namespace Gr
def hsRec:Rec (List (BitVec 8)) where
  k:=32
  cells:=fun l=>blist l
  ok:=fun l=>l.length=32
  pos:=by omega
  len t h:=by rw[blist_length,h]
  one t v hv:=blist_one _ v hv
theorem info_hs:(Tryz.prog.info? 46).map (fun i=>(i.zero,i.size,i.bytes))=some (some (.agg z32),hsRec.k,32):=by kernel_rfl
theorem info_nd:(Tryz.prog.info? 104).map (fun i=>(i.zero,i.size,i.bytes))=some (some (.pointer none),ptrRec.k,8):=by kernel_rfl
theorem hs_fresh {w:World} {l:List (BitVec 8)} (hl:l.length=32):Recs hsRec (w.alloc (.cells (blist l).toArray 46)) (some ⟨w.heap.size,0,none⟩) 1 [l]:=
  ⟨rfl,by unfold maxLen;omega,(fun t ht=>by rw[List.mem_singleton.1 ht];exact hl),fun i t hi=>⟨_,rfl,fun j v hv=>by
    have hi0:i=0:=by
      have:=(List.getElem?_eq_some_iff.1 hi).1
      simpa using this
    subst hi0
    obtain rfl:l=t:=by simpa using hi
    rw[Addr.add_lit]
    have hH:Has (w.alloc (.cells (blist l).toArray 46)) w.heap.size 46 (blist l).toArray:=Has.fresh _ _ _
    rw[hH.cell,List.getElem?_toArray,show 0+(0*hsRec.k+j)=j by omega]
    exact hv⟩⟩
theorem ptr_fresh {w:World} (x:Nd):Recs ptrRec (w.alloc (.cells #[.pointer (some ⟨x.g,0,none⟩)] 104)) (some ⟨w.heap.size,0,none⟩) 1 [x]:=
  ⟨rfl,by unfold maxLen;omega,(fun _ _=>trivial),fun i t hi=>⟨_,rfl,fun j v hv=>by
    have hi0:i=0:=by
      have:=(List.getElem?_eq_some_iff.1 hi).1
      simpa using this
    subst hi0
    obtain rfl:x=t:=by simpa using hi
    rw[Addr.add_lit]
    have hH:Has (w.alloc (.cells #[.pointer (some ⟨x.g,0,none⟩)] 104)) w.heap.size 104 #[.pointer (some ⟨x.g,0,none⟩)]:=Has.fresh _ _ _
    rw[hH.cell,show 0+(0*ptrRec.k+j)=j by omega,List.getElem?_toArray]
    exact hv⟩⟩
end Gr
theorem moved_below {B:Nat} {w w':World} (h:Below B w w'):Moved (fun k=>B≤k) w w':=⟨h.os,h.tape,h.output,h.size,fun k _ hk=>h.block k (by omega)⟩
theorem Gr.ents_split {R:List Gr.Nd} {l1 l2:List (List (BitVec 8)×Option Nat)} {x:List (BitVec 8)×Option Nat} (h:Gr.ents R=l1++x :: l2):∃ R1 y R2,R=R1++y :: R2∧l1=Gr.ents R1∧x=(y.id,some y.g)∧l2=Gr.ents R2:=by
  obtain⟨R1,R',rfl,h1,h2⟩:=List.map_eq_append_iff.1 h
  obtain⟨y,R2,rfl,h3,h4⟩:=List.map_eq_cons_iff.1 h2
  exact⟨R1,y,R2,rfl,h1.symm,h3.symm,h4.symm⟩
section
variable {w:World} {ops:Array Oper} {rest:List Oper} {o:Oper} {a:Act} {Q:Exit→Act→World→Prop} {M:List (List (BitVec 8)×Option Nat)} {R:List Gr.Nd} {b r:Nat}
theorem wpList_next_nd (hg:o.guard=none) (it:Operand) (hop:o.op=Op.next it false) (hit:a.eval it=.pointer (some ⟨r,0,none⟩)) (h:RangeG Gr.dH w b r M (Gr.ents R))
    (hDone:R=[]→wpList Tryz.prog ops Q rest (a.put o.dst (.tuple #[.bool false])) w)
    (hMore:∀ (R1 R2:List Gr.Nd) (y:Gr.Nd) (w':World),R=R1++y :: R2→RangeG Gr.dH w' b r M (Gr.ents (R1++R2))→Moved (fun j=>j=r) w w'→(Instr.entry (.pointer (some ⟨r,0,none⟩))).run Tryz.prog w'=.ok (.tuple #[.agg (blist y.id).toArray,.pointer (some ⟨y.g,0,none⟩)]) w'→
      wpList Tryz.prog ops Q rest (a.put o.dst (.tuple #[.bool true,.agg (blist y.id).toArray,.pointer (some ⟨y.g,0,none⟩)])) w'):wpList Tryz.prog ops Q (o :: rest) a w:=by
  refine wpList_next_g (D:=Gr.dH) hg it hop hit h (fun e=>hDone (List.map_eq_nil_iff.1 e)) (fun l1 l2 x w' hl h1 h2 h3=>?_)
  obtain⟨R1,y,R2,hR,rfl,rfl,rfl⟩:=Gr.ents_split hl
  exact hMore R1 R2 y w' hR (by rw[Gr.ents,List.map_append];exact h1) h2 h3
end
set_option maxRecDepth 100000 in
set_option maxHeartbeats 8000000 in
theorem ginorder_any {w:World} {b:Nat} {L:List Gr.Nd} (h:Gr.GrpAt w b L) (hl:L.length≤1000000) (hd:(L.map (·.pl)).Nodup) :
    Calls Tryz.prog 77 #[.map (some b)] w fun e w'=>∃ v L',e=.returned v∧OwnR Gr.ptrRec 104 w.heap.size w' v L'∧L'.Perm L∧L'.Pairwise (fun x y=>x.pl<y.pl)∧Below w.heap.size w w':=by
  have HH:=Lib.hid h
  have HL:=Lib.hid hl
  have HD:=Lib.hid hd
  have hm:=h.map
  obtain⟨M,hM⟩:∃ M,M=Gr.ents L:=⟨_,rfl⟩
  rw[← hM] at hm
  have HM:=Lib.hid hM
  clear h hl hd hM
  go_enter Tryz.func77,Tryz.ntmps77
  go_wp2_with (at_range;refine wpList_range_g (D:=Gr.dH) rfl (.tmp 6) rfl rfl hm ?_;intro w1 hr1 hb1)
  have hlt1:=hr1.lt.2
  obtain⟨r,hr⟩:∃ r,r=w.heap.size:=⟨_,rfl⟩
  have HR:=Lib.hid hr
  rw[← hr] at hr1 hlt1 ⊢
  have hO1:RowKit.Hid (OwnR Gr.ptrRec 104 w1.heap.size w1 (.slice none 0 0) []):=Lib.hid (OwnR.nil _ _ _ _)
  have H1:=Lib.hid (And.intro hr1 hb1)
  clear hr hr1
  simp only[Act.put,List.setIfInBounds_toArray,ts0,ts1]
  go_loopg [3] L.length (fun k sv wr=>∃ (ov:Value) (K R:List Gr.Nd),k=R.length∧ov=sv∧RowKit.Hid ((K++R).Perm L)∧RowKit.Hid (RangeG Gr.dH wr b r M (Gr.ents R))∧RowKit.Hid (OwnR Gr.ptrRec 104 w1.heap.size wr ov K)∧Below w.heap.size w wr∧w1.heap.size≤wr.heap.size)
  case atStart=>exact⟨_,[],L,rfl,rfl,Lib.hid (List.Perm.refl _),Lib.hid (by rw[← HM.out];exact H1.out.1),hO1,H1.out.2,Nat.le_refl _⟩
  case round=>
    obtain⟨ov,K,R,hk,rfl,HP,HRG,HO,hb,hs⟩:=hrel
    rcases R with _ | ⟨y0,R0⟩
    · have hrg:=HRG.out
      have HB:=Lib.hid hb
      have HS:=Lib.hid hs
      have HP2:=Lib.hid (show K.Perm L by have:=HP.out;rwa [List.append_nil] at this)
      have h1w:w.heap.size≤w1.heap.size:=H1.out.2.size
      have HG:=Lib.hid (gsort_any HO.out (by rw[HP2.out.length_eq];have:=HL.out;omega)
        (fun x hx=>((HH.out.nd x (HP2.out.subset hx)).below hb).pl)
        (fun x hx=>Nat.lt_of_lt_of_le (HH.out.nd x (HP2.out.subset hx)).has.lt h1w)
        ((HP2.out.map _).nodup_iff.2 HD.out))
      clear hk HRG HP hb hs hb1 H1 hO1
      go_wp2_with (first
        | (go_at_call 93;refine HG.out.mono ?_;rintro e w5 ⟨rfl,L',hpl,hpw,ho5,hb5⟩)
        | (at_next;refine wpList_next_nd rfl (.tmp 7) rfl rfl hrg (fun _=>?_) (fun R1 R2 y w' e=>absurd e (by simp))))
      go_ret
      exact⟨ov,L',rfl,ho5.low h1w,hpl.trans HP2.out,hpw,HB.out.trans (hb5.mono h1w)⟩
    · have hrg:=HRG.out
      have hwr:w.heap.size≤wr.heap.size:=hb.size
      have HB:=Lib.hid hb
      have HS:=Lib.hid hs
      have HLN:=Lib.hid (show K.length+(y0 :: R0).length≤1000000 by have:=HP.out.length_eq;rw[List.length_append] at this;have:=HL.out;omega)
      have HKK:=Lib.hid hk
      clear hk HRG hb hs hb1 hO1
      go_wp2_with (first
        | (at_builtin;refine wpList_append_recs (R:=Gr.ptrRec) rfl (.tmp 12) (.tmp 14) 122 rfl 104 Tryz.underlying122 Gr.info_nd rfl (by decide) w1.heap.size ov _ rfl (hO2.below ((Below.refl _ _).alloc (Nat.le_refl _) _)) (some ⟨w2.heap.size,0,none⟩) 1 1 [y] rfl (Gr.ptr_fresh y) (fun e=>by cases e) (by have:=HLN.out;omega) (by have:=HS2.out;simp;omega) ?_;intro v' w3 ho3 hg3 hl3)
        | (refine wpList_entry_g rfl (.tmp 7) rfl rfl he2 ?_)
        | (at_next;refine wpList_next_nd rfl (.tmp 7) rfl rfl hrg (fun e=>absurd e (by simp)) ?_;intro R1 R2 y w2 hR hr2 hm2 he2;have hO2:=HO.out.moved hm2 (fun k hk e=>by have:=HO.out.lt k hk;omega);have HS2:=Lib.hid (show w1.heap.size≤w2.heap.size by have:=hm2.size;have:=HS.out;omega);have HR2:=Lib.hid hR;have HM2:=Lib.hid (And.intro hr2 hm2);clear hR hr2 hm2))
      have hb3:Below w1.heap.size w2 w3:=((Below.refl w1.heap.size w2).alloc HS2.out _).grown hg3 (by have:=HS2.out;simp;omega) hO2.lt
      have hblt:b<w1.heap.size:=H1.out.1.lt.1
      have hR3:RangeG Gr.dH w3 b r M (Gr.ents (R1++R2)):=HM2.out.1.moved (F:=fun k=>w1.heap.size≤k) (moved_below hb3) (by omega) (by omega)
      have hb4:Below w.heap.size w w3:=(HB.out.trans (HM2.out.2.below (fun k hk=>by have:=HR.out;omega) hwr)).trans (hb3.mono H1.out.2.size)
      have hp3:((K++[y])++(R1++R2)).Perm L:=by
        refine List.Perm.trans ?_ HP.out
        rw[HR2.out,List.append_assoc]
        show(K++(y :: (R1++R2))).Perm _
        exact List.Perm.append_left K List.perm_middle.symm
      have hlen:(R1++R2).length<gk:=by rw[HKK.out,HR2.out];simp
      have h31:w1.heap.size≤w3.heap.size:=by have:=hb3.size;have:=HS2.out;omega
      clear hO2 hg3 hl3 he2 hb3 hrg
      go_roundg (R1++R2).length
      case measure=>exact hlen
      case rel=>exact⟨v',K++[y],R1++R2,rfl,rfl,Lib.hid hp3,Lib.hid hR3,Lib.hid ho3,hb4,h31⟩
theorem Gr.own_shape {B:Nat} {w:World} {v:Value} {L:List Gr.Nd} (h:OwnR Gr.ptrRec 104 B w v L):∃ (a:Option Addr) (c:Nat),v=.slice a L.length c∧∀ (i:Nat) (y:Gr.Nd),L[i]? = some y→∃ g,a=some ⟨g,0,none⟩∧B≤g∧g<w.heap.size∧w.cell? ⟨g,i,none⟩=some (.pointer (some ⟨y.g,0,none⟩)):=by
  rcases h.2.2 with⟨rfl,h0⟩ | ⟨g,cap,cur,rfl,hgB,hgb,hnc,hcm,hcs,hct⟩
  · obtain rfl:=List.length_eq_zero_iff.1 h0
    exact⟨none,0,rfl,fun i y hy=>by simp at hy⟩
  · refine⟨_,cap,rfl,fun i y hy=>⟨g,rfl,hgB,(Array.getElem?_eq_some_iff.1 hgb).1,?_⟩⟩
    have hil:i<L.length:=(List.getElem?_eq_some_iff.1 hy).1
    have hH:Has w g 104 cur:=hgb
    refine hH.cell_at ?_
    have e:(cur.toList.take (L.length*1))[i]? = (Gr.ptrRec.row L)[i]?:=by rw[← hct];rfl
    rw[List.getElem?_take,if_pos (by omega),Array.getElem?_toList,Gr.ptr_row,List.getElem?_map,hy] at e
    exact e
set_option maxRecDepth 100000 in
set_option maxHeartbeats 8000000 in
theorem gids_any {w:World} {b:Nat} {L:List Gr.Nd} (h:Gr.GrpAt w b L) (hl:L.length≤1000000) (hd:(L.map (·.pl)).Nodup) :
    Calls Tryz.prog 67 #[.map (some b)] w fun e w'=>∃ (v:Value) (L':List Gr.Nd),e=.returned v∧OwnR Gr.hsRec 46 w.heap.size w' v (L'.map (·.id))∧L'.Perm L∧L'.Pairwise (fun x y=>x.pl<y.pl)∧Below w.heap.size w w':=by
  have HH:=Lib.hid h
  have HL:=Lib.hid hl
  have HI:=Lib.hid (ginorder_any h hl hd)
  clear h hl hd
  go_enter Tryz.func67,Tryz.ntmps67
  go_wp2_with (go_at_call 77;refine HI.out.mono ?_;rintro e w1 ⟨v,L',rfl,ho1,hp1,hw1,hb1⟩;obtain⟨a1,c1,rfl,hs1⟩:=Gr.own_shape ho1;obtain⟨n,hn⟩:∃ n,n=L'.length:=⟨_,rfl⟩;rw[← hn];have HN:=Lib.hid hn;clear hn)
  have hnmx:n≤9223372036854775807:=by rw[HN.out,hp1.length_eq];have:=HL.out;omega
  have HP:=Lib.hid (And.intro hp1 hw1)
  have HS:=Lib.hid hs1
  have H1:=Lib.hid hb1
  have hO0:RowKit.Hid (OwnR Gr.hsRec 46 w1.heap.size w1 (.slice none 0 0) ((L'.map (·.id)).take 0)):=Lib.hid (OwnR.nil _ _ _ _)
  clear hp1 hw1 hs1 hb1 ho1
  go_loopw [3,9] (fun sv iv wr=>∃ (i:Nat) (ov:Value),i≤n∧iv=.int .i64 i∧ov=sv∧RowKit.Hid (OwnR Gr.hsRec 46 w1.heap.size wr ov ((L'.map (·.id)).take i))∧Below w1.heap.size w1 wr) (fun _ iv _=>n-(intOf iv).toNat)
  case atStart=>exact⟨0,_,Nat.zero_le _,rfl,rfl,hO0,Below.refl _ _⟩
  case round=>
    clear hO0
    obtain⟨i,ov,hi,rfl,rfl,HO,hb⟩:=hrel
    by_cases hlt:i<n
    · have hii:(i:Int)<(n:Int):=by omega
      have hi0:(0:Int)≤(i:Int):=by omega
      obtain⟨y,hy⟩:∃ y,L'[i]? = some y:=⟨_,List.getElem?_eq_getElem (by have:=HN.out;omega)⟩
      obtain⟨g,rfl,hgB,hgl,hcell⟩:=HS.out i y hy
      have hcell:wr.cell? ⟨g,i,none⟩=some (.pointer (some ⟨y.g,0,none⟩)):=by rw[hb.cell hgl];exact hcell
      have hyM:y∈L:=HP.out.1.subset (List.mem_of_getElem? hy)
      have hbw:Below w.heap.size w wr:=H1.out.trans (hb.mono H1.out.size)
      have hnd:=(HH.out.nd y hyM).below hbw
      have lid:=hnd.lid
      have HYL:=Lib.hid hnd.id
      have HT:=Lib.hid (show(L'.map (·.id)).take (i+1)=(L'.map (·.id)).take i++[y.id] by
        have h1:(L'.map (·.id))[i]? = some y.id:=by rw[List.getElem?_map,hy];rfl
        obtain⟨h2,h3⟩:=List.getElem?_eq_some_iff.1 h1
        rw[List.take_succ_eq_append_getElem h2,h3])
      have HLN:=Lib.hid (show((L'.map (·.id)).take i).length=i by rw[List.length_take,List.length_map];have:=HN.out;omega)
      have HIN:=Lib.hid (show i<1000000 by have:=HN.out;have:=HP.out.1.length_eq;have:=HL.out;omega)
      have HB:=Lib.hid hb
      have hws:w1.heap.size≤wr.heap.size:=hb.size
      clear hy hyM hbw hnd hb
      go_wp2_with (first
        | (at_builtin;refine wpList_append_recs (R:=Gr.hsRec) rfl (.tmp 13) (.tmp 18) 30 rfl 46 Tryz.underlying30 Gr.info_hs (by kernel_rfl) (by decide) w1.heap.size ov _ rfl (HO.out.below ((Below.refl _ _).alloc (Nat.le_refl _) _)) (some ⟨wr.heap.size,0,none⟩) 1 1 [y.id] rfl (Gr.hs_fresh HYL.out) (fun e=>by cases e) (by rw[HLN.out];have:=HIN.out;omega) (by simp;omega) ?_;intro v' w3 ho3 hg3 hl3)
        | (refine wpList_build_row rfl (.tmp 17) 30 rfl 46 Tryz.underlying30 Gr.info_hs (by decide) (by decide) (blist y.id).toArray (by rw[List.size_toArray,blist_length,HYL.out];rfl) rfl ?_)
        | (refine wpList_load_run rfl 46 (.tmp 16) rfl _ _ rfl lid ?_))
      have hb3:Below w1.heap.size w1 w3:=(HB.out.alloc hws _).grown hg3 (by simp;omega) HO.out.lt
      have HO2:=Lib.hid (show OwnR Gr.hsRec 46 w1.heap.size w3 v' ((L'.map (·.id)).take (i+1)) by rw[HT.out];exact ho3)
      clear ho3 hg3 hl3 lid hcell
      go_roundw
      case rel=>exact⟨i+1,v',by omega,by go_num,rfl,HO2,hb3⟩
      case measure=>(simp[intOf];try omega)
    · have hii:¬ (i:Int)<(n:Int):=by omega
      obtain rfl:i=n:=by omega
      have HE:=Lib.hid (show(L'.map (·.id)).take i=L'.map (·.id) by rw[List.take_of_length_le (by rw[List.length_map];have:=HN.out;omega)])
      have HO2:=Lib.hid (show OwnR Gr.hsRec 46 w.heap.size wr ov (L'.map (·.id)) by rw[← HE.out];exact HO.out.low H1.out.size)
      clear HE HO
      go_wp2
      go_ret
      exact⟨ov,rfl,L',HO2.out,HP.out.1,HP.out.2,H1.out.trans (hb.mono H1.out.size)⟩
end Go.Proofs.YtijemcfnlbapjaaGreatDoor
