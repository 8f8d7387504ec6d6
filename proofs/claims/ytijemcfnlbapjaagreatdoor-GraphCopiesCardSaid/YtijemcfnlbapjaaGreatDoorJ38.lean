/- package graph: the library's copy of a map, laid for both maps; Copy (by hand, out of coins' XCtS) · package graph: Copy (mkgsp.py) · a nil graph's answers (by hand) · a nil group's range, its nodes and ids (by hand) · a nil graph's Rate of one id (by hand) -/
import Derived.Test.YtijemcfnlbapjaaGreatDoorJ22
import Derived.Shelf.SlMaps.Clone
import Derived.Test.YtijemcfnlbapjaaGreatDoorJ33
import Derived.Test.YtijemcfnlbapjaaGreatDoorJ36
import Derived.Laws.IdiomRangeMap
namespace Go.Proofs.YtijemcfnlbapjaaGreatDoor
open Go Go.RowKit Go.ChangeShapes Go.WideShapes
def mapsCloneH_ren:Go.Shelf.Ren:=⟨fun | 5=>70 | 7=>88 | n=>n,fun | 23=>90 | 25=>46 | 3=>104 | 4=>4 | 20=>20 | n=>n,fun | n=>n⟩
theorem mapsCloneH:Go.Proofs.SlLaysW.n5 Tryz.prog mapsCloneH_ren where
  mixed:=by kernel_rfl
  f5:=⟨ "maps.Clone[gossamer/graph.group,gossamer/api.Hash,*gossamer/graph.node]",by decide,Tryz.func70.trans (congrArg some (by kernel_rfl))⟩
  f7:=Tryz.func88.trans (congrArg some (by kernel_rfl))
  t4:=Tryz.underlying4
  a4:=Tryz.isAgg4
  z4:=Tryz.sizeOf4
  v4:=Tryz.zeroValue4
  t20:=Tryz.underlying20
  a20:=Tryz.isAgg20
  z20:=Tryz.sizeOf20
  v20:=Tryz.zeroValue20
  t23:=Tryz.underlying90
  a23:=Tryz.isAgg90
  z23:=Tryz.sizeOf90
  v23:=Tryz.zeroValue90
def mapsCloneP_ren:Go.Shelf.Ren:=⟨fun | 5=>71 | 7=>88 | n=>n,fun | 23=>91 | 25=>58 | 3=>104 | 4=>4 | 20=>20 | n=>n,fun | n=>n⟩
theorem mapsCloneP:Go.Proofs.SlLaysW.n5 Tryz.prog mapsCloneP_ren where
  mixed:=by kernel_rfl
  f5:=⟨ "maps.Clone[map[gossamer/api.Point]*gossamer/graph.node,gossamer/api.Point,*gossamer/graph.node]",by decide,Tryz.func71.trans (congrArg some (by kernel_rfl))⟩
  f7:=Tryz.func88.trans (congrArg some (by kernel_rfl))
  t4:=Tryz.underlying4
  a4:=Tryz.isAgg4
  z4:=Tryz.sizeOf4
  v4:=Tryz.zeroValue4
  t20:=Tryz.underlying20
  a20:=Tryz.isAgg20
  z20:=Tryz.sizeOf20
  v20:=Tryz.zeroValue20
  t23:=Tryz.underlying91
  a23:=Tryz.isAgg91
  z23:=Tryz.sizeOf91
  v23:=Tryz.zeroValue91
end Go.Proofs.YtijemcfnlbapjaaGreatDoor
namespace Go.Proofs.YtijemcfnlbapjaaGreatDoor
open Go Go.RowKit Go.ChangeShapes Go.WideShapes
set_option maxRecDepth 100000 in
set_option maxHeartbeats 8000000 in
theorem gCopy_any {w:World} {g bn bs:Nat} {M:List Gr.Nd} {nx:Nat} (h:Gr.At w g bn bs M nx) :
    Calls Tryz.prog 34 #[.pointer (some ⟨g,0,none⟩)] w fun e w'=>∃ g2 bn2 bs2:Nat,e=.returned (.pointer (some ⟨g2,0,none⟩))∧Gr.At w' g2 bn2 bs2 M nx∧(w.heap.size≤g2∧w.heap.size≤bn2∧w.heap.size≤bs2)∧Below w.heap.size w w':=by
  have HH:=Lib.hid h
  obtain⟨en,cn,hbn,hrn⟩:=h.grp.map
  obtain⟨S,hS,hl⟩:=h.sp
  have hltb:=hS.lt
  obtain⟨es,cs,hbs,hrs⟩:=hS
  have HMN:=Lib.hid hrn
  have HMS:=Lib.hid (And.intro hrs hl)
  obtain⟨ws,hws⟩:∃ ww,ww=w.drew:=⟨_,rfl⟩
  have hBs:Below w.heap.size w ws:=by rw[hws];exact(Below.refl _ _).drew
  have HHs:=Lib.hid (h.below hBs)
  have hzs:ws.heap.size=w.heap.size:=by rw[hws];rfl
  have hbn2:ws.heap[bn]? = some (.map en cn):=by rw[hws];exact hbn
  have hbs2:(ws.alloc (.map en cn)).heap[bs]? = some (.map es cs):=by
    have h9:Below ws.heap.size ws (ws.alloc (.map en cn)):=(Below.refl _ _).alloc (Nat.le_refl _) _
    rw[h9.block bs (by omega)]
    rw[hws]
    exact hbs
  have HC1:=Lib.hid (AnyW.maps_Clone mapsCloneH bn en cn ws hbn2)
  have HC2:=Lib.hid (AnyW.maps_Clone mapsCloneP bs es cs (ws.alloc (.map en cn)) hbs2)
  have hb1:Below ws.heap.size ws (ws.alloc (.map en cn)):=(Below.refl _ _).alloc (Nat.le_refl _) _
  have hb2:Below ws.heap.size ws ((ws.alloc (.map en cn)).alloc (.map es cs)):=hb1.alloc hb1.size _
  have hb3:Below ws.heap.size ws (((ws.alloc (.map en cn)).alloc (.map es cs)).alloc (.cells #[.map (some w.heap.size),.map (some (w.heap.size+1)),.int .i64 nx] 93)):=hb2.alloc hb2.size _
  have hA3:Gr.At (((ws.alloc (.map en cn)).alloc (.map es cs)).alloc (.cells #[.map (some w.heap.size),.map (some (w.heap.size+1)),.int .i64 nx] 93)) (w.heap.size+2) w.heap.size (w.heap.size+1) M nx:=by
    have e1:(ws.alloc (.map en cn)).heap[w.heap.size]? = some (.map en cn):=by rw[← hzs];exact(MapKept.heap_alloc ws _).1
    have s1:(ws.alloc (.map en cn)).heap.size=w.heap.size+1:=by simp[hzs]
    have e2:((ws.alloc (.map en cn)).alloc (.map es cs)).heap[w.heap.size+1]? = some (.map es cs):=by rw[← s1];exact(MapKept.heap_alloc _ _).1
    have s2:((ws.alloc (.map en cn)).alloc (.map es cs)).heap.size=w.heap.size+2:=by simp[hzs]
    have b2:Below (ws.alloc (.map en cn)).heap.size (ws.alloc (.map en cn)) ((ws.alloc (.map en cn)).alloc (.map es cs)):=(Below.refl _ _).alloc (Nat.le_refl _) _
    have b3:Below ((ws.alloc (.map en cn)).alloc (.map es cs)).heap.size ((ws.alloc (.map en cn)).alloc (.map es cs)) (((ws.alloc (.map en cn)).alloc (.map es cs)).alloc (.cells #[.map (some w.heap.size),.map (some (w.heap.size+1)),.int .i64 nx] 93)):=(Below.refl _ _).alloc (Nat.le_refl _) _
    have f1:(((ws.alloc (.map en cn)).alloc (.map es cs)).alloc (.cells #[.map (some w.heap.size),.map (some (w.heap.size+1)),.int .i64 nx] 93)).heap[w.heap.size]? = some (.map en cn):=by rw[b3.block _ (by omega),b2.block _ (by omega)];exact e1
    have f2:(((ws.alloc (.map en cn)).alloc (.map es cs)).alloc (.cells #[.map (some w.heap.size),.map (some (w.heap.size+1)),.int .i64 nx] 93)).heap[w.heap.size+1]? = some (.map es cs):=by rw[b3.block _ (by omega)];exact e2
    have hn:=HHs.out.grp.nd
    refine⟨Has.fresh_at _ _ _ (by omega),⟨⟨en,cn,f1,HMN.out⟩,fun x hx=>(hn x hx).below hb3⟩,⟨S,⟨es,cs,f2,HMS.out.1⟩,HMS.out.2⟩,HH.out.ord,HH.out.lt,HH.out.dis,fun x hx j hj=>?_,⟨by omega,by omega,by omega⟩,HH.out.le,HH.out.n1⟩
    have:=(hn x hx).lt hj
    exact⟨by omega,by omega,by omega⟩
  have HA3:=Lib.hid hA3
  clear hA3
  have hbd:=fun(w:World) (x y:Option Nat) (z:Int)=>run_build (P:=Tryz.prog) w 93 #[(0,.map x),(1,.map y),(2,.int .i64 z)] #[.map x,.map y,.int .i64 z] (by kernel_rfl)
  have lN:=fun(wq:World) (hSw:Held ws wq)=>(show wq.cell? ⟨g,0,none⟩=some (.map (some bn)) from(HHs.out.has.under hSw.below HHs.out.has.lt).cell_at rfl)
  have lS:=fun(wq:World) (hSw:Held ws wq)=>(show wq.cell? ⟨g,1,none⟩=some (.map (some bs)) from(HHs.out.has.under hSw.below HHs.out.has.lt).cell_at rfl)
  have lX:=fun(wq:World) (hSw:Held ws wq)=>(show wq.cell? ⟨g,2,none⟩=some (.int .i64 nx) from(HHs.out.has.under hSw.below HHs.out.has.lt).cell_at rfl)
  clear h hbn hrn hbs hrs hl hbn2 hbs2
  go_enter Tryz.func34,Tryz.ntmps34
  go_upto_region 3 with fail
  refine wp_region_held_drew (S:=Held ws) (by kernel_rfl) (by rw[hws];exact Held.refl _) (fun hHeld=>?_)
  rw[← hws] at hHeld ⊢
  clear hws
  refine tka (v:=?_) 0 5 rfl rfl hHeld (Or.inl ⟨by rfl,?_⟩) rfl ?_
  rotate_left
  · intro wq hSw
    go_simp
    try with_reducible rfl
  simp only[ts0,ts1]
  refine tka (v:=?_) 1 6 rfl rfl hHeld (Or.inl ⟨by rfl,?_⟩) rfl ?_
  rotate_left
  · intro wq hSw
    go_simp
    try with_reducible rfl
  simp only[ts0,ts1]
  refine tka (v:=?_) 2 7 rfl rfl hHeld (Or.inl ⟨by rfl,?_⟩) rfl ?_
  rotate_left
  · intro wq hSw
    go_simp
    try with_reducible rfl
  simp only[ts0,ts1]
  refine tka (v:=?_) 3 8 rfl rfl hHeld (Or.inl ⟨by rfl,?_⟩) rfl ?_
  rotate_left
  · intro wq hSw
    have hst:=lN wq hSw
    go_simp
    try with_reducible rfl
  simp only[ts0,ts1]
  refine tka (v:=?_) 5 10 rfl rfl hHeld (Or.inl ⟨by rfl,?_⟩) rfl ?_
  rotate_left
  · intro wq hSw
    go_simp
    try with_reducible rfl
  simp only[ts0,ts1]
  refine tka (v:=?_) 6 11 rfl rfl hHeld (Or.inl ⟨by rfl,?_⟩) rfl ?_
  rotate_left
  · intro wq hSw
    go_simp
    try with_reducible rfl
  simp only[ts0,ts1]
  refine tka (v:=?_) 7 12 rfl rfl hHeld (Or.inl ⟨by rfl,?_⟩) rfl ?_
  rotate_left
  · intro wq hSw
    go_simp
    try with_reducible rfl
  simp only[ts0,ts1]
  refine tka (v:=?_) 8 13 rfl rfl hHeld (Or.inl ⟨by rfl,?_⟩) rfl ?_
  rotate_left
  · intro wq hSw
    have hst:=lS wq hSw
    go_simp
    try with_reducible rfl
  simp only[ts0,ts1]
  refine tka (v:=?_) 10 15 rfl rfl hHeld (Or.inl ⟨by rfl,?_⟩) rfl ?_
  rotate_left
  · intro wq hSw
    go_simp
    try with_reducible rfl
  simp only[ts0,ts1]
  refine tka (v:=?_) 11 16 rfl rfl hHeld (Or.inl ⟨by rfl,?_⟩) rfl ?_
  rotate_left
  · intro wq hSw
    go_simp
    try with_reducible rfl
  simp only[ts0,ts1]
  refine tka (v:=?_) 12 17 rfl rfl hHeld (Or.inl ⟨by rfl,?_⟩) rfl ?_
  rotate_left
  · intro wq hSw
    go_simp
    try with_reducible rfl
  simp only[ts0,ts1]
  refine tka (v:=?_) 13 18 rfl rfl hHeld (Or.inl ⟨by rfl,?_⟩) rfl ?_
  rotate_left
  · intro wq hSw
    have hst:=lX wq hSw
    go_simp
    try with_reducible rfl
  simp only[ts0,ts1]
  refine wpAnyH_ready (rs:=[4]) (by kernel_rfl) (by simp) ?_
  refine AllReadyH.cons rfl (fun K hK=>?_) AllReadyH.nil
  go_simp
  go_at_call 70
  refine HC1.out.mono ?_
  rintro e k1 ⟨rfl,rfl⟩
  refine hK.out _ _ (Held.of hb1) (fun _=>?_)
  clear hK K
  try simp only[Act.put,List.setIfInBounds_toArray,ts0,ts1]
  replace hHeld:=Held.of hb1
  refine wpAnyH_ready (rs:=[9]) (by kernel_rfl) (by simp) ?_
  refine AllReadyH.cons rfl (fun K hK=>?_) AllReadyH.nil
  go_simp
  go_at_call 71
  refine HC2.out.mono ?_
  rintro e k2 ⟨rfl,rfl⟩
  refine hK.out _ _ (Held.of hb2) (fun _=>?_)
  clear hK K
  try simp only[Act.put,List.setIfInBounds_toArray,ts0,ts1]
  replace hHeld:=Held.of hb2
  refine tka (v:=?_) 14 19 rfl rfl hHeld (Or.inl ⟨by rfl,?_⟩) rfl ?_
  rotate_left
  · intro wq hSw
    go_simp
    try with_reducible rfl
  simp only[ts0,ts1]
  refine wpAnyH_ready (rs:=[15]) (by kernel_rfl) (by simp) ?_
  refine AllReadyH.cons rfl (fun K hK=>?_) AllReadyH.nil
  go_simp
  refine hK.out _ _ (Held.of hb3) (fun _=>?_)
  clear hK K
  try simp only[Act.put]
  try simp only[List.setIfInBounds_toArray]
  try simp only[ts0,ts1]
  replace hHeld:=Held.of hb3
  refine tka (v:=?_) 16 2 rfl rfl hHeld (Or.inl ⟨by rfl,?_⟩) rfl ?_
  rotate_left
  · intro wq hSw
    go_simp
    try with_reducible rfl
  simp only[ts0,ts1]
  refine wpAnyH_done (by kernel_rfl) ?_ _
  go_wp2
  go_ret
  exact⟨w.heap.size+2,w.heap.size,w.heap.size+1,by simp,HA3.out,⟨by omega,by omega,by omega⟩,hBs.trans (hb3.mono hBs.size)⟩
end Go.Proofs.YtijemcfnlbapjaaGreatDoor
namespace Go.Proofs.YtijemcfnlbapjaaGreatDoor
open Go Go.RowKit Go.ChangeShapes Go.WideShapes
section
variable {P:Program} {κ β:Type} [DecidableEq κ] {D:MapT P κ β}
theorem Mp.nil_look (D:MapT P κ β) (w:World) (p:κ) (hp:D.kok p) (c:Bool):(Instr.lookup D.tm (.map none) (D.kv p) c).run P w=.ok (Mp.got D [] p c) w:=by
  have hf:=run_findG (D:=D) w p hp [] [] rfl (fun _ h=>by cases h)
  simp[Instr.lookup,run_underlying D.under,D.check _ w p hp,hf,D.zero w,Result.andThen,Mp.got,Mp.look,Mp.idx]
theorem yieldsIf_lookup_nil {ops:Array Oper} {o:Oper} {a:Act} {S:World→Prop} (D:MapT P κ β) (hw:Region.wanted o (yielded ops a.tmps)=true) (m x:Operand) (c:Bool) (hop:o.op=Op.lookup D.tm m x c) (hm:a.eval m=.map none) (p:κ) (hx:a.eval x=D.kv p) (hp:D.kok p) :
    YieldsIf P ops S o (Mp.got D [] p c) a:=
  .inl ⟨hw,fun w _=>by
    have hrun:=Mp.nil_look D w p hp c
    unfold execOp
    simp only[hop,hm,hx,Sem.run_bind,Sem.run_pure,hrun,Result.andThen_ok]
    try rfl⟩
end
set_option maxHeartbeats 4000000 in
theorem nall_any (w:World):Calls Tryz.prog 56 #[.pointer none] w fun e w2=>e=.returned (.map none)∧w=w2:=by
  go_enter Tryz.func56,Tryz.ntmps56
  go_wp2
  go_ret
  exact⟨rfl,rfl⟩
set_option maxHeartbeats 4000000 in
theorem nlen_any (w:World):Calls Tryz.prog 39 #[.pointer none] w fun e w'=>e=.returned (.int .i64 0)∧Below w.heap.size w w':=by
  have HA:=nall_any w
  go_enter Tryz.func39,Tryz.ntmps39
  go_wp2_with (go_at_call 56;refine HA.mono ?_;rintro e w2 ⟨rfl,rfl⟩)
  go_ret
  exact⟨rfl,Below.refl _ _⟩
set_option maxHeartbeats 4000000 in
theorem nCopy_any (w:World):Calls Tryz.prog 34 #[.pointer none] w fun e w'=>e=.returned (.pointer none)∧Below w.heap.size w w':=by
  go_enter Tryz.func34,Tryz.ntmps34
  go_wp2
  go_ret
  exact⟨rfl,Below.refl _ _⟩
set_option maxHeartbeats 4000000 in
theorem nspender_any (w:World) (p:Cs.Pt):Calls Tryz.prog 63 #[.pointer none,.agg (ptCells p.1 p.2).toArray] w fun e w'=>e=.returned (.tuple #[.pointer none,.bool false])∧Below w.heap.size w w':=by
  go_enter Tryz.func63,Tryz.ntmps63
  go_wp2
  go_ret2
  refine⟨rfl,?_⟩
  exact(Below.refl _ _).alloc (Nat.le_refl _) _
set_option maxRecDepth 100000 in
set_option maxHeartbeats 8000000 in
theorem nhas_any (w:World) (id:List (BitVec 8)) (hid:id.length=32) :
    Calls Tryz.prog 38 #[.pointer none,.agg (blist id).toArray] w fun e w'=>e=.returned (.bool false)∧Below w.heap.size w w':=by
  obtain⟨W1,hW1⟩:∃ ww,ww=w.alloc (.cells (blist id).toArray 46):=⟨_,rfl⟩
  have hB1:Below w.heap.size w W1:=by rw[hW1];exact(Below.refl _ _).alloc (Nat.le_refl _) _
  have hP1:Has W1 w.heap.size 46 (blist id).toArray:=by rw[hW1];exact Has.fresh _ _ _
  have HW1:=Lib.hid hW1
  have HGOT:=Lib.hid (show Mp.got Gr.dH [] id true=.tuple #[.pointer none,.bool false] by rfl)
  clear hW1
  go_enter Tryz.func38,Tryz.ntmps38
  go_upto_region 1 with fail
  rw[← HW1.out]
  obtain⟨ws,hws⟩:∃ ww,ww=W1.drew:=⟨_,rfl⟩
  have hBs:Below w.heap.size w ws:=by rw[hws];exact hB1.drew
  have hPs:Has ws w.heap.size 46 (blist id).toArray:=by rw[hws];exact hP1.draw
  have lP:=fun(wq:World) (hSw:Held ws wq)=>(hPs.under hSw.below hPs.lt).load_agg (P:=Tryz.prog) (t:=46) Tryz.underlying46 rfl (size_hs hid)
  have HA:=nall_any
  refine wp_region_held_drew (S:=Held ws) (by kernel_rfl) (by rw[hws];exact Held.refl _) (fun hHeld=>?_)
  rw[← hws] at hHeld ⊢
  clear hws hB1 hP1 HW1
  refine tka (v:=?_) 0 8 rfl rfl hHeld (Or.inl ⟨by rfl,?_⟩) rfl ?_
  rotate_left
  · intro wq hSw
    go_simp
    try with_reducible rfl
  simp only[ts0,ts1]
  refine tka 2 10 rfl rfl hHeld (yieldsIf_load_agg (by rfl) 46 (.tmp 3) rfl _ _ (by rfl) (fun wq hSw=>lP wq hSw)) rfl ?_
  simp only[ts0,ts1]
  refine wpAnyH_ready (rs:=[1]) (by kernel_rfl) (by simp) ?_
  refine AllReadyH.cons rfl (fun K hK=>?_) AllReadyH.nil
  go_simp
  go_at_call 56
  refine(HA _).mono ?_
  rintro e w2 ⟨rfl,rfl⟩
  refine hK.out _ _ hHeld (fun _=>?_)
  clear hK K
  try simp only[Act.put,List.setIfInBounds_toArray,ts0,ts1]
  refine tka 3 11 rfl rfl hHeld (yieldsIf_lookup_nil Gr.dH (by rfl) (.tmp 9) (.tmp 10) true (by rfl) (by rfl) id (by rfl) hid) rfl ?_
  simp only[ts0,ts1]
  rw[HGOT.out]
  refine tka (v:=?_) 4 7 rfl rfl hHeld (Or.inl ⟨by rfl,?_⟩) rfl ?_
  rotate_left
  · intro wq hSw
    go_simp
    try with_reducible rfl
  simp only[ts0,ts1]
  refine tka (v:=?_) 5 12 rfl rfl hHeld (Or.inl ⟨by rfl,?_⟩) rfl ?_
  rotate_left
  · intro wq hSw
    go_simp
    try with_reducible rfl
  simp only[ts0,ts1]
  refine tka (v:=?_) 6 13 rfl rfl hHeld (Or.inl ⟨by rfl,?_⟩) rfl ?_
  rotate_left
  · intro wq hSw
    go_simp
    try with_reducible rfl
  simp only[ts0,ts1]
  refine tka (v:=?_) 7 5 rfl rfl hHeld (Or.inl ⟨by rfl,?_⟩) rfl ?_
  rotate_left
  · intro wq hSw
    go_simp
    try with_reducible rfl
  simp only[ts0,ts1]
  refine tka (v:=?_) 8 6 rfl rfl hHeld (Or.inl ⟨by rfl,?_⟩) rfl ?_
  rotate_left
  · intro wq hSw
    go_simp
    try with_reducible rfl
  simp only[ts0,ts1]
  refine wpAnyH_done (by kernel_rfl) ?_ _
  go_wp2
  go_ret
  exact⟨rfl,hBs⟩
set_option maxRecDepth 100000 in
set_option maxHeartbeats 8000000 in
theorem nGet_any (w:World) (id:List (BitVec 8)) (hid:id.length=32) :
    Calls Tryz.prog 15 #[.pointer none,.agg (blist id).toArray] w fun e w'=>e=.returned (.tuple #[.agg zTx,.bool false])∧Below w.heap.size w w':=by
  obtain⟨W1,hW1⟩:∃ ww,ww=(w.alloc (.cells (blist id).toArray 46)).alloc (.cells zTx 34):=⟨_,rfl⟩
  have hB1:Below w.heap.size w W1:=by rw[hW1];exact((Below.refl _ _).alloc (Nat.le_refl _) _).alloc (by simp) _
  have hP1:Has W1 w.heap.size 46 (blist id).toArray:=by rw[hW1];exact(Has.fresh _ _ _).past _
  have hR1:Has W1 (w.heap.size+1) 34 zTx:=by rw[hW1];exact Has.fresh_at _ _ _ (by simp)
  have HW1:=Lib.hid hW1
  have HIDL:=Lib.hid hid
  have HB1:=Lib.hid hB1
  have HR1:=Lib.hid hR1
  have hbd:=fun(w:World)=>run_build (P:=Tryz.prog) w 34 #[] zTx (by kernel_rfl)
  have HGOT:=Lib.hid (show Mp.got Gr.dH [] id true=.tuple #[.pointer none,.bool false] by rfl)
  clear hW1 hid
  go_enter Tryz.func15,Tryz.ntmps15
  go_upto_region 1 with fail
  rw[← HW1.out]
  obtain⟨ws,hws⟩:∃ ww,ww=W1.drew:=⟨_,rfl⟩
  have hB1s:Below W1.heap.size W1 ws:=by rw[hws];exact(Below.refl _ _).drew
  have hBs:Below w.heap.size w ws:=hB1.trans (hB1s.mono hB1.size)
  have hPs:Has ws w.heap.size 46 (blist id).toArray:=by rw[hws];exact hP1.draw
  have lP:=fun(wq:World) (hSw:Held ws wq)=>(hPs.under hSw.below hPs.lt).load_agg (P:=Tryz.prog) (t:=46) Tryz.underlying46 rfl (size_hs HIDL.out)
  refine wp_region_held_drew (S:=Held ws) (by kernel_rfl) (by rw[hws];exact Held.refl _) (fun hHeld=>?_)
  rw[← hws] at hHeld ⊢
  clear hws hB1 hP1 HW1
  refine tka (v:=?_) 0 9 rfl rfl hHeld (Or.inl ⟨by rfl,?_⟩) rfl ?_
  rotate_left
  · intro wq hSw
    go_simp
    try with_reducible rfl
  simp only[ts0,ts1]
  refine tka 2 11 rfl rfl hHeld (yieldsIf_load_agg (by rfl) 46 (.tmp 3) rfl _ _ (by rfl) (fun wq hSw=>lP wq hSw)) rfl ?_
  simp only[ts0,ts1]
  refine wpAnyH_ready (rs:=[1]) (by kernel_rfl) (by simp) ?_
  refine AllReadyH.cons rfl (fun K hK=>?_) AllReadyH.nil
  go_simp
  go_at_call 56
  refine(nall_any _).mono ?_
  rintro e w2 ⟨rfl,rfl⟩
  refine hK.out _ _ hHeld (fun _=>?_)
  clear hK K
  try simp only[Act.put,List.setIfInBounds_toArray,ts0,ts1]
  refine tka 3 12 rfl rfl hHeld (yieldsIf_lookup_nil Gr.dH (by rfl) (.tmp 10) (.tmp 11) true (by rfl) (by rfl) id (by rfl) HIDL.out) rfl ?_
  simp only[ts0,ts1]
  rw[HGOT.out]
  refine tka (v:=?_) 4 8 rfl rfl hHeld (Or.inl ⟨by rfl,?_⟩) rfl ?_
  rotate_left
  · intro wq hSw
    go_simp
    try with_reducible rfl
  simp only[ts0,ts1]
  refine tka (v:=?_) 5 13 rfl rfl hHeld (Or.inl ⟨by rfl,?_⟩) rfl ?_
  rotate_left
  · intro wq hSw
    go_simp
    try with_reducible rfl
  simp only[ts0,ts1]
  refine tka (v:=?_) 6 14 rfl rfl hHeld (Or.inl ⟨by rfl,?_⟩) rfl ?_
  rotate_left
  · intro wq hSw
    go_simp
    try with_reducible rfl
  simp only[ts0,ts1]
  refine tka (v:=?_) 7 6 rfl rfl hHeld (Or.inl ⟨by rfl,?_⟩) rfl ?_
  rotate_left
  · intro wq hSw
    go_simp
    try with_reducible rfl
  simp only[ts0,ts1]
  refine tka (v:=?_) 8 7 rfl rfl hHeld (Or.inl ⟨by rfl,?_⟩) rfl ?_
  rotate_left
  · intro wq hSw
    go_simp
    try with_reducible rfl
  simp only[ts0,ts1]
  refine wpAnyH_done (by kernel_rfl) ?_ _
  clear lP hHeld
  have hRr:=HR1.out.under hB1s HR1.out.lt
  go_wp2_with (refine wpList_store_mid rfl 34 (.tmp 4) (.tmp 17) rfl (w.heap.size+1) 0 zTx rfl rfl (hRr.there 0 3 (Nat.le_refl _)) (by kernel_rfl) (by kernel_rfl) ?_)
  have hE:=hRr.whole_cs (cs2:=zTx) rfl
  exact bodyPost_ret (results_cellslot rfl _ _ (w.heap.size+1) rfl _ _ (hE.load_var Tryz.underlying34 rfl (by kernel_rfl)) rfl) rfl ⟨rfl,below_setAll (by omega) _ 0 hBs⟩
set_option maxRecDepth 100000 in
set_option maxHeartbeats 8000000 in
theorem nSpender_any (w:World) (p:Cs.Pt) (hp:Cs.ptOk p) :
    Calls Tryz.prog 23 #[.pointer none,.agg (ptCells p.1 p.2).toArray] w fun e w'=>e=.returned (.tuple #[.agg z32,.bool false])∧Below w.heap.size w w':=by
  obtain⟨W1,hW1⟩:∃ ww,ww=(w.alloc (.cells (ptCells p.1 p.2).toArray 58)).alloc (.cells z32 46):=⟨_,rfl⟩
  have hB1:Below w.heap.size w W1:=by rw[hW1];exact((Below.refl _ _).alloc (Nat.le_refl _) _).alloc (by simp) _
  have hP1:Has W1 w.heap.size 58 (ptCells p.1 p.2).toArray:=by rw[hW1];exact(Has.fresh _ _ _).past _
  have hR1:Has W1 (w.heap.size+1) 46 z32:=by rw[hW1];exact Has.fresh_at _ _ _ (by simp)
  have lP:=hP1.load_agg (P:=Tryz.prog) (t:=58) Tryz.underlying58 rfl (gsize_pt hp.1)
  have HC:=Lib.hid (nspender_any W1 p)
  have HW1:=Lib.hid hW1
  have HB1:=Lib.hid hB1
  have HR1:=Lib.hid hR1
  have hbd:=fun(w:World)=>run_build (P:=Tryz.prog) w 46 #[] z32 (by kernel_rfl)
  clear hW1 hB1 hP1 hR1
  go_enter Tryz.func23,Tryz.ntmps23
  go_upto_region 1 with fail
  rw[← HW1.out]
  go_wp2_with (first
    | (refine wpList_store_mid rfl 46 (.tmp 4) (.tmp 16) rfl (w.heap.size+1) 0 z32 rfl rfl (hRr.there 0 32 (Nat.le_refl _)) (by kernel_rfl) (by kernel_rfl) ?_)
    | (go_at_call 63;refine HC.out.mono ?_;rintro e w2 ⟨rfl,hb2⟩;have hRr:=HR1.out.under hb2 HR1.out.lt)
    | (refine wpList_load_run rfl 58 (.tmp 3) rfl _ _ rfl lP ?_))
  have hE:=hRr.whole_cs (cs2:=z32) rfl
  exact bodyPost_ret (results_cellslot rfl _ _ (w.heap.size+1) rfl _ _ (hE.load_var Tryz.underlying46 rfl (by kernel_rfl)) rfl) rfl ⟨rfl,below_setAll (by omega) _ 0 (HB1.out.trans (hb2.mono HB1.out.size))⟩
set_option maxRecDepth 100000 in
set_option maxHeartbeats 8000000 in
theorem ncreator_any (w:World) (p:Cs.Pt) (hp:Cs.ptOk p) :
    Calls Tryz.prog 72 #[.pointer none,.agg (ptCells p.1 p.2).toArray] w fun e w'=>e=.returned (.tuple #[.pointer none,.bool false])∧Below w.heap.size w w':=by
  have HGOT:=Lib.hid (show Mp.got Gr.dH [] p.1 true=.tuple #[.pointer none,.bool false] by rfl)
  obtain⟨W1,hW1⟩:∃ ww,ww=w.alloc (.cells (ptCells p.1 p.2).toArray 58):=⟨_,rfl⟩
  have hB1:Below w.heap.size w W1:=by rw[hW1];exact(Below.refl _ _).alloc (Nat.le_refl _) _
  have hP1:Has W1 w.heap.size 58 (ptCells p.1 p.2).toArray:=by rw[hW1];exact Has.fresh _ _ _
  have HW1:=Lib.hid hW1
  clear hW1
  go_enter Tryz.func72,Tryz.ntmps72
  go_upto_region 1 with fail
  rw[← HW1.out]
  obtain⟨ws,hws⟩:∃ ww,ww=W1.drew:=⟨_,rfl⟩
  have hBs:Below w.heap.size w ws:=by rw[hws];exact hB1.drew
  have hPs:Has ws w.heap.size 58 (ptCells p.1 p.2).toArray:=by rw[hws];exact hP1.draw
  have lH:=fun(wq:World) (hSw:Held ws wq)=>Gr.load_mid (P:=Tryz.prog) (t:=46) (hPs.under hSw.below hPs.lt) 0 (blist p.1) (fun j v hj=>by
    rw[Nat.zero_add,List.getElem?_toArray]
    unfold ptCells
    rw[List.getElem?_append_left (List.getElem?_eq_some_iff.1 hj).1]
    exact hj) Tryz.underlying46 rfl (by rw[blist_length,hp.1];kernel_rfl)
  refine wp_region_held_drew (S:=Held ws) (by kernel_rfl) (by rw[hws];exact Held.refl _) (fun hHeld=>?_)
  rw[← hws] at hHeld ⊢
  clear hws hB1 hP1 HW1
  refine tka (v:=?_) 0 9 rfl rfl hHeld (Or.inl ⟨by rfl,?_⟩) rfl ?_
  rotate_left
  · intro wq hSw
    go_simp
    try with_reducible rfl
  simp only[ts0,ts1]
  refine tka (v:=?_) 2 11 rfl rfl hHeld (Or.inl ⟨by rfl,?_⟩) rfl ?_
  rotate_left
  · intro wq hSw
    go_simp
    try with_reducible rfl
  simp only[ts0,ts1]
  refine tka 3 12 rfl rfl hHeld (yieldsIf_load_agg (by rfl) 46 (.tmp 11) rfl _ _ (by rfl) (fun wq hSw=>lH wq hSw)) rfl ?_
  simp only[ts0,ts1]
  refine wpAnyH_ready (rs:=[1]) (by kernel_rfl) (by simp) ?_
  refine AllReadyH.cons rfl (fun K hK=>?_) AllReadyH.nil
  go_simp
  go_at_call 56
  refine(nall_any _).mono ?_
  rintro e w2 ⟨rfl,rfl⟩
  refine hK.out _ _ hHeld (fun _=>?_)
  clear hK K
  try simp only[Act.put,List.setIfInBounds_toArray,ts0,ts1]
  refine tka 4 13 rfl rfl hHeld (yieldsIf_lookup_nil Gr.dH (by rfl) (.tmp 10) (.tmp 12) true (by rfl) (by rfl) p.1 (by rfl) hp.1) rfl ?_
  simp only[ts0,ts1]
  rw[HGOT.out]
  refine tka (v:=?_) 5 8 rfl rfl hHeld (Or.inl ⟨by rfl,?_⟩) rfl ?_
  rotate_left
  · intro wq hSw
    go_simp
    try with_reducible rfl
  simp only[ts0,ts1]
  refine tka (v:=?_) 6 14 rfl rfl hHeld (Or.inl ⟨by rfl,?_⟩) rfl ?_
  rotate_left
  · intro wq hSw
    go_simp
    try with_reducible rfl
  simp only[ts0,ts1]
  refine tka (v:=?_) 7 15 rfl rfl hHeld (Or.inl ⟨by rfl,?_⟩) rfl ?_
  rotate_left
  · intro wq hSw
    go_simp
    try with_reducible rfl
  simp only[ts0,ts1]
  refine tka (v:=?_) 8 6 rfl rfl hHeld (Or.inl ⟨by rfl,?_⟩) rfl ?_
  rotate_left
  · intro wq hSw
    go_simp
    try with_reducible rfl
  simp only[ts0,ts1]
  refine tka (v:=?_) 9 7 rfl rfl hHeld (Or.inl ⟨by rfl,?_⟩) rfl ?_
  rotate_left
  · intro wq hSw
    go_simp
    try with_reducible rfl
  simp only[ts0,ts1]
  refine wpAnyH_done (by kernel_rfl) ?_ _
  have c32:ws.cell? ⟨w.heap.size,32,none⟩=some (.int .i64 p.2):=hPs.cell_at (by
    rw[List.getElem?_toArray]
    unfold ptCells
    rw[List.getElem?_append_right (by rw[blist_length,hp.1];exact Nat.le_refl _),blist_length,hp.1]
    rfl)
  go_upto_region 2 with fail
  go_quiet (fail)
  go_wp2
  go_ret2
  exact⟨rfl,below_draws hBs _⟩
set_option maxRecDepth 100000 in
set_option maxHeartbeats 8000000 in
theorem nCoin_any (w:World) (p:Cs.Pt) (hp:Cs.ptOk p) :
    Calls Tryz.prog 35 #[.pointer none,.agg (ptCells p.1 p.2).toArray] w fun e w'=>e=.returned (.tuple #[.agg #[.int .i64 0,.int .u64 0],.bool false])∧Below w.heap.size w w':=by
  obtain⟨W1,hW1⟩:∃ ww,ww=(w.alloc (.cells (ptCells p.1 p.2).toArray 58)).alloc (.cells #[.int .i64 0,.int .u64 0] 74):=⟨_,rfl⟩
  have hB1:Below w.heap.size w W1:=by rw[hW1];exact((Below.refl _ _).alloc (Nat.le_refl _) _).alloc (by simp) _
  have hP1:Has W1 w.heap.size 58 (ptCells p.1 p.2).toArray:=by rw[hW1];exact(Has.fresh _ _ _).past _
  have hR1:Has W1 (w.heap.size+1) 74 #[.int .i64 0,.int .u64 0]:=by rw[hW1];exact Has.fresh_at _ _ _ (by simp)
  have lP:=hP1.load_agg (P:=Tryz.prog) (t:=58) Tryz.underlying58 rfl (gsize_pt hp.1)
  have HC:=Lib.hid (ncreator_any W1 p hp)
  have HW1:=Lib.hid hW1
  have HB1:=Lib.hid hB1
  have HR1:=Lib.hid hR1
  have hbd:=fun(w:World)=>run_build (P:=Tryz.prog) w 74 #[] #[.int .i64 0,.int .u64 0] (by kernel_rfl)
  clear hW1 hB1 hP1 hR1
  go_enter Tryz.func35,Tryz.ntmps35
  go_upto_region 1 with fail
  rw[← HW1.out]
  go_wp2_with (first
    | (refine wpList_store_mid rfl 74 (.tmp 4) (.tmp 16) rfl (w.heap.size+1) 0 #[.int .i64 0,.int .u64 0] rfl rfl (hRr.there 0 2 (Nat.le_refl _)) (by kernel_rfl) (by kernel_rfl) ?_)
    | (go_at_call 72;refine HC.out.mono ?_;rintro e w2 ⟨rfl,hb2⟩;have hRr:=HR1.out.under hb2 HR1.out.lt)
    | (refine wpList_load_run rfl 58 (.tmp 3) rfl _ _ rfl lP ?_))
  have hE:=hRr.whole_cs (cs2:=#[.int .i64 0,.int .u64 0]) rfl
  exact bodyPost_ret (results_cellslot rfl _ _ (w.heap.size+1) rfl _ _ (hE.load_var Tryz.underlying74 rfl (by kernel_rfl)) rfl) rfl ⟨rfl,below_setAll (by omega) _ 0 (HB1.out.trans (hb2.mono HB1.out.size))⟩
end Go.Proofs.YtijemcfnlbapjaaGreatDoor
namespace Go.Proofs.YtijemcfnlbapjaaGreatDoor
open Go Go.RowKit Go.ChangeShapes Go.WideShapes
theorem run_next_nil {P:Program} (w:World) (ty:TypeId) (r since last:Nat) (seen:Array Nat) (h:w.heap[r]? = some (.mapIter none since seen last)):(Instr.next (.pointer (some ⟨r,0,none⟩)) false ty).run P w=.ok (.tuple #[.bool false]) w:=by
  simp only[Instr.next,getObj,Sem.run_bind,Sem.run,h,Result.andThen]
  rfl
section
variable {P:Program} {w:World} {ops:Array Oper} {rest:List Oper} {o:Oper} {a:Act} {Q:Exit→Act→World→Prop}
theorem wpList_range_nil {κ β:Type} [DecidableEq κ] (D:MapT P κ β) (hg:o.guard=none) (m:Operand) (hop:o.op=Op.range D.tm m) (hm:a.eval m=.map none)
    (hK:wpList P ops Q rest (a.put o.dst (.pointer (some ⟨w.heap.size,0,none⟩))) (w.alloc (.mapIter none 0 #[] 0))):wpList P ops Q (o :: rest) a w:=by
  refine wpList_plain hg fun K' hK'=>?_
  have hrun:=run_range_nilMap (P:=P) w D.tm D.tk D.te D.under
  unfold Oper.wp
  simp[execOp,hop,hm,hrun,Result.andThen]
  exact hK' _ _ hK
theorem wpList_next_nil {r since last:Nat} {seen:Array Nat} (hg:o.guard=none) (it:Operand) (hop:o.op=Op.next it false) (hit:a.eval it=.pointer (some ⟨r,0,none⟩)) (h:w.heap[r]? = some (.mapIter none since seen last))
    (hK:wpList P ops Q rest (a.put o.dst (.tuple #[.bool false])) w):wpList P ops Q (o :: rest) a w:=by
  refine wpList_plain hg fun K' hK'=>?_
  have hrun:=run_next_nil (P:=P) w o.type r since last seen h
  unfold Oper.wp
  simp[execOp,hop,hit,hrun,Result.andThen]
  exact hK' _ _ hK
end
set_option maxRecDepth 100000 in
set_option maxHeartbeats 8000000 in
theorem ninorder_any (w:World):Calls Tryz.prog 77 #[.map none] w fun e w'=>e=.returned (.slice none 0 0)∧Below w.heap.size w w':=by
  have hi:(w.alloc (.mapIter none 0 #[] 0)).heap[w.heap.size]? = some (.mapIter none 0 #[] 0):=heap_alloc_new w _
  have HB:=Lib.hid (show Below w.heap.size w (w.alloc (.mapIter none 0 #[] 0)) from(Below.refl _ _).alloc (Nat.le_refl _) _)
  obtain⟨w1,hw1⟩:∃ u,u=w.alloc (.mapIter none 0 #[] 0):=⟨_,rfl⟩
  rw[← hw1] at hi HB
  have HW1:=Lib.hid hw1
  clear hw1
  go_enter Tryz.func77,Tryz.ntmps77
  go_wp2_with (at_range;refine wpList_range_nil Gr.dH rfl (.tmp 6) rfl rfl ?_;rw[← HW1.out])
  simp only[Act.put,List.setIfInBounds_toArray,ts0,ts1]
  go_loopg [3] 0 (fun k sv wr=>k=0∧sv=.slice none 0 0∧wr=w1)
  case atStart=>exact⟨rfl,rfl,rfl⟩
  case round=>
    obtain⟨hk,rfl,rfl⟩:=hrel
    have HG:=Lib.hid (AnyF.slices_SortFunc_none sortNd0 none 0 (.func (.func 94) #[] #[]) wr)
    clear hk
    go_wp2_with (first
      | (go_at_call 93;refine HG.out.mono ?_;rintro e w5 ⟨rfl,rfl⟩)
      | (at_next;refine wpList_next_nil rfl (.tmp 7) rfl rfl hi ?_))
    go_ret
    exact⟨rfl,HB.out⟩
set_option maxRecDepth 100000 in
set_option maxHeartbeats 8000000 in
theorem nids_any (w:World):Calls Tryz.prog 67 #[.map none] w fun e w'=>e=.returned (.slice none 0 0)∧Below w.heap.size w w':=by
  have HI:=Lib.hid (ninorder_any w)
  go_enter Tryz.func67,Tryz.ntmps67
  go_wp2_with (go_at_call 77;refine HI.out.mono ?_;rintro e w1 ⟨rfl,hb1⟩)
  go_loopw [3,9] (fun sv iv wr=>iv=.int .i64 0∧sv=.slice none 0 0∧Below w.heap.size w wr) (fun _ _ _=>0)
  case atStart=>exact⟨rfl,rfl,hb1⟩
  case round=>
    obtain⟨rfl,rfl,hb⟩:=hrel
    go_wp2
    go_ret
    exact⟨rfl,hb⟩
set_option maxHeartbeats 8000000 in
theorem nIDs_any (w:World):Calls Tryz.prog 33 #[.pointer none] w fun e w'=>e=.returned (.slice none 0 0)∧Below w.heap.size w w':=by
  have HI:=Lib.hid (nids_any w)
  go_enter Tryz.func33,Tryz.ntmps33
  go_wp2_with (first
    | (go_at_call 67;refine HI.out.mono ?_;rintro e w3 ⟨rfl,hb3⟩)
    | (go_at_call 56;refine(nall_any _).mono ?_;rintro e w2 ⟨rfl,rfl⟩))
  go_ret
  exact⟨rfl,hb3⟩
end Go.Proofs.YtijemcfnlbapjaaGreatDoor
namespace Go.Proofs.YtijemcfnlbapjaaGreatDoor
open Go Go.RowKit Go.ChangeShapes Go.WideShapes
set_option maxRecDepth 100000 in
set_option maxHeartbeats 8000000 in
theorem nmiss_any {w:World} (gb:Nat) (hg:Has w gb 25 #[.pointer none]) (id:List (BitVec 8)) (hid:id.length=32) :
    Calls Tryz.prog 48 #[.agg (blist id).toArray,.pointer (some ⟨gb,0,none⟩)] w fun e w'=>e=.returned (.bool true)∧Below w.heap.size w w':=by
  obtain⟨W1,hW1⟩:∃ ww,ww=w.alloc (.cells (blist id).toArray 46):=⟨_,rfl⟩
  have hB1:Below w.heap.size w W1:=by rw[hW1];exact(Below.refl _ _).alloc (Nat.le_refl _) _
  have hP1:Has W1 w.heap.size 46 (blist id).toArray:=by rw[hW1];exact Has.fresh _ _ _
  have lP:=hP1.load_agg (P:=Tryz.prog) (t:=46) Tryz.underlying46 rfl (size_hs hid)
  have c0:W1.cell? ⟨gb,0,none⟩=some (.pointer none):=(hg.under hB1 hg.lt).cell_at rfl
  have HG:=Lib.hid (nhas_any W1 id hid)
  have HW:=Lib.hid hW1
  have HB1:=Lib.hid hB1
  clear hW1 hB1 hP1 hg
  go_enter Tryz.func48,Tryz.ntmps48
  go_upto_region 1 with fail
  rw[← HW.out]
  go_wp2_with (first
    | (go_at_call 38;refine HG.out.mono ?_;rintro e w2 ⟨rfl,hb2⟩)
    | (refine wpList_load_run rfl 46 (.tmp 2) rfl _ _ rfl lP ?_))
  go_ret
  exact⟨rfl,HB1.out.trans (hb2.mono HB1.out.size)⟩
set_option maxRecDepth 100000 in
set_option maxHeartbeats 8000000 in
theorem nidx_any {w:World} (gb:Nat) (hg:Has w gb 25 #[.pointer none]) (a:Option Addr) (q:Nat) (s:List (BitVec 8)) (h:Recs Gr.hsRec w a 1 [s]) :
    Calls Tryz.prog 82 #[.slice a 1 q,.func (.func 48) #[] #[.pointer (some ⟨gb,0,none⟩)]] w fun e w'=>e=.returned (.int .i64 0)∧Below w.heap.size w w':=by
  have hs:[s][0]? = some s:=rfl
  obtain⟨x,rfl,_⟩:=h.2.2.2 0 s hs
  have HSL:=Lib.hid (show s.length=32 from h.okay hs)
  have hy:=Gr.hs_lid h hs
  have HC:=Lib.hid (nmiss_any gb hg s HSL.out)
  clear hs h
  go_enter Tryz.func82,Tryz.ntmps82
  go_wp2
  go_loopw [8] (fun iv wr=>iv=.int .i64 0∧wr=w) (fun _ _=>0)
  case atStart=>exact⟨rfl,rfl⟩
  case round=>
    obtain⟨rfl,rfl⟩:=hrel
    go_wp2_with (first
      | (go_at_call 48;refine HC.out.mono ?_;rintro e w2 ⟨rfl,hb2⟩)
      | (refine wpList_load_run rfl 46 (.tmp 14) rfl _ _ rfl hy ?_))
    go_ret
    exact⟨rfl,hb2⟩
set_option maxRecDepth 100000 in
set_option maxHeartbeats 8000000 in
theorem ncont_any {w:World} (gb:Nat) (hg:Has w gb 25 #[.pointer none]) (a:Option Addr) (q:Nat) (s:List (BitVec 8)) (h:Recs Gr.hsRec w a 1 [s]) :
    Calls Tryz.prog 49 #[.slice a 1 q,.func (.func 48) #[] #[.pointer (some ⟨gb,0,none⟩)]] w fun e w'=>e=.returned (.bool true)∧Below w.heap.size w w':=by
  have HC:=Lib.hid (nidx_any gb hg a q s h)
  clear hg h
  go_enter Tryz.func49,Tryz.ntmps49
  go_wp2_with (go_at_call 82;refine HC.out.mono ?_;rintro e w1 ⟨rfl,hb⟩)
  go_ret
  exact⟨rfl,hb⟩
set_option maxRecDepth 100000 in
set_option maxHeartbeats 8000000 in
theorem nRate_any {w:World} (a:Option Addr) (q:Nat) (s:List (BitVec 8)) (h:Recs Gr.hsRec w a 1 [s]) :
    Calls Tryz.prog 13 #[.pointer none,.slice a 1 q] w fun e w'=>e=.returned (.tuple #[.agg #[.int .i64 0,.int .i64 0],errn 4])∧Below w.heap.size w w':=by
  obtain⟨W1,hW1⟩:∃ ww,ww=(w.alloc (.cells #[.pointer none] 25)).alloc (.cells #[.int .i64 0,.int .i64 0] 37):=⟨_,rfl⟩
  have hB1:Below w.heap.size w W1:=by rw[hW1];exact((Below.refl _ _).alloc (Nat.le_refl _) _).alloc (by simp) _
  have hP1:Has W1 w.heap.size 25 #[.pointer none]:=by rw[hW1];exact(Has.fresh _ _ _).past _
  have hR1:Has W1 (w.heap.size+1) 37 #[.int .i64 0,.int .i64 0]:=by rw[hW1];exact Has.fresh_at _ _ _ (by simp)
  have hbd:=fun(w:World)=>run_build (P:=Tryz.prog) w 37 #[] #[.int .i64 0,.int .i64 0] (by kernel_rfl)
  have HW:=Lib.hid hW1
  have HB1:=Lib.hid hB1
  have HR1:=Lib.hid hR1
  have HC:=Lib.hid (ncont_any w.heap.size hP1 a q s (h.below hB1))
  clear hW1 hB1 hP1 hR1 h
  go_enter Tryz.func13,Tryz.ntmps13
  go_upto_region 1 with fail
  rw[← HW.out]
  go_wp2_with (first
    | (refine wpList_store_mid rfl 37 (.tmp 4) (.tmp 22) rfl (w.heap.size+1) 0 #[.int .i64 0,.int .i64 0] rfl rfl (hRr.there 0 2 (Nat.le_refl _)) (by kernel_rfl) (by kernel_rfl) ?_)
    | (go_at_call 49;refine HC.out.mono ?_;rintro e w2 ⟨rfl,hb2⟩;have hRr:=HR1.out.under hb2 HR1.out.lt))
  have hE:=hRr.whole_cs (cs2:=#[.int .i64 0,.int .i64 0]) rfl
  exact bodyPost_ret (results_cellslot rfl _ _ (w.heap.size+1) rfl _ _ (hE.load_var Tryz.underlying37 rfl (by kernel_rfl)) rfl) rfl ⟨rfl,below_setAll (by omega) _ 0 (HB1.out.trans (hb2.mono HB1.out.size))⟩
end Go.Proofs.YtijemcfnlbapjaaGreatDoor
