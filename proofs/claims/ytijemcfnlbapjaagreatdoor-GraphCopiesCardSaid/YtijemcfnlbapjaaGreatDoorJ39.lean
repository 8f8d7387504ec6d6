/- a nil graph's relatives, Parents, Children (mkgst.py) · a nil graph's some, family, Ancestors, Descendants, Remove (mkgsu.py) · a nil graph's Put by its error, Conflicts (mkgsv.py) -/
import Derived.Test.YtijemcfnlbapjaaGreatDoorJ38
import Derived.Test.YtijemcfnlbapjaaGreatDoorJ23
namespace Go.Proofs.YtijemcfnlbapjaaGreatDoor
open Go Go.RowKit Go.ChangeShapes Go.WideShapes
set_option maxRecDepth 100000 in
set_option maxHeartbeats 8000000 in
theorem nrelatives_any (w:World) (id:List (BitVec 8)) (hid:id.length=32) (f:Nat) :
    Calls Tryz.prog 59 #[.pointer none,.agg (blist id).toArray,.func (.func f) #[.pointer none] #[]] w fun e w'=>e=.returned (.slice none 0 0)∧Below w.heap.size w w':=by
  obtain⟨W1,hW1⟩:∃ ww,ww=w.alloc (.cells (blist id).toArray 46):=⟨_,rfl⟩
  have hB1:Below w.heap.size w W1:=by rw[hW1];exact(Below.refl _ _).alloc (Nat.le_refl _) _
  have hP1:Has W1 w.heap.size 46 (blist id).toArray:=by rw[hW1];exact Has.fresh _ _ _
  have HW1:=Lib.hid hW1
  have HGOT:=Lib.hid (show Mp.got Gr.dH [] id true=.tuple #[.pointer none,.bool false] by rfl)
  clear hW1
  go_enter Tryz.func59,Tryz.ntmps59
  go_upto_region 1 with fail
  rw[← HW1.out]
  obtain⟨ws,hws⟩:∃ ww,ww=W1.drew:=⟨_,rfl⟩
  have hBs:Below w.heap.size w ws:=by rw[hws];exact hB1.drew
  have hPs:Has ws w.heap.size 46 (blist id).toArray:=by rw[hws];exact hP1.draw
  have lP:=fun(wq:World) (hSw:Held ws wq)=>(hPs.under hSw.below hPs.lt).load_agg (P:=Tryz.prog) (t:=46) Tryz.underlying46 rfl (size_hs hid)
  refine wp_region_held_drew (S:=Held ws) (by kernel_rfl) (by rw[hws];exact Held.refl _) (fun hHeld=>?_)
  rw[← hws] at hHeld ⊢
  clear hws hB1 hP1 HW1
  refine tka (v:=?_) 0 10 rfl rfl hHeld (Or.inl ⟨by rfl,?_⟩) rfl ?_
  rotate_left
  · intro wq hSw
    go_simp
    try with_reducible rfl
  simp only[ts0,ts1]
  refine tka 2 12 rfl rfl hHeld (yieldsIf_load_agg (by rfl) 46 (.tmp 4) rfl _ _ (by rfl) (fun wq hSw=>lP wq hSw)) rfl ?_
  simp only[ts0,ts1]
  refine wpAnyH_ready (rs:=[1]) (by kernel_rfl) (by simp) ?_
  refine AllReadyH.cons rfl (fun K hK=>?_) AllReadyH.nil
  go_simp
  go_at_call 56
  refine(nall_any _).mono ?_
  rintro e w9 ⟨rfl,rfl⟩
  refine hK.out _ _ hHeld (fun _=>?_)
  clear hK K
  try simp only[Act.put,List.setIfInBounds_toArray,ts0,ts1]
  refine tka 3 13 rfl rfl hHeld (yieldsIf_lookup_nil Gr.dH (by rfl) (.tmp 11) (.tmp 12) true (by rfl) (by rfl) id (by rfl) hid) rfl ?_
  simp only[ts0,ts1]
  rw[HGOT.out]
  refine tka (v:=?_) 4 9 rfl rfl hHeld (Or.inl ⟨by rfl,?_⟩) rfl ?_
  rotate_left
  · intro wq hSw
    go_simp
    try with_reducible rfl
  simp only[ts0,ts1]
  refine tka (v:=?_) 5 14 rfl rfl hHeld (Or.inl ⟨by rfl,?_⟩) rfl ?_
  rotate_left
  · intro wq hSw
    go_simp
    try with_reducible rfl
  simp only[ts0,ts1]
  refine tka (v:=?_) 6 15 rfl rfl hHeld (Or.inl ⟨by rfl,?_⟩) rfl ?_
  rotate_left
  · intro wq hSw
    go_simp
    try with_reducible rfl
  simp only[ts0,ts1]
  refine tka (v:=?_) 7 7 rfl rfl hHeld (Or.inl ⟨by rfl,?_⟩) rfl ?_
  rotate_left
  · intro wq hSw
    go_simp
    try with_reducible rfl
  simp only[ts0,ts1]
  refine tka (v:=?_) 8 8 rfl rfl hHeld (Or.inl ⟨by rfl,?_⟩) rfl ?_
  rotate_left
  · intro wq hSw
    go_simp
    try with_reducible rfl
  simp only[ts0,ts1]
  refine wpAnyH_done (by kernel_rfl) ?_ _
  go_wp2
  go_ret
  exact⟨rfl,hBs⟩
set_option maxRecDepth 100000 in
set_option maxHeartbeats 8000000 in
theorem nParents_any (w:World) (id:List (BitVec 8)) (hid:id.length=32) :
    Calls Tryz.prog 19 #[.pointer none,.agg (blist id).toArray] w fun e w'=>e=.returned (.slice none 0 0)∧Below w.heap.size w w':=by
  obtain⟨W1,hW1⟩:∃ ww,ww=w.alloc (.cells (blist id).toArray 46):=⟨_,rfl⟩
  have hB1:Below w.heap.size w W1:=by rw[hW1];exact(Below.refl _ _).alloc (Nat.le_refl _) _
  have hP1:Has W1 w.heap.size 46 (blist id).toArray:=by rw[hW1];exact Has.fresh _ _ _
  have HR:=Lib.hid (nrelatives_any W1 id hid 60)
  have lP:=hP1.load_agg (P:=Tryz.prog) (t:=46) Tryz.underlying46 rfl (size_hs hid)
  have HW1:=Lib.hid hW1
  clear hW1 hP1
  go_enter Tryz.func19,Tryz.ntmps19
  go_upto_region 1 with fail
  rw[← HW1.out]
  go_wp2_with (first
    | (go_at_call 59;refine HR.out.mono ?_;rintro e w2 ⟨rfl,hb⟩)
    | (refine wpList_load_run rfl 46 (.tmp 3) rfl _ _ rfl lP ?_))
  go_ret
  exact⟨rfl,hB1.trans (hb.mono hB1.size)⟩
set_option maxRecDepth 100000 in
set_option maxHeartbeats 8000000 in
theorem nChildren_any (w:World) (id:List (BitVec 8)) (hid:id.length=32) :
    Calls Tryz.prog 21 #[.pointer none,.agg (blist id).toArray] w fun e w'=>e=.returned (.slice none 0 0)∧Below w.heap.size w w':=by
  obtain⟨W1,hW1⟩:∃ ww,ww=w.alloc (.cells (blist id).toArray 46):=⟨_,rfl⟩
  have hB1:Below w.heap.size w W1:=by rw[hW1];exact(Below.refl _ _).alloc (Nat.le_refl _) _
  have hP1:Has W1 w.heap.size 46 (blist id).toArray:=by rw[hW1];exact Has.fresh _ _ _
  have HR:=Lib.hid (nrelatives_any W1 id hid 62)
  have lP:=hP1.load_agg (P:=Tryz.prog) (t:=46) Tryz.underlying46 rfl (size_hs hid)
  have HW1:=Lib.hid hW1
  clear hW1 hP1
  go_enter Tryz.func21,Tryz.ntmps21
  go_upto_region 1 with fail
  rw[← HW1.out]
  go_wp2_with (first
    | (go_at_call 59;refine HR.out.mono ?_;rintro e w2 ⟨rfl,hb⟩)
    | (refine wpList_load_run rfl 46 (.tmp 3) rfl _ _ rfl lP ?_))
  go_ret
  exact⟨rfl,hB1.trans (hb.mono hB1.size)⟩
end Go.Proofs.YtijemcfnlbapjaaGreatDoor
namespace Go.Proofs.YtijemcfnlbapjaaGreatDoor
open Go Go.RowKit Go.ChangeShapes Go.WideShapes
set_option maxRecDepth 100000 in
set_option maxHeartbeats 8000000 in
theorem nsome_any {w:World} (a:Option Addr) (n q:Nat) (I:List (List (BitVec 8))) (hI:Recs Gr.hsRec w a n I) (hn:n≤1000000) :
    Calls Tryz.prog 50 #[.pointer none,.slice a n q] w fun e w'=>∃ b:Nat,e=.returned (.map (some b))∧w.heap.size≤b∧Gr.GrpAt w' b []∧Below w.heap.size w w':=by
  have hmm:=@run_makeMap Tryz.prog
  have hnmx:n≤9223372036854775807:=by omega
  have HI:=Lib.hid hI
  clear hn hI
  go_enter Tryz.func50,Tryz.ntmps50
  go_wp2
  obtain⟨w1,hw1⟩:∃ x,x=w.alloc (.map #[] 0):=⟨_,rfl⟩
  obtain⟨b,hb⟩:∃ b,b=w.heap.size:=⟨_,rfl⟩
  have hb1:Below w.heap.size w w1:=by rw[hw1];exact(Below.refl _ _).alloc (Nat.le_refl _) _
  have hG1:Gr.GrpAt w1 b []:=by rw[hw1,hb];exact Gr.GrpAt.fresh w
  rw[← hw1,← hb]
  have HB:=Lib.hid hb
  clear hw1 hb
  go_loopw [13] (fun iv wr=>∃ (i:Nat),i≤n∧iv=.int .i64 i∧RowKit.Hid (Gr.GrpAt wr b [])∧Below w.heap.size w wr) (fun iv _=>n-(intOf iv).toNat)
  case atStart=>exact⟨0,Nat.zero_le _,rfl,Lib.hid hG1,hb1⟩
  case round=>
    clear hG1 hb1
    obtain⟨i,hi,rfl,HG,hb⟩:=hrel
    by_cases hlt:i<n
    · have hii:(i:Int)<(n:Int):=by omega
      have hi0:(0:Int)≤(i:Int):=by omega
      obtain⟨id,hid⟩:∃ y,I[i]? = some y:=⟨_,List.getElem?_eq_getElem (by have:=HI.out.1;omega)⟩
      have HIDL:=Lib.hid (show id.length=32 from HI.out.okay hid)
      obtain⟨x,rfl,hx⟩:=(HI.out.below hb).2.2.2 i id hid
      have lI:(Instr.loadAt 46 (.pointer (some (x.add (i*32))))).run Tryz.prog wr=.ok (.agg (blist id).toArray) wr:=(HI.out.below hb).load_at (P:=Tryz.prog) Tryz.underlying46 rfl Gr.size_hsr hid
      have HBB:=Lib.hid hb
      clear hid hx hb
      go_upto_region 5 with(first
        | (refine wpList_store_mid rfl 46 (.tmp 7) (.tmp 16) rfl wr.heap.size 0 (blist id).toArray rfl rfl (Gr.hsRec.there wr 46 (by kernel_rfl) HIDL.out) (Gr.hsRec.size_eq Gr.size_hsr HIDL.out) (Gr.hsRec.all_one id) ?_)
        | (refine wpList_load_run rfl 46 (.tmp 15) rfl _ _ rfl lI ?_))
      obtain⟨w5,hw5⟩:∃ u',u'=(wr.alloc (.cells z32 46)).setCells wr.heap.size 0 (blist id):=⟨_,rfl⟩
      obtain⟨hF5,hb5⟩:=Rec.new (R:=Gr.hsRec) (by kernel_rfl) HIDL.out hw5
      rw[← hw5]
      have hB5:=HBB.out.trans (hb5.mono HBB.out.size)
      obtain⟨g5,hg5⟩:∃ g,g=wr.heap.size:=⟨_,rfl⟩
      rw[← hg5] at hF5 ⊢
      have HG5:=Lib.hid (HG.out.below hb5)
      clear hw5 hg5 hb5 lI
      obtain⟨ws,hws⟩:∃ ww,ww=w5.drew:=⟨_,rfl⟩
      have hBs:Below w.heap.size w ws:=by rw[hws];exact hB5.drew
      have hFs:Has ws g5 46 (blist id).toArray:=by rw[hws];exact hF5.draw
      have HGs:=Lib.hid (show Gr.GrpAt ws b [] by rw[hws];exact HG5.out.below (Below.refl _ _).drew)
      have lP:=fun(wq:World) (hSw:Held ws wq)=>(hFs.under hSw.below hFs.lt).load_agg (P:=Tryz.prog) (t:=46) Tryz.underlying46 rfl (size_hs HIDL.out)
      have HGOT:=Lib.hid (show Mp.got Gr.dH [] id true=.tuple #[.pointer none,.bool false] by rfl)
      refine wp_region_held_drew (S:=Held ws) (by kernel_rfl) (by rw[hws];exact Held.refl _) (fun hHeld=>?_)
      rw[← hws] at hHeld ⊢
      clear hws hF5
      refine tka (v:=?_) 0 18 rfl rfl hHeld (Or.inl ⟨by rfl,?_⟩) rfl ?_
      rotate_left
      · intro wq hSw
        go_simp
        try with_reducible rfl
      simp only[ts0,ts1]
      refine tka 2 20 rfl rfl hHeld (yieldsIf_load_agg (by rfl) 46 (.tmp 7) rfl _ _ (by rfl) (fun wq hSw=>lP wq hSw)) rfl ?_
      simp only[ts0,ts1]
      refine wpAnyH_ready (rs:=[1]) (by kernel_rfl) (by simp) ?_
      refine AllReadyH.cons rfl (fun K hK=>?_) AllReadyH.nil
      go_simp
      go_at_call 56
      refine(nall_any _).mono ?_
      rintro e w9 ⟨rfl,rfl⟩
      refine hK.out _ _ hHeld (fun _=>?_)
      clear hK K
      try simp only[Act.put,List.setIfInBounds_toArray,ts0,ts1]
      refine tka 3 21 rfl rfl hHeld (yieldsIf_lookup_nil Gr.dH (by rfl) (.tmp 19) (.tmp 20) true (by rfl) (by rfl) id (by rfl) HIDL.out) rfl ?_
      simp only[ts0,ts1]
      rw[HGOT.out]
      refine tka (v:=?_) 4 17 rfl rfl hHeld (Or.inl ⟨by rfl,?_⟩) rfl ?_
      rotate_left
      · intro wq hSw
        go_simp
        try with_reducible rfl
      simp only[ts0,ts1]
      refine tka (v:=?_) 5 22 rfl rfl hHeld (Or.inl ⟨by rfl,?_⟩) rfl ?_
      rotate_left
      · intro wq hSw
        go_simp
        try with_reducible rfl
      simp only[ts0,ts1]
      refine tka (v:=?_) 6 23 rfl rfl hHeld (Or.inl ⟨by rfl,?_⟩) rfl ?_
      rotate_left
      · intro wq hSw
        go_simp
        try with_reducible rfl
      simp only[ts0,ts1]
      refine tka (v:=?_) 7 8 rfl rfl hHeld (Or.inl ⟨by rfl,?_⟩) rfl ?_
      rotate_left
      · intro wq hSw
        go_simp
        try with_reducible rfl
      simp only[ts0,ts1]
      refine tka (v:=?_) 8 9 rfl rfl hHeld (Or.inl ⟨by rfl,?_⟩) rfl ?_
      rotate_left
      · intro wq hSw
        go_simp
        try with_reducible rfl
      simp only[ts0,ts1]
      refine wpAnyH_done (by kernel_rfl) ?_ _
      go_wp2
      go_roundw
      case rel=>exact⟨i+1,by omega,by go_num,HGs,hBs⟩
      case measure=>(simp[intOf];try omega)
    · have hii:¬ (i:Int)<(n:Int):=by omega
      have hbb:w.heap.size≤b:=by have:=HB.out;omega
      go_wp2
      go_ret
      exact⟨b,rfl,hbb,HG.out,hb⟩
set_option maxRecDepth 100000 in
set_option maxHeartbeats 8000000 in
theorem nfamily_any {w:World} (a:Option Addr) (n q:Nat) (I:List (List (BitVec 8))) (hI:Recs Gr.hsRec w a n I) (hn:n≤1000000) (f:Nat) :
    Calls Tryz.prog 64 #[.pointer none,.slice a n q,.func (.func f) #[.pointer none] #[]] w fun e w'=>(∃ (a':Option Addr) (c:Nat),e=.returned (.slice a' 0 c))∧Below w.heap.size w w':=by
  have hmm:=@run_makeMap Tryz.prog
  obtain⟨w1,hw1⟩:∃ x,x=w.alloc (.map #[] 0):=⟨_,rfl⟩
  obtain⟨b,hb⟩:∃ b,b=w.heap.size:=⟨_,rfl⟩
  have hb1:Below w.heap.size w w1:=by rw[hw1];exact(Below.refl _ _).alloc (Nat.le_refl _) _
  have hG1:Gr.GrpAt w1 b []:=by rw[hw1,hb];exact Gr.GrpAt.fresh w
  have HB:=Lib.hid hb
  have HW1:=Lib.hid hw1
  have HS:=Lib.hid (nsome_any a n q I (hI.below hb1) hn)
  have HB1:=Lib.hid hb1
  have HG1:=Lib.hid hG1
  clear hw1 hb hI hb1 hG1
  go_enter Tryz.func64,Tryz.ntmps64
  go_upto_region 2 with fail
  rw[← HW1.out,← HB.out]
  go_wp2_with (first
    | (go_at_call 50;refine HS.out.mono ?_;rintro e w2 ⟨b2,rfl,hlb2,hg2,hb2⟩;have HO:=Lib.hid (ginorder_any hg2 (by simp) (by simp)))
    | (go_at_call 77;refine HO.out.mono ?_;rintro e w3 ⟨v3,R3,rfl,ho3,hp3,_,hb3⟩;obtain rfl:=List.Perm.eq_nil hp3;obtain⟨a3,c3,rfl,_⟩:=Gr.own_shape ho3))
  have hb13:Below w1.heap.size w1 w3:=hb2.trans (hb3.mono hb2.size)
  have HI:=Lib.hid (gids_any (HG1.out.below hb13) (by simp) (by simp))
  have HB3:=Lib.hid (HB1.out.trans (hb13.mono HB1.out.size))
  clear ho3 hp3 hb3 hg2 hb2 hb13 HS HO hlb2
  try simp only[List.length_nil]
  go_loopg [8] 0 (fun k sv wr=>k=0∧sv=.slice a3 0 c3∧wr=w3)
  case atStart=>exact⟨rfl,rfl,rfl⟩
  case round=>
    obtain⟨hk,rfl,rfl⟩:=hrel
    clear hk
    go_wp2_with (go_at_call 67;refine HI.out.mono ?_;rintro e w5 ⟨v5,R5,rfl,ho5,hp5,_,hb5⟩;obtain rfl:=List.Perm.eq_nil hp5;obtain⟨a5,c5,rfl,_⟩:=OwnR.shape (K:=0) ho5 rfl)
    go_ret
    exact⟨⟨_,_,rfl⟩,HB3.out.trans (hb5.mono HB3.out.size)⟩
set_option maxRecDepth 100000 in
set_option maxHeartbeats 8000000 in
theorem nAncestors_any {w:World} (a:Option Addr) (n q:Nat) (I:List (List (BitVec 8))) (hI:Recs Gr.hsRec w a n I) (hn:n≤1000000) :
    Calls Tryz.prog 26 #[.pointer none,.slice a n q] w fun e w'=>(∃ (a':Option Addr) (c:Nat),e=.returned (.slice a' 0 c))∧Below w.heap.size w w':=by
  have HF:=Lib.hid (nfamily_any a n q I hI hn 60)
  clear hI
  go_enter Tryz.func26,Tryz.ntmps26
  go_wp2_with (go_at_call 64;refine HF.out.mono ?_;rintro e w2 ⟨⟨a2,c2,rfl⟩,hb⟩)
  go_ret
  exact⟨⟨_,_,rfl⟩,hb⟩
set_option maxRecDepth 100000 in
set_option maxHeartbeats 8000000 in
theorem nDescendants_any {w:World} (a:Option Addr) (n q:Nat) (I:List (List (BitVec 8))) (hI:Recs Gr.hsRec w a n I) (hn:n≤1000000) :
    Calls Tryz.prog 28 #[.pointer none,.slice a n q] w fun e w'=>(∃ (a':Option Addr) (c:Nat),e=.returned (.slice a' 0 c))∧Below w.heap.size w w':=by
  have HF:=Lib.hid (nfamily_any a n q I hI hn 62)
  clear hI
  go_enter Tryz.func28,Tryz.ntmps28
  go_wp2_with (go_at_call 64;refine HF.out.mono ?_;rintro e w2 ⟨⟨a2,c2,rfl⟩,hb⟩)
  go_ret
  exact⟨⟨_,_,rfl⟩,hb⟩
set_option maxRecDepth 100000 in
set_option maxHeartbeats 8000000 in
theorem nRemove_any {w:World} (a:Option Addr) (n q:Nat) (I:List (List (BitVec 8))) (hI:Recs Gr.hsRec w a n I) (hn:n≤1000000) :
    Calls Tryz.prog 40 #[.pointer none,.slice a n q] w fun e w'=>e=.returned (.slice none 0 0)∧Below w.heap.size w w':=by
  have HS:=Lib.hid (nsome_any a n q I hI hn)
  clear hI
  go_enter Tryz.func40,Tryz.ntmps40
  go_wp2_with (first
    | (go_at_call 50;refine HS.out.mono ?_;rintro e w2 ⟨b2,rfl,hlb2,hg2,hb2⟩;have HO:=Lib.hid (ginorder_any hg2 (by simp) (by simp)))
    | (go_at_call 77;refine HO.out.mono ?_;rintro e w3 ⟨v3,R3,rfl,ho3,hp3,_,hb3⟩;obtain rfl:=List.Perm.eq_nil hp3;obtain⟨a3,c3,rfl,_⟩:=OwnR.shape (K:=0) ho3 rfl))
  have HB3:=Lib.hid (hb2.trans (hb3.mono hb2.size))
  clear ho3 hp3 hb3 hg2 hb2 HS HO hlb2
  go_loopw [5,13] (fun sv iv wr=>iv=.int .i64 0∧sv=.slice none 0 0∧wr=w3) (fun _ _ _=>0)
  case atStart=>exact⟨rfl,rfl,rfl⟩
  case round=>
    obtain⟨rfl,rfl,rfl⟩:=hrel
    go_wp2
    go_ret
    exact⟨rfl,HB3.out⟩
end Go.Proofs.YtijemcfnlbapjaaGreatDoor
namespace Go.Proofs.YtijemcfnlbapjaaGreatDoor
open Go Go.RowKit Go.ChangeShapes Go.WideShapes
set_option maxHeartbeats 4000000 in
theorem nputE_any (w:World) (a b:Option Addr) (n q m r:Nat) (f:Bool) (z:Int):Calls Tryz.prog 37 #[.pointer none,txv a n q b m r f,.int .i64 z] w fun e w'=>e=.returned (errn 4)∧Below w.heap.size w w':=by
  go_enter Tryz.func37,Tryz.ntmps37
  go_wp2
  go_ret
  refine⟨rfl,?_⟩
  exact(Below.refl _ _).alloc (Nat.le_refl _) _
set_option maxRecDepth 100000 in
set_option maxHeartbeats 8000000 in
theorem nConflicts_any {w:World} (a:Option Addr) (n q:Nat) (b:Option Addr) (m r:Nat) (t:Tx.T) (ht:TxAt w a n q b m r t) (hs:Tx.Small t) (hK:KDg w) :
    Calls Tryz.prog 30 #[.pointer none,txv a n q b m r t.firm] w fun e w'=>(∃ (a':Option Addr) (c:Nat),e=.returned (.slice a' 0 c))∧Below w.heap.size w w':=by
  obtain⟨W1,hW1⟩:∃ x,x=w.alloc (.cells #[.slice a n q,.slice b m r,.bool t.firm] 34):=⟨_,rfl⟩
  have hB1:Below w.heap.size w W1:=by rw[hW1];exact(Below.refl _ _).alloc (Nat.le_refl _) _
  have hX:Has W1 w.heap.size 34 #[.slice a n q,.slice b m r,.bool t.firm]:=by rw[hW1];exact Has.fresh _ _ _
  have lX:=hX.load_agg (P:=Tryz.prog) (t:=34) Tryz.underlying34 rfl (by kernel_rfl)
  obtain⟨D,hDd⟩:∃ D,D=Tx.idOf false t:=⟨_,rfl⟩
  have HDL:=Lib.hid (show D.length=32 by rw[hDd];exact Tx.idOf_len _ _)
  have HI:=Lib.hid (show Calls Tryz.prog 42 #[txv a n q b m r t.firm] W1 fun e w'=>e=.returned (.agg (blist D).toArray)∧Below W1.heap.size W1 w' from hDd▸pid_any a n q b m r t t.firm rfl W1 (ht.below hB1) hs (hK.below hB1))
  have HR:=Lib.hid ht.sp
  have hmx:n≤9223372036854775807:=ht.sp.2.1
  have HW:=Lib.hid hW1
  have HX:=Lib.hid hX
  clear hW1 hX ht hs hK hDd
  go_enter Tryz.func30,Tryz.ntmps30
  go_upto_region 1 with fail
  rw[← HW.out]
  go_upto_region 2 with(first
    | (refine wpList_store_mid rfl 46 (.tmp 5) (.tmp 12) rfl w2.heap.size 0 (blist D).toArray rfl rfl (Gr.hsRec.there w2 46 (by kernel_rfl) HDL.out) (Gr.hsRec.size_eq Gr.size_hsr HDL.out) (Gr.hsRec.all_one D) ?_)
    | (go_at_call 42;refine HI.out.mono ?_;rintro e w2 ⟨rfl,hb2⟩)
    | (refine wpList_load_run rfl 34 (.tmp 3) rfl _ _ rfl lX ?_))
  obtain⟨w3,hw3⟩:∃ u',u'=(w2.alloc (.cells z32 46)).setCells w2.heap.size 0 (blist D):=⟨_,rfl⟩
  obtain⟨hD3,hb3⟩:=Rec.new (R:=Gr.hsRec) (by kernel_rfl) HDL.out hw3
  rw[← hw3]
  have hT3:Below w.heap.size w w3:=hB1.trans ((hb2.trans (hb3.mono hb2.size)).mono hB1.size)
  have c0:=(HX.out.under (hb2.trans (hb3.mono hb2.size)) HX.out.lt).cell_at (i:=0) (v:=.slice a n q) rfl
  obtain⟨g3,hg3⟩:∃ g,g=w2.heap.size:=⟨_,rfl⟩
  rw[← hg3] at hD3 ⊢
  have HT3:=Lib.hid hT3
  have HD3:=Lib.hid hD3
  clear hw3 hb2 hb3 hg3 lX
  go_upto_region 4 with fail
  go_loopw [6,16] (fun sv iv wr=>∃ (i:Nat),i≤n∧iv=.int .i64 i∧sv=.slice none 0 0∧Below w3.heap.size w3 wr) (fun _ iv _=>n-(intOf iv).toNat)
  case atStart=>exact⟨0,Nat.zero_le _,rfl,rfl,Below.refl _ _⟩
  case round=>
    clear hT3 hD3 c0
    obtain⟨i,hi,rfl,rfl,hb3⟩:=hrel
    have hb:Below w.heap.size w wr:=HT3.out.trans (hb3.mono HT3.out.size)
    have hD:=HD3.out.under hb3 HD3.out.lt
    by_cases hlt:i<n
    · have hii:(i:Int)<(n:Int):=by omega
      have hi0:(0:Int)≤(i:Int):=by omega
      obtain⟨s,hs⟩:=HR.out.get hlt
      obtain⟨y,hay,hy⟩:=spends_load (HR.out.below hb) hs
      subst hay
      have HS:=Lib.hid (HR.out.okay hs)
      clear hs
      go_upto_region 6 with(first
        | (refine wpList_store_mid rfl 61 (.tmp 8) (.tmp 19) rfl wr.heap.size 0 (spCells s).toArray rfl rfl (spRec.there wr 61 (by kernel_rfl) HS.out) (spRec.size_eq size_spend HS.out) (spRec.all_one s) ?_)
        | (refine wpList_load_run rfl 61 (.tmp 18) rfl _ _ rfl hy ?_))
      obtain⟨w5,hw5⟩:∃ u,u=(wr.alloc (.cells zSp 61)).setCells wr.heap.size 0 (spCells s):=⟨_,rfl⟩
      obtain⟨hG,hb5⟩:=Rec.new (R:=spRec) (by kernel_rfl) HS.out hw5
      rw[← hw5]
      have hD5:=hD.under hb5 hD.lt
      have HT53:=Lib.hid (hb3.trans (hb5.mono hb3.size))
      obtain⟨g5,hg5⟩:∃ g,g=wr.heap.size:=⟨_,rfl⟩
      rw[← hg5] at hG ⊢
      have lP:=hG.spPoint HS.out.1
      have HC:RowKit.Hid (Calls Tryz.prog 63 #[.pointer none,.agg (ptCells s.h s.n).toArray] w5 fun e w'=>e=.returned (.tuple #[.pointer none,.bool false])∧Below w5.heap.size w5 w'):=nspender_any w5 (s.h,s.n)
      clear hw5 hG hb5 hy hg5 hb hD hb3
      go_upto_region 7 with(first
        | (go_at_call 63;refine HC.out.mono ?_;rintro e w6 ⟨rfl,hb6⟩;have hB63:=HT53.out.trans (hb6.mono HT53.out.size);have hD6:=hD5.under hb6 hD5.lt)
        | (refine wpList_load_run rfl 58 (.tmp 22) rfl _ _ rfl lP ?_))
      obtain⟨ws,hws⟩:∃ ww,ww=w6.drew:=⟨_,rfl⟩
      have hBs3:Below w3.heap.size w3 ws:=by rw[hws];exact hB63.drew
      have hDs:Has ws g3 46 (blist D).toArray:=by rw[hws];exact hD6.draw
      refine wp_region_held_drew (S:=Held ws) (by kernel_rfl) (by rw[hws];exact Held.refl _) (fun hHeld=>?_)
      rw[← hws] at hHeld ⊢
      clear hws
      refine tka (v:=?_) 0 27 rfl rfl hHeld (Or.inl ⟨by rfl,?_⟩) rfl ?_
      rotate_left
      · intro wq hSw
        go_simp
        try with_reducible rfl
      simp only[ts0,ts1]
      refine tka (v:=?_) 1 28 rfl rfl hHeld (Or.inl ⟨by rfl,?_⟩) rfl ?_
      rotate_left
      · intro wq hSw
        go_simp
        try with_reducible rfl
      simp only[ts0,ts1]
      refine tka (v:=undef) 2 29 rfl rfl hHeld (Or.inr ⟨by rfl,rfl⟩) rfl ?_
      simp only[ts0,ts1]
      refine tka (v:=undef) 3 30 rfl rfl hHeld (Or.inr ⟨by rfl,rfl⟩) rfl ?_
      simp only[ts0,ts1]
      refine tka (v:=undef) 4 31 rfl rfl hHeld (Or.inr ⟨by rfl,rfl⟩) rfl ?_
      simp only[ts0,ts1]
      refine tka (v:=undef) 5 32 rfl rfl hHeld (Or.inr ⟨by rfl,rfl⟩) rfl ?_
      simp only[ts0,ts1]
      refine tka (v:=undef) 6 33 rfl rfl hHeld (Or.inr ⟨by rfl,rfl⟩) rfl ?_
      simp only[ts0,ts1]
      refine tka (v:=undef) 7 34 rfl rfl hHeld (Or.inr ⟨by rfl,rfl⟩) rfl ?_
      simp only[ts0,ts1]
      refine tka (v:=?_) 8 35 rfl rfl hHeld (Or.inl ⟨by rfl,?_⟩) rfl ?_
      rotate_left
      · intro wq hSw
        go_simp
        try with_reducible rfl
      simp only[ts0,ts1]
      refine wpAnyH_done (by kernel_rfl) ?_ _
      go_wp2
      go_roundw
      case rel=>exact⟨i+1,by omega,by go_num,rfl,hBs3⟩
      case measure=>(simp[intOf];try omega)
    · clear hb3 hD
      have hii:¬ (i:Int)<(n:Int):=by omega
      obtain rfl:i=n:=by omega
      have HBW:=Lib.hid hb
      have HG:=Lib.hid (ggroupof_any (OwnR.nil Gr.ptrRec 104 wr.heap.size wr) (fun z hz=>by cases hz) (by simp) (fun x y hx=>by cases hx))
      clear hb
      go_wp2_with (first
        | (go_at_call 66;refine HG.out.mono ?_;rintro e w4 ⟨b4,L4,rfl,hlb,hg4,hz4,hn4,hb4⟩;obtain rfl:L4=[]:=List.eq_nil_of_length_eq_zero (by simpa using hn4);have HI:=Lib.hid (gids_any hg4 (by simp) (by simp)))
        | (go_at_call 67;refine HI.out.mono ?_;rintro e w5 ⟨v5,L5,rfl,ho5,hp5,hw5,hb5⟩;obtain rfl:=List.Perm.eq_nil hp5;obtain⟨a5,c5,rfl,_⟩:=OwnR.shape (K:=0) ho5 rfl))
      go_ret
      exact⟨⟨_,_,rfl⟩,HBW.out.trans ((hb4.trans (hb5.mono hb4.size)).mono HBW.out.size)⟩
end Go.Proofs.YtijemcfnlbapjaaGreatDoor
