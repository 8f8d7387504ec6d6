/- GraphCopies: the main (mkgsw.py) -/
import Derived.Test.YtijemcfnlbapjaaGreatDoorJ37
import Derived.Test.YtijemcfnlbapjaaGreatDoorJ38
import Derived.Test.YtijemcfnlbapjaaGreatDoorJ39
import Derived.Test.YtijemcfnlbapjaaGreatDoorJ40
namespace Go.Proofs.YtijemcfnlbapjaaGreatDoor
open Go Go.RowKit Go.ChangeShapes Go.WideShapes
set_option maxRecDepth 100000 in
set_option maxHeartbeats 32000000 in
theorem gcopiesMain (a:Option Addr) (n q:Nat) (K:List Gr.Ac) (b:Option Addr) (m r:Nat) (K2:List Gr.Ac) (id:List (BitVec 8)) (hid:id.length=32) (W:World) (ha:Recs (Gr.acIn14 W) W a n K) (hb:Recs (Gr.acIn14 W) W b m K2) (hK:KDg W) (hT:Tab32 W 1 Dg.kL) :
    Calls Tryz.prog 6 #[.slice a n q,.slice b m r,.agg (blist id).toArray] W fun e w'=>e=.returned (.bool true)∧Below W.heap.size W w':=by
  have HLA:=Lib.hid ha
  have HLB:=Lib.hid hb
  have HKD:=Lib.hid (And.intro hK hT)
  have HIL:=Lib.hid hid
  have hnmx:n≤9223372036854775807:=ha.2.1
  have hmmx:m≤9223372036854775807:=hb.2.1
  obtain⟨W1,hW1⟩:∃ ww,ww=W.alloc (.cells (blist id).toArray 46):=⟨_,rfl⟩
  have hB1:Below W.heap.size W W1:=by rw[hW1];exact(Below.refl _ _).alloc (Nat.le_refl _) _
  have hX:Has W1 W.heap.size 46 (blist id).toArray:=by rw[hW1];exact Has.fresh _ _ _
  have HX:=Lib.hid hX
  have HLD:=Lib.hid (fun(w':World) (hb:Below W1.heap.size W1 w')=>(hX.under hb hX.lt).load_agg (P:=Tryz.prog) (t:=46) Tryz.underlying46 rfl (size_hs hid))
  have HW:=Lib.hid hW1
  have HB1:=Lib.hid hB1
  have HAL:=Lib.hid (alive14 W1 (hK.below hB1))
  clear ha hb hK hT hX hW1 hB1 hid
  go_enter Tryz.func6,Tryz.ntmps6
  go_upto_region 1 with fail
  rw[← HW.out]
  go_upto_region 5 with(first
    | (go_at_call 8;refine(glong_any b m r K2 w3 (HLB.out.below hT3) hT3).mono ?_;rintro e w4 ⟨z2,rfl,hz2,hb4⟩;have HZ2:=Lib.hid hz2;clear hz2;have hT4:=hT3.trans (hb4.mono hT3.size);have hI4:=hI3.trans (hb4.mono hI3.size))
    | (go_at_call 8;refine(glong_any a n q K w2 (HLA.out.below hT2) hT2).mono ?_;rintro e w3 ⟨z1,rfl,hz1,hb3⟩;have HZ1:=Lib.hid hz1;clear hz1;have hT3:=hT2.trans (hb3.mono hT2.size);have hI3:=hb2.trans (hb3.mono hb2.size))
    | (go_at_call 7;refine HAL.out.mono ?_;rintro e w2 ⟨rfl,hb2⟩;have hT2:=HB1.out.trans (hb2.mono HB1.out.size)))
  all_goals try(go_ret;first | exact⟨rfl,hT4⟩ | exact⟨rfl,hT3⟩)
  have hz1f:z1=false:=by first | rfl | assumption | simp_all
  have hz2f:z2=false:=by first | rfl | assumption | simp_all
  have HF:=Lib.hid (HZ1.out hz1f)
  have HF2:=Lib.hid (HZ2.out hz2f)
  have HT4:=Lib.hid hT4
  have HI4:=Lib.hid hI4
  have hn31:n≤31:=by rw[← HLA.out.1];exact HF.out.1
  have hm31:m≤31:=by rw[← HLB.out.1];exact HF2.out.1
  clear hz1f hz2f HZ1 HZ2 hb2 hb3 hb4 hT2 hT3 hT4 hI3 hI4
  have HNW:=Lib.hid (gnew_any w4)
  go_upto_region 6 with(go_at_call 9;refine HNW.out.mono ?_;rintro e w6 ⟨rfl,hA6,hb6⟩)
  obtain⟨g,hg⟩:∃ u,u=w4.heap.size+2:=⟨_,rfl⟩
  obtain⟨bn,hbn⟩:∃ u,u=w4.heap.size:=⟨_,rfl⟩
  obtain⟨bs,hbs⟩:∃ u,u=w4.heap.size+1:=⟨_,rfl⟩
  rw[← hg,← hbs,← hbn] at hA6
  rw[← hg]
  have h67:Below w6.heap.size w6 (w6.alloc (.cells #[] 50)):=(Below.refl _ _).alloc (Nat.le_refl _) _
  have hE:=(OwnR.empty (R:=Gr.rnRec) (T:=50) (B:=w6.heap.size) (w1:=w6.alloc (.cells #[] 50)) (g:=w6.heap.size) (Nat.le_refl _) (Has.fresh _ _ _)).recs
  have hl3:=hA6.lt3
  have hW4:=HT4.out.size
  have HB7:=Lib.hid (show Below W.heap.size W (w6.alloc (.cells #[] 50)) from(HT4.out.trans (hb6.mono HT4.out.size)).trans (h67.mono (Nat.le_trans HT4.out.size hb6.size)))
  have HP0:=Lib.hid (show Gr.Pl W (w6.alloc (.cells #[] 50)) g bn bs [] 0 (some ⟨w6.heap.size,0,none⟩) 0 0 [] from
    ⟨hA6.below h67,hE.1,hE.2,fun x e=>by(injection e with e;subst e;exact⟨by show w6.heap.size≠g;omega,by show w6.heap.size≠bn;omega,by show w6.heap.size≠bs;omega,by show w6.heap.size<_;simp⟩),rfl,(fun _ h=>by cases h),(fun _ h=>by cases h),⟨by omega,by omega,by omega⟩⟩)
  have HPL:=Lib.hid (gplay_any HP0.out HB7.out (by simp) a n q K HLA.out HF.out.2 (by omega) HKD.out.1 HKD.out.2)
  have H47:=Lib.hid (show Below w4.heap.size w4 (w6.alloc (.cells #[] 50)) from hb6.trans (h67.mono hb6.size))
  have HG4:=Lib.hid (show w4.heap.size≤g∧w4.heap.size≤bn∧w4.heap.size≤bs from⟨by omega,by omega,by omega⟩)
  clear hA6 hb6 hg hbn hbs h67 hE hl3
  go_upto_region 9 with(go_at_call 10;refine HPL.out.mono ?_;rintro e w8 ⟨ya,yn,yq,M,nx,L,rfl,hP8,hm8,hnx8,hne8,_⟩;obtain⟨y,rfl⟩:=Option.ne_none_iff_exists'.1 hne8;clear hne8;have hnil:=Gr.eqln_nil y yn yq)
  have HB8:=Lib.hid (show Below W.heap.size W w8 from HB7.out.trans (hm8.below (Gr.f3_low HP0.out) HB7.out.size))
  have H48:=Lib.hid (show Below w4.heap.size w4 w8 from H47.out.trans (hm8.below (fun j hj=>by have:=HG4.out;rcases hj with e | e | e<;>omega) H47.out.size))
  have HP8:=Lib.hid hP8
  have HN8:=Lib.hid hnx8
  clear hP8 hm8 hnx8 HPL HP0 hnil
  have HCP:=Lib.hid (gCopy_any HP8.out.ga)
  go_upto_region 10 with(go_at_call 34;refine HCP.out.mono ?_;rintro e w9 ⟨g2,bn2,bs2,rfl,hA9,hf9,hb9⟩)
  have hBW9:=HB8.out.trans (hb9.mono HB8.out.size)
  have HP9:=Lib.hid (show Gr.Pl W w9 g2 bn2 bs2 M nx (some y) yn yq L from⟨hA9,(HP8.out.below hb9).r,HP8.out.q,(fun x e=>by
    have h1:=(HP8.out.nf x e).2.2.2
    have h2:=hb9.size
    exact⟨by omega,by omega,by omega,by omega⟩),HP8.out.sim,HP8.out.va,HP8.out.ok,⟨by have:=HB8.out.size;omega,by have:=HB8.out.size;omega,by have:=HB8.out.size;omega⟩⟩)
  have HPL:=Lib.hid (gplay_any HP9.out hBW9 (by simp) b m r K2 HLB.out HF2.out.2 (by have:=HN8.out;omega) HKD.out.1 HKD.out.2)
  have HF9:=Lib.hid hf9
  have HB9:=Lib.hid hb9
  clear hA9 hf9 hb9 hBW9 HCP
  go_upto_region 11 with(go_at_call 10;refine HPL.out.mono ?_;rintro e wp ⟨ya2,yn2,yq2,M2,nx2,L2,rfl,hP2,hm2,_,hne2,_⟩;obtain⟨y2,rfl⟩:=Option.ne_none_iff_exists'.1 hne2;clear hne2)
  have H8p:=Lib.hid (show Below w8.heap.size w8 wp from HB9.out.trans (hm2.below (fun j hj=>by have:=HF9.out;rcases hj with e | e | e<;>omega) HB9.out.size))
  have HPc:=Lib.hid hP2
  have HPg:=Lib.hid (HP8.out.below H8p.out)
  have HBp:=Lib.hid (HB8.out.trans (H8p.out.mono HB8.out.size))
  have HIp:=Lib.hid (show Below W1.heap.size W1 wp from HI4.out.trans ((H48.out.trans (H8p.out.mono H48.out.size)).mono HI4.out.size))
  clear hP2 hm2 HPL HP9 HP8 HF9 HB9 H48 HI4 HN8 HAL HNW HF HF2
  go_upto_region 12 with fail
  have HGE:=Lib.hid (show ∀ w',Calls Tryz.prog 15 #[.pointer none,.agg (blist id).toArray] w' fun e w2=>e=.returned (.tuple #[.agg #[.slice none 0 0,.slice none 0 0,.bool false],.bool false])∧Below w'.heap.size w' w2 from fun w'=>nGet_any w' id HIL.out)
  obtain⟨E,hE⟩:∃ e,e=Gr.ez:=⟨_,rfl⟩
  have HEZ:=Lib.hid (show E.length=32 by rw[hE];rfl)
  have HSE:=Lib.hid (show ∀ w',Calls Tryz.prog 23 #[.pointer none,.agg (ptCells id 0).toArray] w' fun e w2=>e=.returned (.tuple #[.agg (blist E).toArray,.bool false])∧Below w'.heap.size w' w2 from fun w'=>hE▸nSpender_any w' (id,0) ⟨HIL.out,by show(-9223372036854775808:Int)≤0;omega,by show(0:Int)<9223372036854775808;omega⟩)
  have HCE:=Lib.hid (show ∀ w',Calls Tryz.prog 35 #[.pointer none,.agg (ptCells id 0).toArray] w' fun e w2=>e=.returned (.tuple #[.agg #[.int .i64 0,.int .u64 0],.bool false])∧Below w'.heap.size w' w2 from fun w'=>nCoin_any w' (id,0) ⟨HIL.out,by show(-9223372036854775808:Int)≤0;omega,by show(0:Int)<9223372036854775808;omega⟩)
  have HBP:=Lib.hid (show Tryz.prog.built 58 [(0,.agg (blist id).toArray)]=some (ptCells id 0).toArray from Gr.built_pt1 id HIL.out)
  clear hE
  have lp:=HLD.out wp HIp.out
  go_upto_region 13 with(first
    | (go_at_call 15;refine(HGE.out _).mono ?_;rintro e w1 ⟨rfl,hb1⟩)
    | (refine wpList_load_run rfl 46 (.tmp 5) rfl _ _ rfl lp ?_))
  have hp1:Below wp.heap.size wp (w1.alloc (.cells #[.slice none 0 0,.slice none 0 0,.bool false] 34)):=hb1.trans (((Below.refl _ _).alloc (Nat.le_refl _) _).mono hb1.size)
  obtain⟨wa,hwa⟩:∃ u,u=w1.alloc (.cells #[.slice none 0 0,.slice none 0 0,.bool false] 34):=⟨_,rfl⟩
  rw[← hwa] at hp1 ⊢
  have HPA:=Lib.hid hp1
  have la:=HLD.out wa (HIp.out.trans (HPA.out.mono HIp.out.size))
  clear hwa hp1 hb1 lp
  go_upto_region 14 with(first
    | (refine wpList_store_mid rfl 46 (.tmp 14) (.tmp 53) rfl w2.heap.size 0 (blist E).toArray rfl rfl (Gr.hsRec.there w2 46 (by kernel_rfl) HEZ.out) (Gr.hsRec.size_eq Gr.size_hsr HEZ.out) (Gr.hsRec.all_one E) ?_)
    | (go_at_call 23;refine(HSE.out _).mono ?_;rintro e w2 ⟨rfl,hb2⟩)
    | (refine ebld rfl 58 (.tmp 50) rfl _ _ rfl HBP.out ?_)
    | (refine wpList_load_run rfl 46 (.tmp 5) rfl _ _ rfl la ?_))
  obtain⟨wb,hwb⟩:∃ u,u=(w2.alloc (.cells z32 46)).setCells w2.heap.size 0 (blist E):=⟨_,rfl⟩
  obtain⟨_,hb3⟩:=Rec.new (R:=Gr.hsRec) (t:=E) (by kernel_rfl) HEZ.out hwb
  rw[← hwb]
  have HPB:=Lib.hid (HPA.out.trans ((hb2.trans (hb3.mono hb2.size)).mono HPA.out.size))
  have lb:=HLD.out wb (HIp.out.trans (HPB.out.mono HIp.out.size))
  clear hwb hb2 hb3 la
  go_upto_region 15 with(first
    | (go_at_call 35;refine(HCE.out _).mono ?_;rintro e w3 ⟨rfl,hb3⟩)
    | (refine ebld rfl 58 (.tmp 57) rfl _ _ rfl HBP.out ?_)
    | (refine wpList_load_run rfl 46 (.tmp 5) rfl _ _ rfl lb ?_))
  obtain⟨wc,hwc⟩:∃ u,u=w3.alloc (.cells #[.int .i64 0,.int .u64 0] 74):=⟨_,rfl⟩
  have hb4:Below w3.heap.size w3 wc:=by rw[hwc];exact(Below.refl _ _).alloc (Nat.le_refl _) _
  rw[← hwc]
  have HPC:=Lib.hid (HPB.out.trans ((hb3.trans (hb4.mono hb3.size)).mono HPB.out.size))
  have lc:=HLD.out wc (HIp.out.trans (HPC.out.mono HIp.out.size))
  have HRT:=Lib.hid (nRate_any (w:=wc.alloc (.cells (blist id).toArray 46)) (some ⟨wc.heap.size,0,none⟩) 1 id (Gr.hs_fresh HIL.out))
  clear hwc hb3 hb4 lb
  go_upto_region 16 with(first
    | (go_at_call 13;refine HRT.out.mono ?_;rintro e w4 ⟨rfl,hb4⟩)
    | (refine Gr.wpList_build_hs rfl (.tmp 64) rfl id HIL.out rfl ?_)
    | (refine wpList_load_run rfl 46 (.tmp 5) rfl _ _ rfl lc ?_))
  obtain⟨wd,hwd⟩:∃ u,u=w4.alloc (.cells #[.int .i64 0,.int .i64 0] 37):=⟨_,rfl⟩
  have hb5:Below w4.heap.size w4 wd:=by rw[hwd];exact(Below.refl _ _).alloc (Nat.le_refl _) _
  rw[← hwd]
  have hb45:Below wc.heap.size wc wd:=((Below.refl wc.heap.size wc).alloc (Nat.le_refl _) (.cells (blist id).toArray 46)).trans ((hb4.trans (hb5.mono hb4.size)).mono (by simp))
  have HPD:=Lib.hid (HPC.out.trans (hb45.mono HPC.out.size))
  clear hwd hb4 hb5 hb45 lc HRT
  go_upto_region 17 with(refine wpList_store_mid rfl 34 (.tmp 20) (.tmp 73) rfl _ 0 (vCells ⟨some ⟨wd.heap.size,0,none⟩,1,1,some ⟨wd.heap.size+1,0,none⟩,1,1,Gr.ea⟩).toArray rfl rfl ((Has.fresh_at _ _ _ (by simp)).there 0 3 (Nat.le_refl _)) (by kernel_rfl) (vRec.all_one ⟨some ⟨wd.heap.size,0,none⟩,1,1,some ⟨wd.heap.size+1,0,none⟩,1,1,Gr.ea⟩) ?_)
  obtain⟨u3,hu3⟩:∃ u,u=((wd.alloc (.cells zSp 61)).alloc (.cells #[.int .i64 0,.int .u64 0] 74)).alloc (.cells zTx 34):=⟨_,rfl⟩
  obtain⟨we,hwe⟩:∃ u,u=u3.setCells (wd.heap.size+1+1) 0 (vCells ⟨some ⟨wd.heap.size,0,none⟩,1,1,some ⟨wd.heap.size+1,0,none⟩,1,1,Gr.ea⟩):=⟨_,rfl⟩
  rw[← hu3,← hwe]
  have hm3:Moved (fun j=>j=wd.heap.size+1+1) u3 we:=by rw[hwe];exact Moved.putAll (F:=fun j=>j=wd.heap.size+1+1) (.inl rfl) _ 0 (Moved.refl _ _)
  have hbu3:Below wd.heap.size wd u3:=by rw[hu3];exact(((Below.refl _ wd).alloc (Nat.le_refl _) _).alloc (by simp) _).alloc (by simp;omega) _
  have hb3:Below wd.heap.size wd we:=by rw[hwe];exact below_setAll (by omega) _ 0 hbu3
  have hO3:Has we (wd.heap.size+1+1) 34 (vCells ⟨some ⟨wd.heap.size,0,none⟩,1,1,some ⟨wd.heap.size+1,0,none⟩,1,1,Gr.ea⟩).toArray:=by
    rw[hwe]
    exact(show Has u3 (wd.heap.size+1+1) 34 zTx by rw[hu3];exact Has.fresh_at _ _ _ (by simp)).whole_cs (cs2:=(vCells ⟨some ⟨wd.heap.size,0,none⟩,1,1,some ⟨wd.heap.size+1,0,none⟩,1,1,Gr.ea⟩).toArray) rfl
  have hTA:TxAt we (some ⟨wd.heap.size,0,none⟩) 1 1 (some ⟨wd.heap.size+1,0,none⟩) 1 1 Gr.ea:=Gr.e_at (h:=Gr.ez) rfl ((show Has u3 wd.heap.size 61 zSp by rw[hu3];exact((Has.fresh wd _ _).past _).past _).moved hm3 (by omega)) ((show Has u3 (wd.heap.size+1) 74 #[.int .i64 0,.int .u64 0] by rw[hu3];exact(Has.fresh_at _ _ _ (by simp)).past _).moved hm3 (by omega))
  have HPE:=Lib.hid (HPD.out.trans (hb3.mono HPD.out.size))
  obtain⟨ka,hka⟩:∃ u,u=wd.heap.size:=⟨_,rfl⟩
  obtain⟨gt,hgt⟩:∃ u,u=wd.heap.size+1+1:=⟨_,rfl⟩
  rw[← hgt,← hka] at hO3
  rw[← hka] at hTA
  rw[← hgt]
  have HO3:=Lib.hid hO3
  have HTA:=Lib.hid hTA
  clear hu3 hwe hm3 hbu3 hb3 hO3 hTA hka hgt
  obtain⟨ws,hws⟩:∃ u,u=we.drew:=⟨_,rfl⟩
  have hes:Below we.heap.size we ws:=by rw[hws];exact(Below.refl _ _).drew
  have HPS:=Lib.hid (HPE.out.trans (hes.mono HPE.out.size))
  have HBS:=Lib.hid (HBp.out.trans (HPS.out.mono HBp.out.size))
  have HLT:=Lib.hid (show ∀ w',Held ws w'→(Instr.loadAt 34 (.pointer (some ⟨gt,0,none⟩))).run Tryz.prog w'=.ok (txv (some ⟨ka,0,none⟩) 1 1 (some ⟨ka+1,0,none⟩) 1 1 false) w' from fun w' hb=>(HO3.out.under (hes.trans (hb.mono hes.size)) HO3.out.lt).load_agg (P:=Tryz.prog) (t:=34) Tryz.underlying34 rfl (vRec.size_eq Gr.size_txv' trivial))
  obtain⟨gi,hgi⟩:∃ u,u=W.heap.size:=⟨_,rfl⟩
  rw[← hgi] at HLD ⊢
  have HLI:=Lib.hid (show ∀ w',Held ws w'→(Instr.loadAt 46 (.pointer (some ⟨gi,0,none⟩))).run Tryz.prog w'=.ok (.agg (blist id).toArray) w' from fun w' hb=>HLD.out w' (HIp.out.trans ((HPS.out.trans (hb.below.mono HPS.out.size)).mono HIp.out.size)))
  have HS1:=Lib.hid (show ∀ w',Held ws w'→Calls Tryz.prog 11 #[.pointer (some ⟨g,0,none⟩),.slice (some y) yn yq] w' fun e w2=>e=.returned (.bool true)∧Below w'.heap.size w' w2 from fun w' hb=>gstands_any (HPg.out.below (HPS.out.trans (hb.below.mono HPS.out.size))) (HBS.out.trans (hb.below.mono HBS.out.size)))
  have HS2:=Lib.hid (show ∀ w',Held ws w'→Calls Tryz.prog 11 #[.pointer (some ⟨g2,0,none⟩),.slice (some y2) yn2 yq2] w' fun e w2=>e=.returned (.bool true)∧Below w'.heap.size w' w2 from fun w' hb=>gstands_any (HPc.out.below (HPS.out.trans (hb.below.mono HPS.out.size))) (HBS.out.trans (hb.below.mono HBS.out.size)))
  have HPU:=Lib.hid (show ∀ w',Calls Tryz.prog 37 #[.pointer none,txv (some ⟨ka,0,none⟩) 1 1 (some ⟨ka+1,0,none⟩) 1 1 false,.int .i64 1] w' fun e w2=>e=.returned (errn 4)∧Below w'.heap.size w' w2 from fun w'=>nputE_any w' _ _ 1 1 1 1 false 1)
  have HCO:=Lib.hid (show ∀ w',Held ws w'→Calls Tryz.prog 30 #[.pointer none,txv (some ⟨ka,0,none⟩) 1 1 (some ⟨ka+1,0,none⟩) 1 1 false] w' fun e w2=>(∃ (a':Option Addr) (c:Nat),e=.returned (.slice a' 0 c))∧Below w'.heap.size w' w2 from fun w' hb=>nConflicts_any (some ⟨ka,0,none⟩) 1 1 (some ⟨ka+1,0,none⟩) 1 1 Gr.ea (HTA.out.below (hes.trans (hb.mono hes.size))) (Gr.e_small _) (HKD.out.1.below (HBS.out.trans (hb.below.mono HBS.out.size))))
  have HNE:=Lib.hid (Gr.neq_nil y2 yn2 yq2)
  clear HLD HPg HPc HLA HLB HX HW hgi HGE HSE HCE
  refine wp_region_held_drew (S:=Held ws) (by kernel_rfl) (by rw[hws];exact Held.refl _) (fun hHeld=>?_)
  rw[← hws] at hHeld ⊢
  clear hws hes hHeld
  refine Lo.start (V:=Lo.vs [Lo.is (.slice (some y2) yn2 yq2),Lo.is (.bool true),Lo.is (.bool true),Lo.is (.pointer (some ⟨g,0,none⟩)),Lo.is (.slice (some y) yn yq),Lo.is (.bool true),Lo.is (.bool true),Lo.is (.bool true),Lo.is (.pointer (some ⟨g2,0,none⟩)),Lo.is (.slice (some y2) yn2 yq2),Lo.is (.bool true),Lo.is (.bool true),Lo.is (.bool true),Lo.is (.pointer none),Lo.is (txv (some ⟨ka,0,none⟩) 1 1 (some ⟨ka+1,0,none⟩) 1 1 false),Lo.is (errn 4),Lo.is (.bool true),Lo.is (.bool true),Lo.is (.bool true),Lo.is (errn 4),Lo.is (.bool true),Lo.is (.bool true),Lo.is (.bool true),Lo.is (.bool false),Lo.is (.bool true),Lo.is (.bool true),Lo.is (.bool true),Lo.is (.bool false),Lo.is (.bool true),Lo.is (.bool true),Lo.is (.bool true),Lo.is (.bool false),Lo.is (.bool true),Lo.is (.bool true),Lo.is (.bool true),Lo.is (.pointer none),Lo.is (.agg (blist id).toArray),Lo.is (.bool false),Lo.is (.bool true),Lo.is (.bool true),Lo.is (.bool true),Lo.is (.pointer none),Lo.is (.int .i64 0),Lo.is (.bool true),Lo.is (.bool true),Lo.is (.bool true),Lo.is (.pointer none),Lo.is (.slice none 0 0),Lo.is (.int .i64 0),Lo.is (.pointer none),Lo.is (.agg (blist id).toArray),Lo.is (.slice none 0 0),Lo.is (.int .i64 0),Lo.is (.int .i64 0),Lo.is (.pointer none),Lo.is (.agg (blist id).toArray),Lo.is (.slice none 0 0),Lo.is (.int .i64 0),Lo.is (.int .i64 0),Lo.is (.pointer none),Lo.is (.agg (blist id).toArray),Gr.slIs id,Gr.nilsh,Lo.is (.int .i64 0),Lo.is (.int .i64 0),Lo.is (.pointer none),Lo.is (.agg (blist id).toArray),Gr.slIs id,Gr.nilsh,Lo.is (.int .i64 0),Lo.is (.int .i64 0),Lo.is (.pointer none),Lo.is (txv (some ⟨ka,0,none⟩) 1 1 (some ⟨ka+1,0,none⟩) 1 1 false),Gr.nilsh,Lo.is (.int .i64 0),Lo.is (.int .i64 0),Lo.is (.pointer none),Lo.is (.agg (blist id).toArray),Gr.slIs id,Lo.is (.slice none 0 0),Lo.is (.int .i64 0),Lo.is (.int .i64 0),Lo.is (.bool true),Lo.is (.bool true),Lo.is (.bool true),Lo.is (.pointer none),Lo.is (.pointer none),Lo.is (.bool true),Lo.is (.bool true),Lo.is (.bool true)]) [0,1,2,3,4,5,6,7,8,9,10,11,12,13,14,15,16,17,18,19,20,21,22,23,24,25,26,27,28,29,30,31,32,33,34,35,36,37,38,39,40,41,42,43,44,45,46,47,48,49,50,51,52,53,54,55,56,57,58,59,60,61,62,63,64,65,66,67,68,69,70,71,72,73,74,75,76,77,78,79,80,81,82,83,84,85,86,87,88,89] (by kernel_rfl) (by kernel_rfl) (Lo.mono_vs ?_) (fun _ h=>h) (by decide) ?_ ?_
  · repeat refine List.forall_mem_cons.2 ⟨by first | exact Lo.mono_is _ | exact Gr.mono_sl _ | exact Gr.mono_nil,?_⟩
    exact fun _ h=>(List.not_mem_nil h).elim
  · refine List.forall_mem_cons.2 ⟨?_,?_⟩
    · exact Lo.sMove rfl (.tmp 10) (.slice (some y2) yn2 yq2) (fun _ _=>rfl) (.inl rfl) (fun a w k=>Lo.wanted_none rfl) (fun a w k=>k.old 10 (by kernel_rfl))
    refine List.forall_mem_cons.2 ⟨?_,?_⟩
    · exact Lo.sBin rfl .neq 27 27 (.tmp 74) (.const (.slice none 0 0)) (.slice (some y2) yn2 yq2) (.slice none 0 0) (.bool true) (fun _ _=>rfl) rfl (fun a w k=>Lo.wanted_none rfl) (fun a w k=>⟨k.val 0 74 (by kernel_rfl),rfl⟩) (fun w=>HNE.out _ _ w)
    refine List.forall_mem_cons.2 ⟨?_,?_⟩
    · exact Lo.sMove rfl (.tmp 75) (.bool true) (fun _ _=>rfl) (.inl rfl) (fun a w k=>Lo.wanted_none rfl) (fun a w k=>k.val 1 75 (by kernel_rfl))
    refine List.forall_mem_cons.2 ⟨?_,?_⟩
    · exact Lo.sMove rfl (.tmp 7) (.pointer (some ⟨g,0,none⟩)) (fun _ _=>rfl) (.inl rfl) (fun a w k=>Lo.wanted_at 2 76 true rfl rfl (k.val 2 76 (by kernel_rfl))) (fun a w k=>k.old 7 (by kernel_rfl))
    refine List.forall_mem_cons.2 ⟨?_,?_⟩
    · exact Lo.sMove rfl (.tmp 8) (.slice (some y) yn yq) (fun _ _=>rfl) (.inl rfl) (fun a w k=>Lo.wanted_at 2 76 true rfl rfl (k.val 2 76 (by kernel_rfl))) (fun a w k=>k.old 8 (by kernel_rfl))
    refine List.forall_mem_cons.2 ⟨?_,?_⟩
    · exact Lo.sCall rfl 11 #[.tmp 77,.tmp 78] #[25,27] rfl Tryz.func11 rfl rfl (fun a w k=>Lo.wanted_at 2 76 true rfl rfl (k.val 2 76 (by kernel_rfl))) (fun a w k=>⟨#[.pointer (some ⟨g,0,none⟩),.slice (some y) yn yq],Lo.m2 (k.val 3 77 (by kernel_rfl)) (k.val 4 78 (by kernel_rfl)),(HS1.out w k.held).mono (by rintro e w2 ⟨rfl,hb⟩;exact⟨_,rfl,hb,rfl⟩)⟩)
    refine List.forall_mem_cons.2 ⟨?_,?_⟩
    · exact Lo.sPick rfl (.tmp 76) (.tmp 79) (.const (.bool false)) (.bool true) (fun _ _=>rfl) rfl (fun a w k=>Lo.wanted_none rfl) (fun a w k=>⟨k.val 2 76 (by kernel_rfl),k.val 5 79 (by kernel_rfl)⟩)
    refine List.forall_mem_cons.2 ⟨?_,?_⟩
    · exact Lo.sMove rfl (.tmp 80) (.bool true) (fun _ _=>rfl) (.inl rfl) (fun a w k=>Lo.wanted_none rfl) (fun a w k=>k.val 6 80 (by kernel_rfl))
    refine List.forall_mem_cons.2 ⟨?_,?_⟩
    · exact Lo.sMove rfl (.tmp 9) (.pointer (some ⟨g2,0,none⟩)) (fun _ _=>rfl) (.inl rfl) (fun a w k=>Lo.wanted_at 7 81 true rfl rfl (k.val 7 81 (by kernel_rfl))) (fun a w k=>k.old 9 (by kernel_rfl))
    refine List.forall_mem_cons.2 ⟨?_,?_⟩
    · exact Lo.sMove rfl (.tmp 10) (.slice (some y2) yn2 yq2) (fun _ _=>rfl) (.inl rfl) (fun a w k=>Lo.wanted_at 7 81 true rfl rfl (k.val 7 81 (by kernel_rfl))) (fun a w k=>k.old 10 (by kernel_rfl))
    refine List.forall_mem_cons.2 ⟨?_,?_⟩
    · exact Lo.sCall rfl 11 #[.tmp 82,.tmp 83] #[25,27] rfl Tryz.func11 rfl rfl (fun a w k=>Lo.wanted_at 7 81 true rfl rfl (k.val 7 81 (by kernel_rfl))) (fun a w k=>⟨#[.pointer (some ⟨g2,0,none⟩),.slice (some y2) yn2 yq2],Lo.m2 (k.val 8 82 (by kernel_rfl)) (k.val 9 83 (by kernel_rfl)),(HS2.out w k.held).mono (by rintro e w2 ⟨rfl,hb⟩;exact⟨_,rfl,hb,rfl⟩)⟩)
    refine List.forall_mem_cons.2 ⟨?_,?_⟩
    · exact Lo.sPick rfl (.tmp 81) (.tmp 84) (.const (.bool false)) (.bool true) (fun _ _=>rfl) rfl (fun a w k=>Lo.wanted_none rfl) (fun a w k=>⟨k.val 7 81 (by kernel_rfl),k.val 10 84 (by kernel_rfl)⟩)
    refine List.forall_mem_cons.2 ⟨?_,?_⟩
    · exact Lo.sMove rfl (.tmp 85) (.bool true) (fun _ _=>rfl) (.inl rfl) (fun a w k=>Lo.wanted_none rfl) (fun a w k=>k.val 11 85 (by kernel_rfl))
    refine List.forall_mem_cons.2 ⟨?_,?_⟩
    · exact Lo.sMove rfl (.tmp 11) (.pointer none) (fun _ _=>rfl) (.inl rfl) (fun a w k=>Lo.wanted_at 12 86 true rfl rfl (k.val 12 86 (by kernel_rfl))) (fun a w k=>k.old 11 (by kernel_rfl))
    refine List.forall_mem_cons.2 ⟨?_,?_⟩
    · exact Lo.sLoad rfl 34 (.tmp 20) (.pointer (some ⟨gt,0,none⟩)) (txv (some ⟨ka,0,none⟩) 1 1 (some ⟨ka+1,0,none⟩) 1 1 false) (fun _ _=>rfl) rfl (fun a w k=>Lo.wanted_at 12 86 true rfl rfl (k.val 12 86 (by kernel_rfl))) (fun a w k=>k.old 20 (by kernel_rfl)) (fun w h=>HLT.out w h)
    refine List.forall_mem_cons.2 ⟨?_,?_⟩
    · exact Lo.sCall rfl 37 #[.tmp 87,.tmp 88,.const (.int .i64 1)] #[25,34,3] rfl Tryz.func37 rfl rfl (fun a w k=>Lo.wanted_at 12 86 true rfl rfl (k.val 12 86 (by kernel_rfl))) (fun a w k=>⟨#[.pointer none,txv (some ⟨ka,0,none⟩) 1 1 (some ⟨ka+1,0,none⟩) 1 1 false,.int .i64 1],Lo.m3 (k.val 13 87 (by kernel_rfl)) (k.val 14 88 (by kernel_rfl)) rfl,(HPU.out w).mono (by rintro e w2 ⟨rfl,hb⟩;exact⟨_,rfl,hb,rfl⟩)⟩)
    refine List.forall_mem_cons.2 ⟨?_,?_⟩
    · exact Lo.sCall rfl 36 #[.tmp 89,.const (.int .i64 4)] #[39,79] rfl Tryz.func36 rfl rfl (fun a w k=>Lo.wanted_at 12 86 true rfl rfl (k.val 12 86 (by kernel_rfl))) (fun a w k=>⟨#[errn 4,.int .i64 4],Lo.m2 (k.val 15 89 (by kernel_rfl)) rfl,(is_erro 4 rfl w).mono (by rintro e w2 ⟨rfl,rfl⟩;exact⟨_,rfl,Held.refl _,rfl⟩)⟩)
    refine List.forall_mem_cons.2 ⟨?_,?_⟩
    · exact Lo.sPick rfl (.tmp 86) (.tmp 90) (.const (.bool false)) (.bool true) (fun _ _=>rfl) rfl (fun a w k=>Lo.wanted_none rfl) (fun a w k=>⟨k.val 12 86 (by kernel_rfl),k.val 16 90 (by kernel_rfl)⟩)
    refine List.forall_mem_cons.2 ⟨?_,?_⟩
    · exact Lo.sMove rfl (.tmp 91) (.bool true) (fun _ _=>rfl) (.inl rfl) (fun a w k=>Lo.wanted_none rfl) (fun a w k=>k.val 17 91 (by kernel_rfl))
    refine List.forall_mem_cons.2 ⟨?_,?_⟩
    · exact Lo.sMove rfl (.tmp 19) (errn 4) (fun _ _=>rfl) (.inl rfl) (fun a w k=>Lo.wanted_at 18 92 true rfl rfl (k.val 18 92 (by kernel_rfl))) (fun a w k=>k.old 19 (by kernel_rfl))
    refine List.forall_mem_cons.2 ⟨?_,?_⟩
    · exact Lo.sCall rfl 36 #[.tmp 93,.const (.int .i64 4)] #[39,79] rfl Tryz.func36 rfl rfl (fun a w k=>Lo.wanted_at 18 92 true rfl rfl (k.val 18 92 (by kernel_rfl))) (fun a w k=>⟨#[errn 4,.int .i64 4],Lo.m2 (k.val 19 93 (by kernel_rfl)) rfl,(is_erro 4 rfl w).mono (by rintro e w2 ⟨rfl,rfl⟩;exact⟨_,rfl,Held.refl _,rfl⟩)⟩)
    refine List.forall_mem_cons.2 ⟨?_,?_⟩
    · exact Lo.sPick rfl (.tmp 92) (.tmp 94) (.const (.bool false)) (.bool true) (fun _ _=>rfl) rfl (fun a w k=>Lo.wanted_none rfl) (fun a w k=>⟨k.val 18 92 (by kernel_rfl),k.val 20 94 (by kernel_rfl)⟩)
    refine List.forall_mem_cons.2 ⟨?_,?_⟩
    · exact Lo.sMove rfl (.tmp 95) (.bool true) (fun _ _=>rfl) (.inl rfl) (fun a w k=>Lo.wanted_none rfl) (fun a w k=>k.val 21 95 (by kernel_rfl))
    refine List.forall_mem_cons.2 ⟨?_,?_⟩
    · exact Lo.sMove rfl (.tmp 13) (.bool false) (fun _ _=>rfl) (.inl rfl) (fun a w k=>Lo.wanted_at 22 96 true rfl rfl (k.val 22 96 (by kernel_rfl))) (fun a w k=>k.old 13 (by kernel_rfl))
    refine List.forall_mem_cons.2 ⟨?_,?_⟩
    · exact Lo.sNot rfl 4 (.tmp 97) false (fun _ _=>rfl) rfl (fun a w k=>Lo.wanted_at 22 96 true rfl rfl (k.val 22 96 (by kernel_rfl))) (fun a w k=>k.val 23 97 (by kernel_rfl))
    refine List.forall_mem_cons.2 ⟨?_,?_⟩
    · exact Lo.sPick rfl (.tmp 96) (.tmp 98) (.const (.bool false)) (.bool true) (fun _ _=>rfl) rfl (fun a w k=>Lo.wanted_none rfl) (fun a w k=>⟨k.val 22 96 (by kernel_rfl),k.val 24 98 (by kernel_rfl)⟩)
    refine List.forall_mem_cons.2 ⟨?_,?_⟩
    · exact Lo.sMove rfl (.tmp 99) (.bool true) (fun _ _=>rfl) (.inl rfl) (fun a w k=>Lo.wanted_none rfl) (fun a w k=>k.val 25 99 (by kernel_rfl))
    refine List.forall_mem_cons.2 ⟨?_,?_⟩
    · exact Lo.sMove rfl (.tmp 15) (.bool false) (fun _ _=>rfl) (.inl rfl) (fun a w k=>Lo.wanted_at 26 100 true rfl rfl (k.val 26 100 (by kernel_rfl))) (fun a w k=>k.old 15 (by kernel_rfl))
    refine List.forall_mem_cons.2 ⟨?_,?_⟩
    · exact Lo.sNot rfl 4 (.tmp 101) false (fun _ _=>rfl) rfl (fun a w k=>Lo.wanted_at 26 100 true rfl rfl (k.val 26 100 (by kernel_rfl))) (fun a w k=>k.val 27 101 (by kernel_rfl))
    refine List.forall_mem_cons.2 ⟨?_,?_⟩
    · exact Lo.sPick rfl (.tmp 100) (.tmp 102) (.const (.bool false)) (.bool true) (fun _ _=>rfl) rfl (fun a w k=>Lo.wanted_none rfl) (fun a w k=>⟨k.val 26 100 (by kernel_rfl),k.val 28 102 (by kernel_rfl)⟩)
    refine List.forall_mem_cons.2 ⟨?_,?_⟩
    · exact Lo.sMove rfl (.tmp 103) (.bool true) (fun _ _=>rfl) (.inl rfl) (fun a w k=>Lo.wanted_none rfl) (fun a w k=>k.val 29 103 (by kernel_rfl))
    refine List.forall_mem_cons.2 ⟨?_,?_⟩
    · exact Lo.sMove rfl (.tmp 17) (.bool false) (fun _ _=>rfl) (.inl rfl) (fun a w k=>Lo.wanted_at 30 104 true rfl rfl (k.val 30 104 (by kernel_rfl))) (fun a w k=>k.old 17 (by kernel_rfl))
    refine List.forall_mem_cons.2 ⟨?_,?_⟩
    · exact Lo.sNot rfl 4 (.tmp 105) false (fun _ _=>rfl) rfl (fun a w k=>Lo.wanted_at 30 104 true rfl rfl (k.val 30 104 (by kernel_rfl))) (fun a w k=>k.val 31 105 (by kernel_rfl))
    refine List.forall_mem_cons.2 ⟨?_,?_⟩
    · exact Lo.sPick rfl (.tmp 104) (.tmp 106) (.const (.bool false)) (.bool true) (fun _ _=>rfl) rfl (fun a w k=>Lo.wanted_none rfl) (fun a w k=>⟨k.val 30 104 (by kernel_rfl),k.val 32 106 (by kernel_rfl)⟩)
    refine List.forall_mem_cons.2 ⟨?_,?_⟩
    · exact Lo.sMove rfl (.tmp 107) (.bool true) (fun _ _=>rfl) (.inl rfl) (fun a w k=>Lo.wanted_none rfl) (fun a w k=>k.val 33 107 (by kernel_rfl))
    refine List.forall_mem_cons.2 ⟨?_,?_⟩
    · exact Lo.sMove rfl (.tmp 11) (.pointer none) (fun _ _=>rfl) (.inl rfl) (fun a w k=>Lo.wanted_at 34 108 true rfl rfl (k.val 34 108 (by kernel_rfl))) (fun a w k=>k.old 11 (by kernel_rfl))
    refine List.forall_mem_cons.2 ⟨?_,?_⟩
    · exact Lo.sLoad rfl 46 (.tmp 5) (.pointer (some ⟨gi,0,none⟩)) (.agg (blist id).toArray) (fun _ _=>rfl) rfl (fun a w k=>Lo.wanted_at 34 108 true rfl rfl (k.val 34 108 (by kernel_rfl))) (fun a w k=>k.old 5 (by kernel_rfl)) (fun w h=>HLI.out w h)
    refine List.forall_mem_cons.2 ⟨?_,?_⟩
    · exact Lo.sCall rfl 38 #[.tmp 109,.tmp 110] #[25,46] rfl Tryz.func38 rfl rfl (fun a w k=>Lo.wanted_at 34 108 true rfl rfl (k.val 34 108 (by kernel_rfl))) (fun a w k=>⟨#[.pointer none,.agg (blist id).toArray],Lo.m2 (k.val 35 109 (by kernel_rfl)) (k.val 36 110 (by kernel_rfl)),(nhas_any w id HIL.out).mono (by rintro e w2 ⟨rfl,hb⟩;exact⟨_,rfl,hb,rfl⟩)⟩)
    refine List.forall_mem_cons.2 ⟨?_,?_⟩
    · exact Lo.sNot rfl 4 (.tmp 111) false (fun _ _=>rfl) rfl (fun a w k=>Lo.wanted_at 34 108 true rfl rfl (k.val 34 108 (by kernel_rfl))) (fun a w k=>k.val 37 111 (by kernel_rfl))
    refine List.forall_mem_cons.2 ⟨?_,?_⟩
    · exact Lo.sPick rfl (.tmp 108) (.tmp 112) (.const (.bool false)) (.bool true) (fun _ _=>rfl) rfl (fun a w k=>Lo.wanted_none rfl) (fun a w k=>⟨k.val 34 108 (by kernel_rfl),k.val 38 112 (by kernel_rfl)⟩)
    refine List.forall_mem_cons.2 ⟨?_,?_⟩
    · exact Lo.sMove rfl (.tmp 113) (.bool true) (fun _ _=>rfl) (.inl rfl) (fun a w k=>Lo.wanted_none rfl) (fun a w k=>k.val 39 113 (by kernel_rfl))
    refine List.forall_mem_cons.2 ⟨?_,?_⟩
    · exact Lo.sMove rfl (.tmp 11) (.pointer none) (fun _ _=>rfl) (.inl rfl) (fun a w k=>Lo.wanted_at 40 114 true rfl rfl (k.val 40 114 (by kernel_rfl))) (fun a w k=>k.old 11 (by kernel_rfl))
    refine List.forall_mem_cons.2 ⟨?_,?_⟩
    · exact Lo.sCall rfl 39 #[.tmp 115] #[25] rfl Tryz.func39 rfl rfl (fun a w k=>Lo.wanted_at 40 114 true rfl rfl (k.val 40 114 (by kernel_rfl))) (fun a w k=>⟨#[.pointer none],Lo.m1 (k.val 41 115 (by kernel_rfl)),(nlen_any w).mono (by rintro e w2 ⟨rfl,hb⟩;exact⟨_,rfl,hb,rfl⟩)⟩)
    refine List.forall_mem_cons.2 ⟨?_,?_⟩
    · exact Lo.sBin rfl .eql 3 3 (.tmp 116) (.const (.int .i64 0)) (.int .i64 0) (.int .i64 0) (.bool true) (fun _ _=>rfl) rfl (fun a w k=>Lo.wanted_at 40 114 true rfl rfl (k.val 40 114 (by kernel_rfl))) (fun a w k=>⟨k.val 42 116 (by kernel_rfl),rfl⟩) (fun w=>Gr.eq00 _ _ w)
    refine List.forall_mem_cons.2 ⟨?_,?_⟩
    · exact Lo.sPick rfl (.tmp 114) (.tmp 117) (.const (.bool false)) (.bool true) (fun _ _=>rfl) rfl (fun a w k=>Lo.wanted_none rfl) (fun a w k=>⟨k.val 40 114 (by kernel_rfl),k.val 43 117 (by kernel_rfl)⟩)
    refine List.forall_mem_cons.2 ⟨?_,?_⟩
    · exact Lo.sMove rfl (.tmp 118) (.bool true) (fun _ _=>rfl) (.inl rfl) (fun a w k=>Lo.wanted_none rfl) (fun a w k=>k.val 44 118 (by kernel_rfl))
    refine List.forall_mem_cons.2 ⟨?_,?_⟩
    · exact Lo.sMove rfl (.tmp 11) (.pointer none) (fun _ _=>rfl) (.inl rfl) (fun a w k=>Lo.wanted_at 45 119 true rfl rfl (k.val 45 119 (by kernel_rfl))) (fun a w k=>k.old 11 (by kernel_rfl))
    refine List.forall_mem_cons.2 ⟨?_,?_⟩
    · exact Lo.sCall rfl 33 #[.tmp 120] #[25] rfl Tryz.func33 rfl rfl (fun a w k=>Lo.wanted_at 45 119 true rfl rfl (k.val 45 119 (by kernel_rfl))) (fun a w k=>⟨#[.pointer none],Lo.m1 (k.val 46 120 (by kernel_rfl)),(nIDs_any w).mono (by rintro e w2 ⟨rfl,hb⟩;exact⟨_,rfl,hb,rfl⟩)⟩)
    refine List.forall_mem_cons.2 ⟨?_,?_⟩
    · exact Lo.sLen rfl (.tmp 121) 30 0 (fun _ _=>rfl) rfl Tryz.underlying30 (fun a w k=>Lo.wanted_at 45 119 true rfl rfl (k.val 45 119 (by kernel_rfl))) (fun a w k=>⟨_,_,k.val 47 121 (by kernel_rfl)⟩)
    refine List.forall_mem_cons.2 ⟨?_,?_⟩
    · exact Lo.sMove rfl (.tmp 11) (.pointer none) (fun _ _=>rfl) (.inl rfl) (fun a w k=>Lo.wanted_at 45 119 true rfl rfl (k.val 45 119 (by kernel_rfl))) (fun a w k=>k.old 11 (by kernel_rfl))
    refine List.forall_mem_cons.2 ⟨?_,?_⟩
    · exact Lo.sLoad rfl 46 (.tmp 5) (.pointer (some ⟨gi,0,none⟩)) (.agg (blist id).toArray) (fun _ _=>rfl) rfl (fun a w k=>Lo.wanted_at 45 119 true rfl rfl (k.val 45 119 (by kernel_rfl))) (fun a w k=>k.old 5 (by kernel_rfl)) (fun w h=>HLI.out w h)
    refine List.forall_mem_cons.2 ⟨?_,?_⟩
    · exact Lo.sCall rfl 19 #[.tmp 123,.tmp 124] #[25,46] rfl Tryz.func19 rfl rfl (fun a w k=>Lo.wanted_at 45 119 true rfl rfl (k.val 45 119 (by kernel_rfl))) (fun a w k=>⟨#[.pointer none,.agg (blist id).toArray],Lo.m2 (k.val 49 123 (by kernel_rfl)) (k.val 50 124 (by kernel_rfl)),(nParents_any w id HIL.out).mono (by rintro e w2 ⟨rfl,hb⟩;exact⟨_,rfl,hb,rfl⟩)⟩)
    refine List.forall_mem_cons.2 ⟨?_,?_⟩
    · exact Lo.sLen rfl (.tmp 125) 30 0 (fun _ _=>rfl) rfl Tryz.underlying30 (fun a w k=>Lo.wanted_at 45 119 true rfl rfl (k.val 45 119 (by kernel_rfl))) (fun a w k=>⟨_,_,k.val 51 125 (by kernel_rfl)⟩)
    refine List.forall_mem_cons.2 ⟨?_,?_⟩
    · exact Lo.sBin rfl .add 3 3 (.tmp 122) (.tmp 126) (.int .i64 0) (.int .i64 0) (.int .i64 0) (fun _ _=>rfl) rfl (fun a w k=>Lo.wanted_at 45 119 true rfl rfl (k.val 45 119 (by kernel_rfl))) (fun a w k=>⟨k.val 48 122 (by kernel_rfl),k.val 52 126 (by kernel_rfl)⟩) (fun w=>Gr.add00 _ _ w)
    refine List.forall_mem_cons.2 ⟨?_,?_⟩
    · exact Lo.sMove rfl (.tmp 11) (.pointer none) (fun _ _=>rfl) (.inl rfl) (fun a w k=>Lo.wanted_at 45 119 true rfl rfl (k.val 45 119 (by kernel_rfl))) (fun a w k=>k.old 11 (by kernel_rfl))
    refine List.forall_mem_cons.2 ⟨?_,?_⟩
    · exact Lo.sLoad rfl 46 (.tmp 5) (.pointer (some ⟨gi,0,none⟩)) (.agg (blist id).toArray) (fun _ _=>rfl) rfl (fun a w k=>Lo.wanted_at 45 119 true rfl rfl (k.val 45 119 (by kernel_rfl))) (fun a w k=>k.old 5 (by kernel_rfl)) (fun w h=>HLI.out w h)
    refine List.forall_mem_cons.2 ⟨?_,?_⟩
    · exact Lo.sCall rfl 21 #[.tmp 128,.tmp 129] #[25,46] rfl Tryz.func21 rfl rfl (fun a w k=>Lo.wanted_at 45 119 true rfl rfl (k.val 45 119 (by kernel_rfl))) (fun a w k=>⟨#[.pointer none,.agg (blist id).toArray],Lo.m2 (k.val 54 128 (by kernel_rfl)) (k.val 55 129 (by kernel_rfl)),(nChildren_any w id HIL.out).mono (by rintro e w2 ⟨rfl,hb⟩;exact⟨_,rfl,hb,rfl⟩)⟩)
    refine List.forall_mem_cons.2 ⟨?_,?_⟩
    · exact Lo.sLen rfl (.tmp 130) 30 0 (fun _ _=>rfl) rfl Tryz.underlying30 (fun a w k=>Lo.wanted_at 45 119 true rfl rfl (k.val 45 119 (by kernel_rfl))) (fun a w k=>⟨_,_,k.val 56 130 (by kernel_rfl)⟩)
    refine List.forall_mem_cons.2 ⟨?_,?_⟩
    · exact Lo.sBin rfl .add 3 3 (.tmp 127) (.tmp 131) (.int .i64 0) (.int .i64 0) (.int .i64 0) (fun _ _=>rfl) rfl (fun a w k=>Lo.wanted_at 45 119 true rfl rfl (k.val 45 119 (by kernel_rfl))) (fun a w k=>⟨k.val 53 127 (by kernel_rfl),k.val 57 131 (by kernel_rfl)⟩) (fun w=>Gr.add00 _ _ w)
    refine List.forall_mem_cons.2 ⟨?_,?_⟩
    · exact Lo.sMove rfl (.tmp 11) (.pointer none) (fun _ _=>rfl) (.inl rfl) (fun a w k=>Lo.wanted_at 45 119 true rfl rfl (k.val 45 119 (by kernel_rfl))) (fun a w k=>k.old 11 (by kernel_rfl))
    refine List.forall_mem_cons.2 ⟨?_,?_⟩
    · exact Lo.sLoad rfl 46 (.tmp 5) (.pointer (some ⟨gi,0,none⟩)) (.agg (blist id).toArray) (fun _ _=>rfl) rfl (fun a w k=>Lo.wanted_at 45 119 true rfl rfl (k.val 45 119 (by kernel_rfl))) (fun a w k=>k.old 5 (by kernel_rfl)) (fun w h=>HLI.out w h)
    refine List.forall_mem_cons.2 ⟨?_,?_⟩
    · exact Gr.sBuild rfl (.tmp 134) rfl id HIL.out (fun _ _ h=>h) (fun a w k=>Lo.wanted_at 45 119 true rfl rfl (k.val 45 119 (by kernel_rfl))) (fun a w k=>k.val 60 134 (by kernel_rfl))
    refine List.forall_mem_cons.2 ⟨?_,?_⟩
    · exact Lo.sCall rfl 26 #[.tmp 133,.tmp 135] #[25,30] rfl Tryz.func26 rfl rfl (fun a w k=>Lo.wanted_at 45 119 true rfl rfl (k.val 45 119 (by kernel_rfl))) (fun a w k=>by
        obtain⟨ad,e2,hR⟩:=(show Gr.slIs id _ w from k.val 61 135 (by kernel_rfl))
        refine⟨#[.pointer none,.slice (some ad) 1 1],?_,?_⟩
        · exact Lo.m2 (k.val 59 133 (by kernel_rfl)) e2
        · exact(nAncestors_any (some ad) 1 1 [id] hR (by decide)).mono (by rintro e w2 ⟨⟨c1,c2,rfl⟩,hb⟩;exact⟨_,rfl,hb,_,_,rfl⟩))
    refine List.forall_mem_cons.2 ⟨?_,?_⟩
    · exact Lo.sLen rfl (.tmp 136) 30 0 (fun _ _=>rfl) rfl Tryz.underlying30 (fun a w k=>Lo.wanted_at 45 119 true rfl rfl (k.val 45 119 (by kernel_rfl))) (fun a w k=>k.val 62 136 (by kernel_rfl))
    refine List.forall_mem_cons.2 ⟨?_,?_⟩
    · exact Lo.sBin rfl .add 3 3 (.tmp 132) (.tmp 137) (.int .i64 0) (.int .i64 0) (.int .i64 0) (fun _ _=>rfl) rfl (fun a w k=>Lo.wanted_at 45 119 true rfl rfl (k.val 45 119 (by kernel_rfl))) (fun a w k=>⟨k.val 58 132 (by kernel_rfl),k.val 63 137 (by kernel_rfl)⟩) (fun w=>Gr.add00 _ _ w)
    refine List.forall_mem_cons.2 ⟨?_,?_⟩
    · exact Lo.sMove rfl (.tmp 11) (.pointer none) (fun _ _=>rfl) (.inl rfl) (fun a w k=>Lo.wanted_at 45 119 true rfl rfl (k.val 45 119 (by kernel_rfl))) (fun a w k=>k.old 11 (by kernel_rfl))
    refine List.forall_mem_cons.2 ⟨?_,?_⟩
    · exact Lo.sLoad rfl 46 (.tmp 5) (.pointer (some ⟨gi,0,none⟩)) (.agg (blist id).toArray) (fun _ _=>rfl) rfl (fun a w k=>Lo.wanted_at 45 119 true rfl rfl (k.val 45 119 (by kernel_rfl))) (fun a w k=>k.old 5 (by kernel_rfl)) (fun w h=>HLI.out w h)
    refine List.forall_mem_cons.2 ⟨?_,?_⟩
    · exact Gr.sBuild rfl (.tmp 140) rfl id HIL.out (fun _ _ h=>h) (fun a w k=>Lo.wanted_at 45 119 true rfl rfl (k.val 45 119 (by kernel_rfl))) (fun a w k=>k.val 66 140 (by kernel_rfl))
    refine List.forall_mem_cons.2 ⟨?_,?_⟩
    · exact Lo.sCall rfl 28 #[.tmp 139,.tmp 141] #[25,30] rfl Tryz.func28 rfl rfl (fun a w k=>Lo.wanted_at 45 119 true rfl rfl (k.val 45 119 (by kernel_rfl))) (fun a w k=>by
        obtain⟨ad,e2,hR⟩:=(show Gr.slIs id _ w from k.val 67 141 (by kernel_rfl))
        refine⟨#[.pointer none,.slice (some ad) 1 1],?_,?_⟩
        · exact Lo.m2 (k.val 65 139 (by kernel_rfl)) e2
        · exact(nDescendants_any (some ad) 1 1 [id] hR (by decide)).mono (by rintro e w2 ⟨⟨c1,c2,rfl⟩,hb⟩;exact⟨_,rfl,hb,_,_,rfl⟩))
    refine List.forall_mem_cons.2 ⟨?_,?_⟩
    · exact Lo.sLen rfl (.tmp 142) 30 0 (fun _ _=>rfl) rfl Tryz.underlying30 (fun a w k=>Lo.wanted_at 45 119 true rfl rfl (k.val 45 119 (by kernel_rfl))) (fun a w k=>k.val 68 142 (by kernel_rfl))
    refine List.forall_mem_cons.2 ⟨?_,?_⟩
    · exact Lo.sBin rfl .add 3 3 (.tmp 138) (.tmp 143) (.int .i64 0) (.int .i64 0) (.int .i64 0) (fun _ _=>rfl) rfl (fun a w k=>Lo.wanted_at 45 119 true rfl rfl (k.val 45 119 (by kernel_rfl))) (fun a w k=>⟨k.val 64 138 (by kernel_rfl),k.val 69 143 (by kernel_rfl)⟩) (fun w=>Gr.add00 _ _ w)
    refine List.forall_mem_cons.2 ⟨?_,?_⟩
    · exact Lo.sMove rfl (.tmp 11) (.pointer none) (fun _ _=>rfl) (.inl rfl) (fun a w k=>Lo.wanted_at 45 119 true rfl rfl (k.val 45 119 (by kernel_rfl))) (fun a w k=>k.old 11 (by kernel_rfl))
    refine List.forall_mem_cons.2 ⟨?_,?_⟩
    · exact Lo.sLoad rfl 34 (.tmp 20) (.pointer (some ⟨gt,0,none⟩)) (txv (some ⟨ka,0,none⟩) 1 1 (some ⟨ka+1,0,none⟩) 1 1 false) (fun _ _=>rfl) rfl (fun a w k=>Lo.wanted_at 45 119 true rfl rfl (k.val 45 119 (by kernel_rfl))) (fun a w k=>k.old 20 (by kernel_rfl)) (fun w h=>HLT.out w h)
    refine List.forall_mem_cons.2 ⟨?_,?_⟩
    · exact Lo.sCall rfl 30 #[.tmp 145,.tmp 146] #[25,34] rfl Tryz.func30 rfl rfl (fun a w k=>Lo.wanted_at 45 119 true rfl rfl (k.val 45 119 (by kernel_rfl))) (fun a w k=>⟨#[.pointer none,txv (some ⟨ka,0,none⟩) 1 1 (some ⟨ka+1,0,none⟩) 1 1 false],Lo.m2 (k.val 71 145 (by kernel_rfl)) (k.val 72 146 (by kernel_rfl)),(HCO.out w k.held).mono (by rintro e w2 ⟨⟨c1,c2,rfl⟩,hb⟩;exact⟨_,rfl,hb,_,_,rfl⟩)⟩)
    refine List.forall_mem_cons.2 ⟨?_,?_⟩
    · exact Lo.sLen rfl (.tmp 147) 30 0 (fun _ _=>rfl) rfl Tryz.underlying30 (fun a w k=>Lo.wanted_at 45 119 true rfl rfl (k.val 45 119 (by kernel_rfl))) (fun a w k=>k.val 73 147 (by kernel_rfl))
    refine List.forall_mem_cons.2 ⟨?_,?_⟩
    · exact Lo.sBin rfl .add 3 3 (.tmp 144) (.tmp 148) (.int .i64 0) (.int .i64 0) (.int .i64 0) (fun _ _=>rfl) rfl (fun a w k=>Lo.wanted_at 45 119 true rfl rfl (k.val 45 119 (by kernel_rfl))) (fun a w k=>⟨k.val 70 144 (by kernel_rfl),k.val 74 148 (by kernel_rfl)⟩) (fun w=>Gr.add00 _ _ w)
    refine List.forall_mem_cons.2 ⟨?_,?_⟩
    · exact Lo.sMove rfl (.tmp 11) (.pointer none) (fun _ _=>rfl) (.inl rfl) (fun a w k=>Lo.wanted_at 45 119 true rfl rfl (k.val 45 119 (by kernel_rfl))) (fun a w k=>k.old 11 (by kernel_rfl))
    refine List.forall_mem_cons.2 ⟨?_,?_⟩
    · exact Lo.sLoad rfl 46 (.tmp 5) (.pointer (some ⟨gi,0,none⟩)) (.agg (blist id).toArray) (fun _ _=>rfl) rfl (fun a w k=>Lo.wanted_at 45 119 true rfl rfl (k.val 45 119 (by kernel_rfl))) (fun a w k=>k.old 5 (by kernel_rfl)) (fun w h=>HLI.out w h)
    refine List.forall_mem_cons.2 ⟨?_,?_⟩
    · exact Gr.sBuild rfl (.tmp 151) rfl id HIL.out (fun _ _ h=>h) (fun a w k=>Lo.wanted_at 45 119 true rfl rfl (k.val 45 119 (by kernel_rfl))) (fun a w k=>k.val 77 151 (by kernel_rfl))
    refine List.forall_mem_cons.2 ⟨?_,?_⟩
    · exact Lo.sCall rfl 40 #[.tmp 150,.tmp 152] #[25,30] rfl Tryz.func40 rfl rfl (fun a w k=>Lo.wanted_at 45 119 true rfl rfl (k.val 45 119 (by kernel_rfl))) (fun a w k=>by
        obtain⟨ad,e2,hR⟩:=(show Gr.slIs id _ w from k.val 78 152 (by kernel_rfl))
        refine⟨#[.pointer none,.slice (some ad) 1 1],?_,?_⟩
        · exact Lo.m2 (k.val 76 150 (by kernel_rfl)) e2
        · exact(nRemove_any (some ad) 1 1 [id] hR (by decide)).mono (by rintro e w2 ⟨rfl,hb⟩;exact⟨_,rfl,hb,rfl⟩))
    refine List.forall_mem_cons.2 ⟨?_,?_⟩
    · exact Lo.sLen rfl (.tmp 153) 82 0 (fun _ _=>rfl) rfl Tryz.underlying82 (fun a w k=>Lo.wanted_at 45 119 true rfl rfl (k.val 45 119 (by kernel_rfl))) (fun a w k=>⟨_,_,k.val 79 153 (by kernel_rfl)⟩)
    refine List.forall_mem_cons.2 ⟨?_,?_⟩
    · exact Lo.sBin rfl .add 3 3 (.tmp 149) (.tmp 154) (.int .i64 0) (.int .i64 0) (.int .i64 0) (fun _ _=>rfl) rfl (fun a w k=>Lo.wanted_at 45 119 true rfl rfl (k.val 45 119 (by kernel_rfl))) (fun a w k=>⟨k.val 75 149 (by kernel_rfl),k.val 80 154 (by kernel_rfl)⟩) (fun w=>Gr.add00 _ _ w)
    refine List.forall_mem_cons.2 ⟨?_,?_⟩
    · exact Lo.sBin rfl .eql 3 3 (.tmp 155) (.const (.int .i64 0)) (.int .i64 0) (.int .i64 0) (.bool true) (fun _ _=>rfl) rfl (fun a w k=>Lo.wanted_at 45 119 true rfl rfl (k.val 45 119 (by kernel_rfl))) (fun a w k=>⟨k.val 81 155 (by kernel_rfl),rfl⟩) (fun w=>Gr.eq00 _ _ w)
    refine List.forall_mem_cons.2 ⟨?_,?_⟩
    · exact Lo.sPick rfl (.tmp 119) (.tmp 156) (.const (.bool false)) (.bool true) (fun _ _=>rfl) rfl (fun a w k=>Lo.wanted_none rfl) (fun a w k=>⟨k.val 45 119 (by kernel_rfl),k.val 82 156 (by kernel_rfl)⟩)
    refine List.forall_mem_cons.2 ⟨?_,?_⟩
    · exact Lo.sMove rfl (.tmp 157) (.bool true) (fun _ _=>rfl) (.inl rfl) (fun a w k=>Lo.wanted_none rfl) (fun a w k=>k.val 83 157 (by kernel_rfl))
    refine List.forall_mem_cons.2 ⟨?_,?_⟩
    · exact Lo.sMove rfl (.tmp 11) (.pointer none) (fun _ _=>rfl) (.inl rfl) (fun a w k=>Lo.wanted_at 84 158 true rfl rfl (k.val 84 158 (by kernel_rfl))) (fun a w k=>k.old 11 (by kernel_rfl))
    refine List.forall_mem_cons.2 ⟨?_,?_⟩
    · exact Lo.sCall rfl 34 #[.tmp 159] #[25] rfl Tryz.func34 rfl rfl (fun a w k=>Lo.wanted_at 84 158 true rfl rfl (k.val 84 158 (by kernel_rfl))) (fun a w k=>⟨#[.pointer none],Lo.m1 (k.val 85 159 (by kernel_rfl)),(nCopy_any w).mono (by rintro e w2 ⟨rfl,hb⟩;exact⟨_,rfl,hb,rfl⟩)⟩)
    refine List.forall_mem_cons.2 ⟨?_,?_⟩
    · exact Lo.sBin rfl .eql 25 25 (.tmp 160) (.const (.pointer none)) (.pointer none) (.pointer none) (.bool true) (fun _ _=>rfl) rfl (fun a w k=>Lo.wanted_at 84 158 true rfl rfl (k.val 84 158 (by kernel_rfl))) (fun a w k=>⟨k.val 86 160 (by kernel_rfl),rfl⟩) (fun w=>Gr.eqpn _ _ w)
    refine List.forall_mem_cons.2 ⟨?_,?_⟩
    · exact Lo.sPick rfl (.tmp 158) (.tmp 161) (.const (.bool false)) (.bool true) (fun _ _=>rfl) rfl (fun a w k=>Lo.wanted_none rfl) (fun a w k=>⟨k.val 84 158 (by kernel_rfl),k.val 87 161 (by kernel_rfl)⟩)
    refine List.forall_mem_cons.2 ⟨?_,?_⟩
    · exact Lo.sMove rfl (.tmp 162) (.bool true) (fun _ _=>rfl) (.inr rfl) (fun a w k=>Lo.wanted_none rfl) (fun a w k=>k.val 88 162 (by kernel_rfl))
    exact fun _ h=>(List.not_mem_nil h).elim
  · intro listed act w' hJ hall
    have h6:act.tmps.getD 6 undef=.bool true:=hJ.val 89 _ 6 rfl rfl rfl (hall 89 (by decide))
    have hB:=HBS.out.trans (hJ.held.below.mono HBS.out.size)
    rw[Array.getD_eq_getD_getElem?] at h6
    go_wp2
    refine bodyPost_ret (v:=.bool true) ?_ hJ.def_ ⟨rfl,hB⟩
    simp only[results,show Tryz.f6.results=#[.tmp 6] from rfl]
    simp[h6]
end Go.Proofs.YtijemcfnlbapjaaGreatDoor
