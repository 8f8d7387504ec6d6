/- package digest: mixed, joined -/
import Derived.Test.YtagjolbpmhbifaaGreatDoorDgC
namespace Go.Proofs.YtagjolbpmhbifaaGreatDoor
open Go Go.RowKit Go.ChangeShapes Go.WideShapes
theorem size_w32 : (Tryz.prog.info? 143).map (·.size) = some 1 := by kernel_rfl
theorem size_w8 (f : Nat → BitVec 32) : (Tryz.prog.info? 144).map (·.size) = some (wcells 8 f).size := by rw [wcells_size]; kernel_rfl
@[go_sem high] theorem u32_not (x : BitVec 32) : Op.unary .xor (.int .u32 (nb32 x)) = pure (.int .u32 (nb32 (~~~x))) := by
  show Op.intBits .xor .u32 4294967295 (nb32 x) = _
  rw [intBits_xor]
  show pure (Value.int .u32 (IntKind.u32.wrap (((BitVec.ofInt 32 4294967295 ^^^ BitVec.ofInt 32 (nb32 x)).toNat : Nat) : Int))) = _
  rw [ofInt_u32v, wrap_u32v, show BitVec.ofInt 32 4294967295 = BitVec.allOnes 32 by decide, BitVec.allOnes_xor]
theorem not_sub (x : BitVec 32) : 4294967295#32 - x = ~~~x := by
  apply BitVec.eq_of_toNat_eq
  rw [BitVec.toNat_sub, BitVec.toNat_not]
  have := x.isLt
  simp
  omega
theorem grown_puts7 {w : World} {g : Nat} : ∀ (vs : List Value) {w' : World} (o : Nat), w.grownBy w' (some g) → w.grownBy (w'.setCells g o vs) (some g)
  | [], _, _, h => h
  | v :: r, _, o, h => grown_puts7 r (o + 1) (grown_put7 h o v)
def wl7 (a b c d e f g : BitVec 32) : List Value := [.int .u32 (nb32 a), .int .u32 (nb32 b), .int .u32 (nb32 c), .int .u32 (nb32 d), .int .u32 (nb32 e), .int .u32 (nb32 f), .int .u32 (nb32 g)]
theorem copy_letters {T : TypeId} (w0 : World) (gL : Nat) (a b c d e f g h : BitVec 32) (hX : Has w0 gL T #[.int .u32 (nb32 a), .int .u32 (nb32 b), .int .u32 (nb32 c), .int .u32 (nb32 d), .int .u32 (nb32 e), .int .u32 (nb32 f), .int .u32 (nb32 g), .int .u32 (nb32 h)]) :
    (Builtin.copy_ #[167, 167] 3 #[.slice (some ⟨gL, 1, none⟩) 7 7, .slice (some ⟨gL, 0, none⟩) 8 8]).run Tryz.prog w0 = .ok (goInt 7) (w0.setCells gL 1 (wl7 a b c d e f g)) := by
  have := run_copy_cells (P := Tryz.prog) w0 167 167 3 143 gL 1 7 7 ⟨gL, 0, none⟩ 8 8 (wl7 a b c d e f g) Tryz.underlying167 size_w32
    rfl
    (fun j v hv => by
      rw [Addr.add_mid, Nat.zero_add, hX.cell, ← hv]
      have hj : j < 7 := (List.getElem?_eq_some_iff.1 hv).1
      rcases j with _ | _ | _ | _ | _ | _ | _ | j
      all_goals first
        | rfl
        | omega)
    (fun j hj => by
      have hj : j < 7 := hj
      rw [hX.cell, Array.getElem?_eq_getElem (by simp; omega)]
      rfl)
    (fun j _ => hX.loose _) (fun v hv => by
      unfold wl7 at hv
      simp only [List.mem_cons, List.not_mem_nil, or_false] at hv
      rcases hv with rfl | rfl | rfl | rfl | rfl | rfl | rfl <;> rfl)
  exact this
abbrev z8 : Array Value := #[.int .u32 0, .int .u32 0, .int .u32 0, .int .u32 0, .int .u32 0, .int .u32 0, .int .u32 0, .int .u32 0]
set_option maxRecDepth 100000 in
set_option maxHeartbeats 8000000 in
theorem mixed_any (v : Dg.V8) (b : List (BitVec 8)) (hb : b.length = 64) (w : World) (hT : Tab32 w 1 Dg.kL) :
    Calls Tryz.prog 87 #[.agg (wcells 8 v.at), .agg (blist b).toArray] w fun e w' => e = .returned (.agg (wcells 8 (Dg.add8 v (Dg.steps (Dg.m b) v 64)).at)) ∧ Below w.heap.size w w' := by
  have HL := Lib.hid hb
  clear hb
  have HKT := Lib.hid (hT.lt (by decide))
  go_enter Tryz.func87, Tryz.ntmps87
  go_upto_region 1 with fail
  obtain ⟨wA, hwA⟩ : ∃ x, x = ((w.alloc (.cells (wcells 8 v.at) 144)).alloc (.cells (blist b).toArray 148)).alloc (.cells z8 144) := ⟨_, rfl⟩
  rw [← hwA]
  have hs : wA.heap.size = w.heap.size + 1 + 1 + 1 := by rw [hwA]; simp
  have hV : Has wA w.heap.size 144 (wcells 8 v.at) := by rw [hwA]; exact ((Has.fresh _ _ _).past _).past _
  have hK : Has wA (w.heap.size + 1) 148 (blist b).toArray := by rw [hwA]; exact (Has.fresh_at _ _ _ (by simp)).past _
  have hR : Has wA (w.heap.size + 1 + 1) 144 z8 := by rw [hwA]; exact Has.fresh_at _ _ _ (by simp)
  have hB : Below w.heap.size w wA := by rw [hwA]; exact (((Below.refl _ _).alloc (Nat.le_refl _) _).alloc (by simp) _).alloc (by simp; omega) _
  clear hwA
  have hx := hV.load_agg (P := Tryz.prog) Tryz.underlying144 rfl (size_w8 _)
  obtain ⟨gL, hgL⟩ : ∃ g, g = w.heap.size + 1 + 1 + 1 := ⟨_, rfl⟩
  have hZ := Has.fresh_at (n := gL) wA 144 z8 (by omega)
  have hth := hZ.there 0 (wcells 8 v.at).size (by rw [wcells_size]; decide)
  have hone := wcells_one 8 v.at
  have HT := Lib.hid (And.intro hth (And.intro (size_w8 v.at) hone))
  clear hth hone
  go_upto_region 2 with (first
    | (rw [← hgL]; refine wpList_store_mid rfl 144 (.tmp 5) (.tmp 18) rfl gL 0 (wcells 8 v.at) rfl rfl HT.out.1 HT.out.2.1 HT.out.2.2 ?_)
    | (refine wpList_load_run rfl 144 (.tmp 2) rfl _ _ rfl hx ?_))
  clear hx HT
  have hL := hZ.whole_cs (cs2 := wcells 8 v.at) (by rw [wcells_size]; rfl)
  have hV2 := (hV.past (.cells z8 144)).asideAll (g' := gL) (by omega) (wcells 8 v.at).toList 0
  have hK2 := (hK.past (.cells z8 144)).asideAll (g' := gL) (by omega) (wcells 8 v.at).toList 0
  have hR2 := (hR.past (.cells z8 144)).asideAll (g' := gL) (by omega) (wcells 8 v.at).toList 0
  have hB2 := below_setAll (g := gL) (by omega) (wcells 8 v.at).toList 0 (hB.alloc hB.size (.cells z8 144))
  generalize (wA.alloc (.cells z8 144)).setCells gL 0 (wcells 8 v.at).toList = wC at hL hV2 hK2 hR2 hB2 ⊢
  have HG := Lib.hid hgL
  clear hZ hV hK hR hB hgL hs
  have hx := hK2.load_agg (P := Tryz.prog) Tryz.underlying148 rfl (by rw [List.size_toArray, blist_length, HL.out]; kernel_rfl)
  go_wp2_with (first
    | (go_at_call 105; refine (sched_any b HL.out wC).mono ?_; rintro e wD ⟨rfl, hbD⟩)
    | (refine wpList_load_run rfl 148 (.tmp 3) rfl _ _ rfl hx ?_))
  clear hx
  have hXD0 := hL.under hbD hL.lt
  rw [← v8_cells] at hXD0
  have hVD := hV2.under hbD hV2.lt
  have hRD := hR2.under hbD hR2.lt
  have hBD := hB2.trans (hbD.mono hB2.size)
  have hTD := hT.below hBD
  clear hL hV2 hK2 hR2 hB2 hbD
  go_loopw [21] (fun iv wr => ∃ t : Nat, t ≤ 64 ∧ iv = .int .i64 t ∧ Has wr gL 144 #[.int .u32 (nb32 (Dg.steps (Dg.m b) v t).a), .int .u32 (nb32 (Dg.steps (Dg.m b) v t).b), .int .u32 (nb32 (Dg.steps (Dg.m b) v t).c), .int .u32 (nb32 (Dg.steps (Dg.m b) v t).d), .int .u32 (nb32 (Dg.steps (Dg.m b) v t).e), .int .u32 (nb32 (Dg.steps (Dg.m b) v t).f), .int .u32 (nb32 (Dg.steps (Dg.m b) v t).g), .int .u32 (nb32 (Dg.steps (Dg.m b) v t).h)] ∧ wD.grownBy wr (some gL)) (fun iv _ => 64 - (intOf iv).toNat)
  case atStart => exact ⟨0, Nat.zero_le _, rfl, hXD0, grown_refl7 _ _⟩
  case round =>
    clear hXD0
    obtain ⟨s, hs, rfl, hX, hgr⟩ := hrel
    obtain ⟨u, hu⟩ : ∃ u, u = Dg.steps (Dg.m b) v s := ⟨_, rfl⟩
    rw [← hu] at hX
    have HU := Lib.hid hu
    clear hu
    by_cases h64 : s < 64
    · obtain ⟨xa, xb, xc, xd, xe, xf, xg, xh⟩ := u
      replace hX : Has wr gL 144 #[.int .u32 (nb32 xa), .int .u32 (nb32 xb), .int .u32 (nb32 xc), .int .u32 (nb32 xd), .int .u32 (nb32 xe), .int .u32 (nb32 xf), .int .u32 (nb32 xg), .int .u32 (nb32 xh)] := hX
      have hs64 : (s : Int) < 64 := by omega
      have hs0 : (0 : Int) ≤ (s : Int) := by omega
      obtain ⟨kt, hkt⟩ : ∃ x, x = Dg.kL.getD s 0 := ⟨_, rfl⟩
      obtain ⟨wt, hwt⟩ : ∃ x, x = Dg.sch (Dg.m b) s := ⟨_, rfl⟩
      have hix := run_index_arr (P := Tryz.prog) (t := 164) (e := 143) Tryz.underlying164 Tryz.underlying143 size_w32 h64 (show (wcells 64 (Dg.sch (Dg.m b)))[s]? = some (.int .u32 (nb32 wt)) by rw [wcells_at _ h64, hwt])
      have HKW := Lib.hid (And.intro hkt hwt)
      clear hwt hkt
      go_upto_region 5 with fail
      clear hix
      refine still_all_drew7 rfl (by kernel_rfl) ?_
      obtain ⟨wn, hwn⟩ : ∃ x, x = wr.drew := ⟨_, rfl⟩
      rw [← hwn]
      replace hX : Has wn gL 144 #[.int .u32 (nb32 xa), .int .u32 (nb32 xb), .int .u32 (nb32 xc), .int .u32 (nb32 xd), .int .u32 (nb32 xe), .int .u32 (nb32 xf), .int .u32 (nb32 xg), .int .u32 (nb32 xh)] := by rw [hwn]; exact hX.draw
      replace hgr : wD.grownBy wn (some gL) := by rw [hwn]; exact grown_drew7 hgr
      clear hwn
      have c0 : wn.cell? ⟨gL, 0, none⟩ = some (.int .u32 (nb32 xa)) := hX.cell_at rfl
      have c1 : wn.cell? ⟨gL, 1, none⟩ = some (.int .u32 (nb32 xb)) := hX.cell_at rfl
      have c2 : wn.cell? ⟨gL, 2, none⟩ = some (.int .u32 (nb32 xc)) := hX.cell_at rfl
      refine still_then _ (by
        repeat still_step
        exact wpStill_nil rfl) ?_
      clear c0 c1 c2
      go_upto_region 6 with fail
      refine still_all_drew7 rfl (by kernel_rfl) ?_
      obtain ⟨wo, hwn⟩ : ∃ x, x = wn.drew := ⟨_, rfl⟩
      rw [← hwn]
      replace hX : Has wo gL 144 #[.int .u32 (nb32 xa), .int .u32 (nb32 xb), .int .u32 (nb32 xc), .int .u32 (nb32 xd), .int .u32 (nb32 xe), .int .u32 (nb32 xf), .int .u32 (nb32 xg), .int .u32 (nb32 xh)] := by rw [hwn]; exact hX.draw
      replace hgr : wD.grownBy wo (some gL) := by rw [hwn]; exact grown_drew7 hgr
      clear hwn
      have c4 : wo.cell? ⟨gL, 4, none⟩ = some (.int .u32 (nb32 xe)) := hX.cell_at rfl
      have c5 : wo.cell? ⟨gL, 5, none⟩ = some (.int .u32 (nb32 xf)) := hX.cell_at rfl
      have c6 : wo.cell? ⟨gL, 6, none⟩ = some (.int .u32 (nb32 xg)) := hX.cell_at rfl
      refine still_then _ (by
        repeat still_step
        exact wpStill_nil rfl) ?_
      clear c4 c5 c6
      go_upto_region 7 with fail
      refine still_all_drew7 rfl (by kernel_rfl) ?_
      obtain ⟨wp, hwn⟩ : ∃ x, x = wo.drew := ⟨_, rfl⟩
      rw [← hwn]
      replace hX : Has wp gL 144 #[.int .u32 (nb32 xa), .int .u32 (nb32 xb), .int .u32 (nb32 xc), .int .u32 (nb32 xd), .int .u32 (nb32 xe), .int .u32 (nb32 xf), .int .u32 (nb32 xg), .int .u32 (nb32 xh)] := by rw [hwn]; exact hX.draw
      replace hgr : wD.grownBy wp (some gL) := by rw [hwn]; exact grown_drew7 hgr
      clear hwn
      have c7 : wp.cell? ⟨gL, 7, none⟩ = some (.int .u32 (nb32 xh)) := hX.cell_at rfl
      have cK : wp.cell? ⟨1, s, none⟩ = some (.int .u32 (nb32 kt)) := by rw [HKW.out.1]; exact grown_tab hgr hTD (by decide) (by have := HKT.out; have := HG.out; omega) s (by rw [Dg.kL_len]; exact h64)
      refine still_then _ (by
        repeat still_step
        still_call ((turned_any _ 6 11 25 6 11 25 rfl rfl rfl (Or.inl ⟨rfl, rfl, rfl⟩) _).mono fun e w' h => ⟨h.1, h.2.symm⟩)
        repeat still_step
        exact wpStill_nil rfl) ?_
      clear c7 cK
      go_upto_region 8 with fail
      obtain ⟨T1, hT1⟩ : ∃ x, x = xh + (Dg.ror xe 6 ^^^ Dg.ror xe 11 ^^^ Dg.ror xe 25) + (xe &&& xf ^^^ ~~~xe &&& xg) + kt + wt := ⟨_, rfl⟩
      rw [← hT1]
      have HT1 := Lib.hid hT1
      clear hT1
      go_upto_region 9 with (first
        | (go_at_call 106; refine (turned_any _ 2 13 22 2 13 22 rfl rfl rfl (Or.inr ⟨rfl, rfl, rfl⟩) _).mono ?_; rintro e wt2 ⟨rfl, rfl⟩))
      obtain ⟨T2, hT2⟩ : ∃ x, x = (Dg.ror xa 2 ^^^ Dg.ror xa 13 ^^^ Dg.ror xa 22) + (xa &&& xb ^^^ xa &&& xc ^^^ xb &&& xc) := ⟨_, rfl⟩
      rw [← hT2]
      have HT2 := Lib.hid hT2
      clear hT2
      refine still_tail_drew7 2 rfl (by kernel_rfl) ?_
      simp only [List.take_succ_cons, List.take_zero, List.drop_succ_cons, List.drop_zero]
      obtain ⟨wq, hwn⟩ : ∃ x, x = wp.drew := ⟨_, rfl⟩
      rw [← hwn]
      replace hX : Has wq gL 144 #[.int .u32 (nb32 xa), .int .u32 (nb32 xb), .int .u32 (nb32 xc), .int .u32 (nb32 xd), .int .u32 (nb32 xe), .int .u32 (nb32 xf), .int .u32 (nb32 xg), .int .u32 (nb32 xh)] := by rw [hwn]; exact hX.draw
      replace hgr : wD.grownBy wq (some gL) := by rw [hwn]; exact grown_drew7 hgr
      clear hwn
      refine still_then _ (by
        repeat still_step
        exact wpStill_nil rfl) ?_
      have hcp := copy_letters wq gL xa xb xc xd xe xf xg xh hX
      go_upto_region 10 with fail
      clear hcp
      replace hX : Has (wq.setCells gL 1 (wl7 xa xb xc xd xe xf xg)) gL 144 #[.int .u32 (nb32 xa), .int .u32 (nb32 xa), .int .u32 (nb32 xb), .int .u32 (nb32 xc), .int .u32 (nb32 xd), .int .u32 (nb32 xe), .int .u32 (nb32 xf), .int .u32 (nb32 xg)] := hX.putAll (wl7 xa xb xc xd xe xf xg) 1
      replace hgr := grown_puts7 (g := gL) (wl7 xa xb xc xd xe xf xg) 1 hgr
      generalize wq.setCells gL 1 (wl7 xa xb xc xd xe xf xg) = wu at hX hgr ⊢
      have f0 := hX.loose 0
      have c0 : wu.cell? ⟨gL, 0, none⟩ = some (.int .u32 (nb32 xa)) := hX.cell_at rfl
      go_upto_region 11 with fail
      replace hX : Has (wu.setCell ⟨gL, 0, none⟩ (.int .u32 (nb32 (T1 + T2)))) gL 144 #[.int .u32 (nb32 (T1 + T2)), .int .u32 (nb32 xa), .int .u32 (nb32 xb), .int .u32 (nb32 xc), .int .u32 (nb32 xd), .int .u32 (nb32 xe), .int .u32 (nb32 xf), .int .u32 (nb32 xg)] := hX.put 0 (.int .u32 (nb32 (T1 + T2)))
      replace hgr := grown_put7 hgr 0 (.int .u32 (nb32 (T1 + T2)))
      generalize wu.setCell ⟨gL, 0, none⟩ (.int .u32 (nb32 (T1 + T2))) = wv at hX hgr ⊢
      clear f0 c0
      have f4 := hX.loose 4
      have c4 : wv.cell? ⟨gL, 4, none⟩ = some (.int .u32 (nb32 xd)) := hX.cell_at rfl
      go_wp2_with fail
      replace hX : Has (wv.setCell ⟨gL, 4, none⟩ (.int .u32 (nb32 (xd + T1)))) gL 144 #[.int .u32 (nb32 (T1 + T2)), .int .u32 (nb32 xa), .int .u32 (nb32 xb), .int .u32 (nb32 xc), .int .u32 (nb32 (xd + T1)), .int .u32 (nb32 xe), .int .u32 (nb32 xf), .int .u32 (nb32 xg)] := hX.put 4 (.int .u32 (nb32 (xd + T1)))
      replace hgr := grown_put7 hgr 4 (.int .u32 (nb32 (xd + T1)))
      go_roundw
      case rel =>
        refine ⟨s + 1, by omega, by go_num, ?_, hgr⟩
        rw [show Dg.steps (Dg.m b) v (s + 1) = Dg.step (Dg.steps (Dg.m b) v s) (Dg.kL.getD s 0) (Dg.sch (Dg.m b) s) from rfl, ← HU.out, ← HKW.out.1, ← HKW.out.2]
        unfold Dg.step Dg.t1 Dg.t2 Dg.S1 Dg.S0 Dg.ch Dg.maj
        simp only [not_sub]
        rw [← HT1.out, ← HT2.out]
        exact hX
      case measure => (simp [intOf]; try omega)
    · have HE := Lib.hid (show s = 64 by omega)
      have hs64 : ¬ (s : Int) < 64 := by omega
      have hVF := grown_has hgr hVD (by have := HG.out; omega)
      have hRF := grown_has hgr hRD (by have := HG.out; omega)
      have hBF := grown_low hBD hgr (by have := HG.out; omega) hBD.size
      rw [v8_cells] at hX
      have hx := hX.load_agg (P := Tryz.prog) Tryz.underlying144 rfl (size_w8 _)
      clear hVD hRD hBD hTD hgr
      go_wp2_with (first
        | (refine wpList_load_run rfl 144 (.tmp 5) rfl _ _ rfl hx ?_))
      clear hx
      rename World => wF
      rw [aF_zero v u] at hVF
      go_loopw [85] (fun iv wr => ∃ i : Nat, i ≤ 8 ∧ iv = .int .i64 i ∧ Has wr w.heap.size 144 (wcells 8 (Dg.aF v u i)) ∧ wF.grownBy wr (some w.heap.size)) (fun iv _ => 8 - (intOf iv).toNat)
      case atStart => exact ⟨0, Nat.zero_le _, rfl, hVF, grown_refl7 _ _⟩
      case round =>
        clear hVF
        obtain ⟨i, hi, rfl, hG, hgr⟩ := hrel
        by_cases h8 : i < 8
        · have hi8 : (i : Int) < 8 := by omega
          have hi0 : (0 : Int) ≤ (i : Int) := by omega
          obtain ⟨y, hy⟩ : ∃ x, x = v.at i := ⟨_, rfl⟩
          obtain ⟨z, hz⟩ : ∃ x, x = u.at i := ⟨_, rfl⟩
          have hix := run_index_arr (P := Tryz.prog) (t := 144) (e := 143) Tryz.underlying144 Tryz.underlying143 size_w32 h8 (show (wcells 8 u.at)[i]? = some (.int .u32 (nb32 z)) by rw [wcells_at _ h8, hz])
          have cG : wr.cell? ⟨w.heap.size, i, none⟩ = some (.int .u32 (nb32 y)) := hG.cell_at (by rw [wcells_at _ h8, aF_here, hy])
          have fG := hG.loose i
          have HYZ := Lib.hid (show y + z = v.at i + u.at i by rw [hy, hz])
          clear hy hz
          go_wp2_with fail
          have hG2 := hG.put i (.int .u32 (nb32 (y + z)))
          rw [aF_step v u i _ HYZ.out] at hG2
          go_roundw
          case rel => exact ⟨i + 1, by omega, by go_num, hG2, grown_put7 hgr _ _⟩
          case measure => (simp [intOf]; try omega)
        · have hie : i = 8 := by omega
          subst hie
          have hi8 : ¬ (8 : Int) < 8 := by omega
          rw [aF_end] at hG
          have hR3 := grown_has hgr hRF (by omega)
          have hB3 : Below w.heap.size w wr := hBF.grown hgr hBF.size (fun k e => by injection e with e; omega)
          have hx := hG.load_agg (P := Tryz.prog) Tryz.underlying144 rfl (size_w8 _)
          have hth := hR3.there 0 (wcells 8 (Dg.add8 v u).at).size (by rw [wcells_size]; decide)
          have HT := Lib.hid (And.intro hth (And.intro (size_w8 (Dg.add8 v u).at) (wcells_one 8 (Dg.add8 v u).at)))
          clear hth hgr hRF hBF
          go_wp2_with (first
            | (refine wpList_store_mid rfl 144 (.tmp 4) (.tmp 96) rfl (w.heap.size + 1 + 1) 0 (wcells 8 (Dg.add8 v u).at) rfl rfl HT.out.1 HT.out.2.1 HT.out.2.2 ?_)
            | (refine wpList_load_run rfl 144 (.tmp 2) rfl _ _ rfl hx ?_))
          have hE := hR3.whole_cs (cs2 := wcells 8 (Dg.add8 v u).at) (by rw [wcells_size]; rfl)
          refine bodyPost_ret (results_one_cell rfl _ _ (w.heap.size + 1 + 1) rfl _ (hE.load_var Tryz.underlying144 rfl HT.out.2.1)) rfl ⟨?_, below_setAll (by omega) _ 0 hB3⟩
          rw [HU.out, HE.out]
end Go.Proofs.YtagjolbpmhbifaaGreatDoor
