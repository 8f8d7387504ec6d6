/- AmountRates over the premise (mkamr.py) -/
import Derived.Test.YtcbbjhcejlmmlaaAmK
import Derived.Test.YtcbbjhcejlmmlaaSm
import Derived.Test.YtcbbjhcejlmmlaaAg
namespace Go.Proofs.Ytcbbjhcejlmmlaa
open Go Go.RowKit Go.ChangeShapes Go.WideShapes
theorem two_one (v b : Value) (hv : v.oneCell' = true) (hb : b.oneCell' = true) : (#[v, b] : Array Value).all (·.oneCell') = true := by simp [hv, hb]
set_option maxRecDepth 100000 in
set_option maxHeartbeats 16000000 in
theorem ratesFit (ok : AmountOk) (W : World) (f v g u : Int) (hf : Am.Fits f v g u) :
    Calls Try.prog 4 #[.agg #[.int .i64 f, .int .i64 v], .agg #[.int .i64 g, .int .i64 u]] W fun e w' => e = .returned (.bool true) ∧ Below W.heap.size W w' := by
  obtain ⟨b, hb⟩ : ∃ b : Bool, b = true ↔ Am.Right f v := ⟨decide (Am.Right f v), decide_eq_true_iff⟩
  have HR := Lib.hid hb
  have HF := Lib.hid hf
  clear hb hf
  go_enter Try.func4, Try.ntmps4
  go_upto_region 1 with fail
  obtain ⟨W1, hW1⟩ : ∃ x, x = (W.alloc (.cells #[.int .i64 f, .int .i64 v] 38)).alloc (.cells #[.int .i64 g, .int .i64 u] 38) := ⟨_, rfl⟩
  rw [← hW1]
  have hA1 : Has W1 W.heap.size 38 #[.int .i64 f, .int .i64 v] := by rw [hW1]; exact (Has.fresh _ _ _).past _
  have hB1 : Has W1 (W.heap.size + 1) 38 #[.int .i64 g, .int .i64 u] := by rw [hW1]; exact Has.fresh_at _ _ _ (by simp)
  have hT1 : Below W.heap.size W W1 := by rw [hW1]; exact ((Below.refl _ _).alloc (Nat.le_refl _) _).alloc (by simp) _
  clear hW1
  go_upto_region 3 with (go_at_call 7; refine (alive09 ok W1).mono ?_; rintro e w2 ⟨rfl, hb2⟩)
  obtain ⟨wd, hwd⟩ : ∃ x, x = w2.drew := ⟨_, rfl⟩
  have hbd : Below W1.heap.size W1 wd := by rw [hwd]; exact hb2.drew
  have hGa := hA1.under hbd hA1.lt
  have hGb := hB1.under hbd hB1.lt
  have hTd := hT1.trans (hbd.mono hT1.size)
  refine wp_region_held_drew (S := Held wd) (by kernel_rfl) (by rw [hwd]; exact Held.refl _) (fun hHeld => ?_)
  rw [← hwd] at hHeld ⊢
  clear hwd hbd hb2 hA1 hB1 hT1
  refine take_at 0 13 rfl rfl (by kernel_rfl) (by kernel_rfl) (by kernel_rfl) (fun _ _ _ h => h) hHeld (yieldsIf_load_agg (by rfl) 38 (.tmp 2) rfl _ _ (by rfl) (fun wq hSw => (hGa.under hSw hGa.lt).load_agg (P := Try.prog) (t := 38) Try.underlying38 rfl (by kernel_rfl))) rfl ?_
  simp only [List.set_cons_zero, List.set_cons_succ]
  refine take_at 1 14 rfl rfl (by kernel_rfl) (by kernel_rfl) (by kernel_rfl) (fun _ _ _ h => h) hHeld (yieldsIf_load_agg (by rfl) 38 (.tmp 3) rfl _ _ (by rfl) (fun wq hSw => (hGb.under hSw hGb.lt).load_agg (P := Try.prog) (t := 38) Try.underlying38 rfl (by kernel_rfl))) rfl ?_
  simp only [List.set_cons_zero, List.set_cons_succ]
  refine wpAnyH_ready (rs := [2, 3]) (by kernel_rfl) (by simp) ?_
  refine AllReadyH.cons rfl (fun K hK => ?_) (AllReadyH.cons rfl (fun K hK => ?_) AllReadyH.nil)
  · go_simp
    obtain ⟨wa, hwa⟩ : ∃ ww, ww = wd.alloc (.cells #[.int .i64 0, .int .i64 0] 39) := ⟨_, rfl⟩
    obtain ⟨gx, hgx⟩ : ∃ x, x = wd.heap.size := ⟨_, rfl⟩
    rw [← hwa, ← hgx]
    have hNgx : Has wa gx 39 #[.int .i64 0, .int .i64 0] := by rw [hwa, hgx]; exact Has.fresh _ _ _
    have hbwa : Below wd.heap.size wd wa := by rw [hwa]; exact (Below.refl _ _).alloc (Nat.le_refl _) _
    have hLgx : wd.heap.size ≤ gx := by omega
    clear hwa hgx

    refine hK.out _ _ (Held.of hbwa) (fun _ => ?_)
    clear hK K
    try simp only [Act.put, List.setIfInBounds_toArray, List.set_cons_zero, List.set_cons_succ]
    refine wpAnyH_ready (rs := [3]) (by kernel_rfl) (by simp) ?_
    refine AllReadyH.cons rfl (fun K hK => ?_) AllReadyH.nil
    go_simp
    obtain ⟨wb, hwb⟩ : ∃ ww, ww = wa.alloc (.cells #[.int .i64 0, .int .i64 0] 39) := ⟨_, rfl⟩
    obtain ⟨gy, hgy⟩ : ∃ x, x = wa.heap.size := ⟨_, rfl⟩
    rw [← hwb, ← hgy]
    have hNgy : Has wb gy 39 #[.int .i64 0, .int .i64 0] := by rw [hwb, hgy]; exact Has.fresh _ _ _
    have hbwb : Below wa.heap.size wa wb := by rw [hwb]; exact (Below.refl _ _).alloc (Nat.le_refl _) _
    have hLgy : wd.heap.size ≤ gy := by have := hbwa.size; omega
    have hne : gx ≠ gy := by have := hNgx.lt; omega
    clear hwb hgy

    have hdb : Below wd.heap.size wd wb := hbwa.trans (hbwb.mono hbwa.size)
    refine hK.out _ _ (Held.of hdb) (fun _ => ?_)
    clear hK K
    try simp only [Act.put, List.setIfInBounds_toArray, List.set_cons_zero, List.set_cons_succ]
    have hNE := Lib.hid (show gx ≠ gy ∧ wd.heap.size ≤ gx ∧ wd.heap.size ≤ gy by omega)
    have hBgx := hNgx.under hbwb hNgx.lt
    have hBgy := hNgy
    clear hNgx hNgy hLgx hLgy hne
    refine wpAnyH_ready (rs := [4]) (by kernel_rfl) (by simp) ?_
    refine AllReadyH.cons rfl (fun K hK => ?_) AllReadyH.nil
    refine step_store_row (by rfl) 39 (.tmp 5) (.tmp 13) rfl gx 0 (#[.int .i64 f, .int .i64 v]) (by first | rfl | simp [Act.eval]) (by first | rfl | simp [Act.eval]) (hBgx.there 0 2 (Nat.le_refl _)) (by kernel_rfl) (two_one _ _ rfl rfl) rfl ?_
    obtain ⟨wc, hwc⟩ : ∃ ww, ww = wb.setCells gx 0 (#[.int .i64 f, .int .i64 v] : Array Value).toList := ⟨_, rfl⟩
    rw [← hwc]
    have hCgx : Has wc gx 39 #[.int .i64 f, .int .i64 v] := by rw [hwc]; exact hBgx.whole_cs rfl
    have hdwc : Below wd.heap.size wd wc := by rw [hwc]; exact below_setAll hNE.out.2.1 _ 0 hdb
    replace hBgy : Has wc gy 39 #[.int .i64 0, .int .i64 0] := by rw [hwc]; exact hBgy.asideAll (fun e => hNE.out.1 e.symm) _ 0
    refine hK.out _ _ (Held.of hdwc) (fun _ => ?_)
    clear hK K hwc
    refine wpAnyH_ready (rs := [5]) (by kernel_rfl) (by simp) ?_
    refine AllReadyH.cons rfl (fun K hK => ?_) AllReadyH.nil
    refine step_store_row (by rfl) 39 (.tmp 6) (.tmp 14) rfl gy 0 (#[.int .i64 g, .int .i64 u]) (by first | rfl | simp [Act.eval]) (by first | rfl | simp [Act.eval]) (hBgy.there 0 2 (Nat.le_refl _)) (by kernel_rfl) (two_one _ _ rfl rfl) rfl ?_
    obtain ⟨we, hwe⟩ : ∃ ww, ww = wc.setCells gy 0 (#[.int .i64 g, .int .i64 u] : Array Value).toList := ⟨_, rfl⟩
    rw [← hwe]
    have hCgy : Has we gy 39 #[.int .i64 g, .int .i64 u] := by rw [hwe]; exact hBgy.whole_cs rfl
    have hdwe : Below wd.heap.size wd we := by rw [hwe]; exact below_setAll hNE.out.2.2 _ 0 hdwc
    replace hCgx : Has we gx 39 #[.int .i64 f, .int .i64 v] := by rw [hwe]; exact hCgx.asideAll hNE.out.1 _ 0
    refine hK.out _ _ (Held.of hdwe) (fun _ => ?_)
    clear hK K hwe
    refine wpAnyH_done (by kernel_rfl) ?_ _
    obtain ⟨w6, hw6⟩ : ∃ x, x = we := ⟨_, rfl⟩
    rw [← hw6] at hCgx hCgy hdwe ⊢
    have hT6 := hTd.trans (hdwe.mono hTd.size)
    have hA6 := hGa.under hdwe hGa.lt
    have hB6 := hGb.under hdwe hGb.lt
    clear hw6 hdwe hGa hGb hTd
    have lx := hCgx.load_agg (P := Try.prog) (t := 39) Try.underlying39 rfl (by kernel_rfl)
    have ly := hCgy.load_agg (P := Try.prog) (t := 39) Try.underlying39 rfl (by kernel_rfl)
    go_upto_region 5 with (first
      | (refine wpList_store_mid rfl 39 (.tmp 7) (.tmp 19) rfl w7.heap.size 0 #[.int .i64 (f + g), .int .i64 (v + u)] rfl rfl ((Has.fresh w7 39 #[.int .i64 0, .int .i64 0]).there 0 2 (Nat.le_refl _)) (by kernel_rfl) (two_one _ _ rfl rfl) ?_)
      | (refine wpList_load_run rfl 39 (.tmp 6) rfl _ _ rfl ly ?_)
      | (refine wpList_load_run rfl 39 (.tmp 5) rfl _ _ rfl lx ?_)
      | (go_at_call 16; refine (ok.with_ok f v g u w6 HF.out).mono ?_; rintro e w7 ⟨rfl, hb7⟩))
    obtain ⟨w8, hw8⟩ : ∃ x, x = (w7.alloc (.cells #[.int .i64 0, .int .i64 0] 39)).setCells w7.heap.size 0 (#[.int .i64 (f + g), .int .i64 (v + u)] : Array Value).toList := ⟨_, rfl⟩
    have hZ8 : Has w8 w7.heap.size 39 #[.int .i64 (f + g), .int .i64 (v + u)] := by rw [hw8]; exact (Has.fresh w7 39 #[.int .i64 0, .int .i64 0]).whole_cs rfl
    have hb8 : Below w7.heap.size w7 w8 := by rw [hw8]; exact below_setAll (Nat.le_refl _) _ 0 ((Below.refl _ _).alloc (Nat.le_refl _) _)
    rw [← hw8]
    clear hw8
    have hb68 := hb7.trans (hb8.mono hb7.size)
    obtain ⟨gz, hgz⟩ : ∃ x, x = w7.heap.size := ⟨_, rfl⟩
    rw [← hgz] at hZ8 ⊢
    clear hgz
    have hT8 := hT6.trans (hb68.mono hT6.size)
    have hA8 := hA6.under hb68 hA6.lt
    have hB8 := hB6.under hb68 hB6.lt
    have hX8 := hCgx.under hb68 hCgx.lt
    have hY8 := hCgy.under hb68 hCgy.lt
    clear hA6 hB6 hCgx hCgy hb68 hb7 hb8 hT6 lx ly
    have la := hA8.load_agg (P := Try.prog) (t := 38) Try.underlying38 rfl (by kernel_rfl)
    have lb := hB8.load_agg (P := Try.prog) (t := 38) Try.underlying38 rfl (by kernel_rfl)
    go_upto_region 6 with (first
      | (refine wpList_store_mid rfl 38 (.tmp 9) (.tmp 25) rfl w9.heap.size 0 #[.int .i64 (f + g), .int .i64 (v + u)] rfl rfl ((Has.fresh w9 38 #[.int .i64 0, .int .i64 0]).there 0 2 (Nat.le_refl _)) (by kernel_rfl) (two_one _ _ rfl rfl) ?_)
      | (refine wpList_load_run rfl 38 (.tmp 3) rfl _ _ rfl lb ?_)
      | (refine wpList_load_run rfl 38 (.tmp 2) rfl _ _ rfl la ?_)
      | (go_at_call 17; refine (awith_ok f v g u HF.out w8).mono ?_; rintro e w9 ⟨rfl, hb9⟩))
    obtain ⟨wt, hwt⟩ : ∃ x, x = (w9.alloc (.cells #[.int .i64 0, .int .i64 0] 38)).setCells w9.heap.size 0 (#[.int .i64 (f + g), .int .i64 (v + u)] : Array Value).toList := ⟨_, rfl⟩
    have hW0 : Has wt w9.heap.size 38 #[.int .i64 (f + g), .int .i64 (v + u)] := by rw [hwt]; exact (Has.fresh w9 38 #[.int .i64 0, .int .i64 0]).whole_cs rfl
    have hbt : Below w9.heap.size w9 wt := by rw [hwt]; exact below_setAll (Nat.le_refl _) _ 0 ((Below.refl _ _).alloc (Nat.le_refl _) _)
    rw [← hwt]
    clear hwt
    have hb8t := hb9.trans (hbt.mono hb9.size)
    obtain ⟨gw, hgw⟩ : ∃ x, x = w9.heap.size := ⟨_, rfl⟩
    rw [← hgw] at hW0 ⊢
    clear hgw
    obtain ⟨ws, hws⟩ : ∃ x, x = wt.drew := ⟨_, rfl⟩
    have hmd : Below wt.heap.size wt ws := by rw [hws]; exact (Below.refl _ _).drew
    have hb8s := hb8t.trans (hmd.mono hb8t.size)
    have HA := Lib.hid (hA8.under hb8s hA8.lt)
    have HB := Lib.hid (hB8.under hb8s hB8.lt)
    have HX := Lib.hid (hX8.under hb8s hX8.lt)
    have HY := Lib.hid (hY8.under hb8s hY8.lt)
    have HZ := Lib.hid (hZ8.under hb8s hZ8.lt)
    have HW := Lib.hid (hW0.under hmd hW0.lt)
    have HT := Lib.hid (hT8.trans (hb8s.mono hT8.size))
    refine wp_region_held_drew (S := Held ws) (by kernel_rfl) (by rw [hws]; exact Held.refl _) (fun hHeld => ?_)
    rw [← hws] at hHeld ⊢
    clear hws hmd hA8 hB8 hX8 hY8 hZ8 hW0 hb8t hb9 hbt hb8s hT8 la lb
    refine take_at 0 27 rfl rfl (by kernel_rfl) (by kernel_rfl) (by kernel_rfl) (fun _ _ _ h => h) hHeld (yieldsIf_load_agg (by rfl) 39 (.tmp 5) rfl _ _ (by rfl) (fun wq hSw => (HX.out.under hSw HX.out.lt).load_agg (P := Try.prog) (t := 39) Try.underlying39 rfl (by kernel_rfl))) rfl ?_
    simp only [List.set_cons_zero, List.set_cons_succ]
    refine take_at 2 29 rfl rfl (by kernel_rfl) (by kernel_rfl) (by kernel_rfl) (fun _ _ _ h => h) hHeld (yieldsIf_load_agg (by rfl) 38 (.tmp 2) rfl _ _ (by rfl) (fun wq hSw => (HA.out.under hSw HA.out.lt).load_agg (P := Try.prog) (t := 38) Try.underlying38 rfl (by kernel_rfl))) rfl ?_
    simp only [List.set_cons_zero, List.set_cons_succ]
    refine wpAnyH_ready (rs := [1]) (by kernel_rfl) (by simp) ?_
    refine AllReadyH.cons rfl (fun K hK => ?_) AllReadyH.nil
    go_simp
    go_at_call 18; refine (ok.right f v b ws HR.out).mono ?_; rintro e k1 ⟨rfl, hkk1⟩
    refine hK.out _ _ (Held.of hkk1) (fun _ => ?_)
    clear hK K
    try simp only [Act.put, List.setIfInBounds_toArray, List.set_cons_zero, List.set_cons_succ]
    refine held_grow (w1 := k1) (Held.of hkk1) ?_
    clear hHeld
    have hHeld : Held k1 k1 := Held.refl _
    replace HA := Lib.hid (HA.out.under hkk1 HA.out.lt)
    replace HB := Lib.hid (HB.out.under hkk1 HB.out.lt)
    replace HX := Lib.hid (HX.out.under hkk1 HX.out.lt)
    replace HY := Lib.hid (HY.out.under hkk1 HY.out.lt)
    replace HZ := Lib.hid (HZ.out.under hkk1 HZ.out.lt)
    replace HW := Lib.hid (HW.out.under hkk1 HW.out.lt)
    replace HT := Lib.hid (HT.out.trans (hkk1.mono HT.out.size))
    clear hkk1
    refine wpAnyH_ready (rs := [3]) (by kernel_rfl) (by simp) ?_
    refine AllReadyH.cons rfl (fun K hK => ?_) AllReadyH.nil
    go_simp
    go_at_call 19; refine (aright_any f v b HR.out k1).mono ?_; rintro e k2 ⟨rfl, hkk2⟩
    refine hK.out _ _ (Held.of hkk2) (fun _ => ?_)
    clear hK K
    try simp only [Act.put, List.setIfInBounds_toArray, List.set_cons_zero, List.set_cons_succ]
    refine held_grow (w1 := k2) (Held.of hkk2) ?_
    clear hHeld
    have hHeld : Held k2 k2 := Held.refl _
    replace HA := Lib.hid (HA.out.under hkk2 HA.out.lt)
    replace HB := Lib.hid (HB.out.under hkk2 HB.out.lt)
    replace HX := Lib.hid (HX.out.under hkk2 HX.out.lt)
    replace HY := Lib.hid (HY.out.under hkk2 HY.out.lt)
    replace HZ := Lib.hid (HZ.out.under hkk2 HZ.out.lt)
    replace HW := Lib.hid (HW.out.under hkk2 HW.out.lt)
    replace HT := Lib.hid (HT.out.trans (hkk2.mono HT.out.size))
    clear hkk2
    refine take_at (v := ?_) 4 31 rfl rfl (by kernel_rfl) (by kernel_rfl) (by kernel_rfl) (fun _ _ _ h => h) hHeld (Or.inl ⟨by rfl, ?_⟩) rfl ?_
    rotate_left
    · intro wq hSw
      go_simp
      try with_reducible rfl
    simp only [List.set_cons_zero, List.set_cons_succ]
    refine take_at (v := ?_) 5 32 rfl rfl (by kernel_rfl) (by kernel_rfl) (by kernel_rfl) (fun _ _ _ h => h) hHeld (Or.inl ⟨by rfl, ?_⟩) rfl ?_
    rotate_left
    · intro wq hSw
      go_simp
      try with_reducible rfl
    simp only [List.set_cons_zero, List.set_cons_succ]
    refine take_at 6 33 rfl rfl (by kernel_rfl) (by kernel_rfl) (by kernel_rfl) (fun _ _ _ h => h) hHeld (yieldsIf_load_agg (by rfl) 39 (.tmp 5) rfl _ _ (by rfl) (fun wq hSw => (HX.out.under hSw HX.out.lt).load_agg (P := Try.prog) (t := 39) Try.underlying39 rfl (by kernel_rfl))) rfl ?_
    simp only [List.set_cons_zero, List.set_cons_succ]
    refine take_at 7 34 rfl rfl (by kernel_rfl) (by kernel_rfl) (by kernel_rfl) (fun _ _ _ h => h) hHeld (yieldsIf_load_agg (by rfl) 39 (.tmp 6) rfl _ _ (by rfl) (fun wq hSw => (HY.out.under hSw HY.out.lt).load_agg (P := Try.prog) (t := 39) Try.underlying39 rfl (by kernel_rfl))) rfl ?_
    simp only [List.set_cons_zero, List.set_cons_succ]
    refine take_at 9 36 rfl rfl (by kernel_rfl) (by kernel_rfl) (by kernel_rfl) (fun _ _ _ h => h) hHeld (yieldsIf_load_agg (by rfl) 38 (.tmp 2) rfl _ _ (by rfl) (fun wq hSw => (HA.out.under hSw HA.out.lt).load_agg (P := Try.prog) (t := 38) Try.underlying38 rfl (by kernel_rfl))) rfl ?_
    simp only [List.set_cons_zero, List.set_cons_succ]
    refine take_at 10 37 rfl rfl (by kernel_rfl) (by kernel_rfl) (by kernel_rfl) (fun _ _ _ h => h) hHeld (yieldsIf_load_agg (by rfl) 38 (.tmp 3) rfl _ _ (by rfl) (fun wq hSw => (HB.out.under hSw HB.out.lt).load_agg (P := Try.prog) (t := 38) Try.underlying38 rfl (by kernel_rfl))) rfl ?_
    simp only [List.set_cons_zero, List.set_cons_succ]
    refine wpAnyH_ready (rs := [8]) (by kernel_rfl) (by simp) ?_
    refine AllReadyH.cons rfl (fun K hK => ?_) AllReadyH.nil
    go_simp
    go_at_call 20; refine (ok.compare f v g u k2).mono ?_; rintro e k3 ⟨rfl, hkk3⟩
    refine hK.out _ _ (Held.of hkk3) (fun _ => ?_)
    clear hK K
    try simp only [Act.put, List.setIfInBounds_toArray, List.set_cons_zero, List.set_cons_succ]
    refine held_grow (w1 := k3) (Held.of hkk3) ?_
    clear hHeld
    have hHeld : Held k3 k3 := Held.refl _
    replace HA := Lib.hid (HA.out.under hkk3 HA.out.lt)
    replace HB := Lib.hid (HB.out.under hkk3 HB.out.lt)
    replace HX := Lib.hid (HX.out.under hkk3 HX.out.lt)
    replace HY := Lib.hid (HY.out.under hkk3 HY.out.lt)
    replace HZ := Lib.hid (HZ.out.under hkk3 HZ.out.lt)
    replace HW := Lib.hid (HW.out.under hkk3 HW.out.lt)
    replace HT := Lib.hid (HT.out.trans (hkk3.mono HT.out.size))
    clear hkk3
    refine wpAnyH_ready (rs := [11]) (by kernel_rfl) (by simp) ?_
    refine AllReadyH.cons rfl (fun K hK => ?_) AllReadyH.nil
    go_simp
    go_at_call 21; refine (acompare_any f v g u k3).mono ?_; rintro e k4 ⟨rfl, hkk4⟩
    refine hK.out _ _ (Held.of hkk4) (fun _ => ?_)
    clear hK K
    try simp only [Act.put, List.setIfInBounds_toArray, List.set_cons_zero, List.set_cons_succ]
    refine held_grow (w1 := k4) (Held.of hkk4) ?_
    clear hHeld
    have hHeld : Held k4 k4 := Held.refl _
    replace HA := Lib.hid (HA.out.under hkk4 HA.out.lt)
    replace HB := Lib.hid (HB.out.under hkk4 HB.out.lt)
    replace HX := Lib.hid (HX.out.under hkk4 HX.out.lt)
    replace HY := Lib.hid (HY.out.under hkk4 HY.out.lt)
    replace HZ := Lib.hid (HZ.out.under hkk4 HZ.out.lt)
    replace HW := Lib.hid (HW.out.under hkk4 HW.out.lt)
    replace HT := Lib.hid (HT.out.trans (hkk4.mono HT.out.size))
    clear hkk4
    refine take_at (v := ?_) 12 39 rfl rfl (by kernel_rfl) (by kernel_rfl) (by kernel_rfl) (fun _ _ _ h => h) hHeld (Or.inl ⟨by rfl, ?_⟩) rfl ?_
    rotate_left
    · intro wq hSw
      go_simp
      try with_reducible rfl
    simp only [List.set_cons_zero, List.set_cons_succ]
    refine take_at (v := ?_) 13 40 rfl rfl (by kernel_rfl) (by kernel_rfl) (by kernel_rfl) (fun _ _ _ h => h) hHeld (Or.inl ⟨by rfl, ?_⟩) rfl ?_
    rotate_left
    · intro wq hSw
      go_simp
      try with_reducible rfl
    simp only [List.set_cons_zero, List.set_cons_succ]
    refine take_at (v := ?_) 14 41 rfl rfl (by kernel_rfl) (by kernel_rfl) (by kernel_rfl) (fun _ _ _ h => h) hHeld (Or.inl ⟨by rfl, ?_⟩) rfl ?_
    rotate_left
    · intro wq hSw
      go_simp
      try with_reducible rfl
    simp only [List.set_cons_zero, List.set_cons_succ]
    refine take_at 15 42 rfl rfl (by kernel_rfl) (by kernel_rfl) (by kernel_rfl) (fun _ _ _ h => h) hHeld (yieldsIf_load_agg (by rfl) 39 (.tmp 7) rfl _ _ (by rfl) (fun wq hSw => (HZ.out.under hSw HZ.out.lt).load_agg (P := Try.prog) (t := 39) Try.underlying39 rfl (by kernel_rfl))) rfl ?_
    simp only [List.set_cons_zero, List.set_cons_succ]
    refine take_at 16 43 rfl rfl (by kernel_rfl) (by kernel_rfl) (by kernel_rfl) (fun _ _ _ h => h) hHeld (yieldsIf_load_agg (by rfl) 38 (.tmp 9) rfl _ _ (by rfl) (fun wq hSw => (HW.out.under hSw HW.out.lt).load_agg (P := Try.prog) (t := 38) Try.underlying38 rfl (by kernel_rfl))) rfl ?_
    simp only [List.set_cons_zero, List.set_cons_succ]
    refine take_at (v := .bool true) 17 44 rfl rfl (by kernel_rfl) (by kernel_rfl) (by kernel_rfl) (fun _ _ _ h => h) hHeld (Or.inl ⟨by rfl, ?_⟩) rfl ?_
    · intro wq hSw
      go_simp
    simp only [List.set_cons_zero, List.set_cons_succ]
    refine take_at (v := ?_) 18 45 rfl rfl (by kernel_rfl) (by kernel_rfl) (by kernel_rfl) (fun _ _ _ h => h) hHeld (Or.inl ⟨by rfl, ?_⟩) rfl ?_
    rotate_left
    · intro wq hSw
      go_simp
      try with_reducible rfl
    simp only [List.set_cons_zero, List.set_cons_succ]
    refine take_at (v := ?_) 19 46 rfl rfl (by kernel_rfl) (by kernel_rfl) (by kernel_rfl) (fun _ _ _ h => h) hHeld (Or.inl ⟨by rfl, ?_⟩) rfl ?_
    rotate_left
    · intro wq hSw
      go_simp
      try with_reducible rfl
    simp only [List.set_cons_zero, List.set_cons_succ]
    refine take_at (v := ?_) 20 47 rfl rfl (by kernel_rfl) (by kernel_rfl) (by kernel_rfl) (fun _ _ _ h => h) hHeld (Or.inl ⟨by rfl, ?_⟩) rfl ?_
    rotate_left
    · intro wq hSw
      go_simp
      try with_reducible rfl
    simp only [List.set_cons_zero, List.set_cons_succ]
    refine take_at (v := ?_) 22 49 rfl rfl (by kernel_rfl) (by kernel_rfl) (by kernel_rfl) (fun _ _ _ h => h) hHeld (Or.inl ⟨by rfl, ?_⟩) rfl ?_
    rotate_left
    · intro wq hSw
      go_simp
      try with_reducible rfl
    simp only [List.set_cons_zero, List.set_cons_succ]
    refine wpAnyH_ready (rs := [21]) (by kernel_rfl) (by simp) ?_
    refine AllReadyH.cons rfl (fun K hK => ?_) AllReadyH.nil
    go_simp
    go_at_call 11; refine (num_nil _).mono ?_; rintro e wq ⟨rfl, rfl⟩
    refine hK.out _ _ hHeld (fun _ => ?_)
    clear hK K
    try simp only [Act.put, List.setIfInBounds_toArray, List.set_cons_zero, List.set_cons_succ]
    refine take_at (v := ?_) 23 50 rfl rfl (by kernel_rfl) (by kernel_rfl) (by kernel_rfl) (fun _ _ _ h => h) hHeld (Or.inl ⟨by rfl, ?_⟩) rfl ?_
    rotate_left
    · intro wq hSw
      go_simp
      try with_reducible rfl
    simp only [List.set_cons_zero, List.set_cons_succ]
    refine take_at (v := ?_) 24 51 rfl rfl (by kernel_rfl) (by kernel_rfl) (by kernel_rfl) (fun _ _ _ h => h) hHeld (Or.inl ⟨by rfl, ?_⟩) rfl ?_
    rotate_left
    · intro wq hSw
      go_simp
      try with_reducible rfl
    simp only [List.set_cons_zero, List.set_cons_succ]
    refine take_at (v := ?_) 25 4 rfl rfl (by kernel_rfl) (by kernel_rfl) (by kernel_rfl) (fun _ _ _ h => h) hHeld (Or.inl ⟨by rfl, ?_⟩) rfl ?_
    rotate_left
    · intro wq hSw
      go_simp
      try with_reducible rfl
    simp only [List.set_cons_zero, List.set_cons_succ]
    refine wpAnyH_done (by kernel_rfl) ?_ _
    go_wp2_with fail
    go_ret
    exact ⟨rfl, HT.out⟩
  · go_simp
    obtain ⟨wa, hwa⟩ : ∃ ww, ww = wd.alloc (.cells #[.int .i64 0, .int .i64 0] 39) := ⟨_, rfl⟩
    obtain ⟨gy, hgy⟩ : ∃ x, x = wd.heap.size := ⟨_, rfl⟩
    rw [← hwa, ← hgy]
    have hNgy : Has wa gy 39 #[.int .i64 0, .int .i64 0] := by rw [hwa, hgy]; exact Has.fresh _ _ _
    have hbwa : Below wd.heap.size wd wa := by rw [hwa]; exact (Below.refl _ _).alloc (Nat.le_refl _) _
    have hLgy : wd.heap.size ≤ gy := by omega
    clear hwa hgy

    refine hK.out _ _ (Held.of hbwa) (fun _ => ?_)
    clear hK K
    try simp only [Act.put, List.setIfInBounds_toArray, List.set_cons_zero, List.set_cons_succ]
    refine wpAnyH_ready (rs := [2]) (by kernel_rfl) (by simp) ?_
    refine AllReadyH.cons rfl (fun K hK => ?_) AllReadyH.nil
    go_simp
    obtain ⟨wb, hwb⟩ : ∃ ww, ww = wa.alloc (.cells #[.int .i64 0, .int .i64 0] 39) := ⟨_, rfl⟩
    obtain ⟨gx, hgx⟩ : ∃ x, x = wa.heap.size := ⟨_, rfl⟩
    rw [← hwb, ← hgx]
    have hNgx : Has wb gx 39 #[.int .i64 0, .int .i64 0] := by rw [hwb, hgx]; exact Has.fresh _ _ _
    have hbwb : Below wa.heap.size wa wb := by rw [hwb]; exact (Below.refl _ _).alloc (Nat.le_refl _) _
    have hLgx : wd.heap.size ≤ gx := by have := hbwa.size; omega
    have hne : gy ≠ gx := by have := hNgy.lt; omega
    clear hwb hgx

    have hdb : Below wd.heap.size wd wb := hbwa.trans (hbwb.mono hbwa.size)
    refine hK.out _ _ (Held.of hdb) (fun _ => ?_)
    clear hK K
    try simp only [Act.put, List.setIfInBounds_toArray, List.set_cons_zero, List.set_cons_succ]
    have hNE := Lib.hid (show gx ≠ gy ∧ wd.heap.size ≤ gx ∧ wd.heap.size ≤ gy by omega)
    have hBgy := hNgy.under hbwb hNgy.lt
    have hBgx := hNgx
    clear hNgy hNgx hLgx hLgy hne
    refine wpAnyH_ready (rs := [4]) (by kernel_rfl) (by simp) ?_
    refine AllReadyH.cons rfl (fun K hK => ?_) AllReadyH.nil
    refine step_store_row (by rfl) 39 (.tmp 5) (.tmp 13) rfl gx 0 (#[.int .i64 f, .int .i64 v]) (by first | rfl | simp [Act.eval]) (by first | rfl | simp [Act.eval]) (hBgx.there 0 2 (Nat.le_refl _)) (by kernel_rfl) (two_one _ _ rfl rfl) rfl ?_
    obtain ⟨wc, hwc⟩ : ∃ ww, ww = wb.setCells gx 0 (#[.int .i64 f, .int .i64 v] : Array Value).toList := ⟨_, rfl⟩
    rw [← hwc]
    have hCgx : Has wc gx 39 #[.int .i64 f, .int .i64 v] := by rw [hwc]; exact hBgx.whole_cs rfl
    have hdwc : Below wd.heap.size wd wc := by rw [hwc]; exact below_setAll hNE.out.2.1 _ 0 hdb
    replace hBgy : Has wc gy 39 #[.int .i64 0, .int .i64 0] := by rw [hwc]; exact hBgy.asideAll (fun e => hNE.out.1 e.symm) _ 0
    refine hK.out _ _ (Held.of hdwc) (fun _ => ?_)
    clear hK K hwc
    refine wpAnyH_ready (rs := [5]) (by kernel_rfl) (by simp) ?_
    refine AllReadyH.cons rfl (fun K hK => ?_) AllReadyH.nil
    refine step_store_row (by rfl) 39 (.tmp 6) (.tmp 14) rfl gy 0 (#[.int .i64 g, .int .i64 u]) (by first | rfl | simp [Act.eval]) (by first | rfl | simp [Act.eval]) (hBgy.there 0 2 (Nat.le_refl _)) (by kernel_rfl) (two_one _ _ rfl rfl) rfl ?_
    obtain ⟨we, hwe⟩ : ∃ ww, ww = wc.setCells gy 0 (#[.int .i64 g, .int .i64 u] : Array Value).toList := ⟨_, rfl⟩
    rw [← hwe]
    have hCgy : Has we gy 39 #[.int .i64 g, .int .i64 u] := by rw [hwe]; exact hBgy.whole_cs rfl
    have hdwe : Below wd.heap.size wd we := by rw [hwe]; exact below_setAll hNE.out.2.2 _ 0 hdwc
    replace hCgx : Has we gx 39 #[.int .i64 f, .int .i64 v] := by rw [hwe]; exact hCgx.asideAll hNE.out.1 _ 0
    refine hK.out _ _ (Held.of hdwe) (fun _ => ?_)
    clear hK K hwe
    refine wpAnyH_done (by kernel_rfl) ?_ _
    obtain ⟨w6, hw6⟩ : ∃ x, x = we := ⟨_, rfl⟩
    rw [← hw6] at hCgx hCgy hdwe ⊢
    have hT6 := hTd.trans (hdwe.mono hTd.size)
    have hA6 := hGa.under hdwe hGa.lt
    have hB6 := hGb.under hdwe hGb.lt
    clear hw6 hdwe hGa hGb hTd
    have lx := hCgx.load_agg (P := Try.prog) (t := 39) Try.underlying39 rfl (by kernel_rfl)
    have ly := hCgy.load_agg (P := Try.prog) (t := 39) Try.underlying39 rfl (by kernel_rfl)
    go_upto_region 5 with (first
      | (refine wpList_store_mid rfl 39 (.tmp 7) (.tmp 19) rfl w7.heap.size 0 #[.int .i64 (f + g), .int .i64 (v + u)] rfl rfl ((Has.fresh w7 39 #[.int .i64 0, .int .i64 0]).there 0 2 (Nat.le_refl _)) (by kernel_rfl) (two_one _ _ rfl rfl) ?_)
      | (refine wpList_load_run rfl 39 (.tmp 6) rfl _ _ rfl ly ?_)
      | (refine wpList_load_run rfl 39 (.tmp 5) rfl _ _ rfl lx ?_)
      | (go_at_call 16; refine (ok.with_ok f v g u w6 HF.out).mono ?_; rintro e w7 ⟨rfl, hb7⟩))
    obtain ⟨w8, hw8⟩ : ∃ x, x = (w7.alloc (.cells #[.int .i64 0, .int .i64 0] 39)).setCells w7.heap.size 0 (#[.int .i64 (f + g), .int .i64 (v + u)] : Array Value).toList := ⟨_, rfl⟩
    have hZ8 : Has w8 w7.heap.size 39 #[.int .i64 (f + g), .int .i64 (v + u)] := by rw [hw8]; exact (Has.fresh w7 39 #[.int .i64 0, .int .i64 0]).whole_cs rfl
    have hb8 : Below w7.heap.size w7 w8 := by rw [hw8]; exact below_setAll (Nat.le_refl _) _ 0 ((Below.refl _ _).alloc (Nat.le_refl _) _)
    rw [← hw8]
    clear hw8
    have hb68 := hb7.trans (hb8.mono hb7.size)
    obtain ⟨gz, hgz⟩ : ∃ x, x = w7.heap.size := ⟨_, rfl⟩
    rw [← hgz] at hZ8 ⊢
    clear hgz
    have hT8 := hT6.trans (hb68.mono hT6.size)
    have hA8 := hA6.under hb68 hA6.lt
    have hB8 := hB6.under hb68 hB6.lt
    have hX8 := hCgx.under hb68 hCgx.lt
    have hY8 := hCgy.under hb68 hCgy.lt
    clear hA6 hB6 hCgx hCgy hb68 hb7 hb8 hT6 lx ly
    have la := hA8.load_agg (P := Try.prog) (t := 38) Try.underlying38 rfl (by kernel_rfl)
    have lb := hB8.load_agg (P := Try.prog) (t := 38) Try.underlying38 rfl (by kernel_rfl)
    go_upto_region 6 with (first
      | (refine wpList_store_mid rfl 38 (.tmp 9) (.tmp 25) rfl w9.heap.size 0 #[.int .i64 (f + g), .int .i64 (v + u)] rfl rfl ((Has.fresh w9 38 #[.int .i64 0, .int .i64 0]).there 0 2 (Nat.le_refl _)) (by kernel_rfl) (two_one _ _ rfl rfl) ?_)
      | (refine wpList_load_run rfl 38 (.tmp 3) rfl _ _ rfl lb ?_)
      | (refine wpList_load_run rfl 38 (.tmp 2) rfl _ _ rfl la ?_)
      | (go_at_call 17; refine (awith_ok f v g u HF.out w8).mono ?_; rintro e w9 ⟨rfl, hb9⟩))
    obtain ⟨wt, hwt⟩ : ∃ x, x = (w9.alloc (.cells #[.int .i64 0, .int .i64 0] 38)).setCells w9.heap.size 0 (#[.int .i64 (f + g), .int .i64 (v + u)] : Array Value).toList := ⟨_, rfl⟩
    have hW0 : Has wt w9.heap.size 38 #[.int .i64 (f + g), .int .i64 (v + u)] := by rw [hwt]; exact (Has.fresh w9 38 #[.int .i64 0, .int .i64 0]).whole_cs rfl
    have hbt : Below w9.heap.size w9 wt := by rw [hwt]; exact below_setAll (Nat.le_refl _) _ 0 ((Below.refl _ _).alloc (Nat.le_refl _) _)
    rw [← hwt]
    clear hwt
    have hb8t := hb9.trans (hbt.mono hb9.size)
    obtain ⟨gw, hgw⟩ : ∃ x, x = w9.heap.size := ⟨_, rfl⟩
    rw [← hgw] at hW0 ⊢
    clear hgw
    obtain ⟨ws, hws⟩ : ∃ x, x = wt.drew := ⟨_, rfl⟩
    have hmd : Below wt.heap.size wt ws := by rw [hws]; exact (Below.refl _ _).drew
    have hb8s := hb8t.trans (hmd.mono hb8t.size)
    have HA := Lib.hid (hA8.under hb8s hA8.lt)
    have HB := Lib.hid (hB8.under hb8s hB8.lt)
    have HX := Lib.hid (hX8.under hb8s hX8.lt)
    have HY := Lib.hid (hY8.under hb8s hY8.lt)
    have HZ := Lib.hid (hZ8.under hb8s hZ8.lt)
    have HW := Lib.hid (hW0.under hmd hW0.lt)
    have HT := Lib.hid (hT8.trans (hb8s.mono hT8.size))
    refine wp_region_held_drew (S := Held ws) (by kernel_rfl) (by rw [hws]; exact Held.refl _) (fun hHeld => ?_)
    rw [← hws] at hHeld ⊢
    clear hws hmd hA8 hB8 hX8 hY8 hZ8 hW0 hb8t hb9 hbt hb8s hT8 la lb
    refine take_at 0 27 rfl rfl (by kernel_rfl) (by kernel_rfl) (by kernel_rfl) (fun _ _ _ h => h) hHeld (yieldsIf_load_agg (by rfl) 39 (.tmp 5) rfl _ _ (by rfl) (fun wq hSw => (HX.out.under hSw HX.out.lt).load_agg (P := Try.prog) (t := 39) Try.underlying39 rfl (by kernel_rfl))) rfl ?_
    simp only [List.set_cons_zero, List.set_cons_succ]
    refine take_at 2 29 rfl rfl (by kernel_rfl) (by kernel_rfl) (by kernel_rfl) (fun _ _ _ h => h) hHeld (yieldsIf_load_agg (by rfl) 38 (.tmp 2) rfl _ _ (by rfl) (fun wq hSw => (HA.out.under hSw HA.out.lt).load_agg (P := Try.prog) (t := 38) Try.underlying38 rfl (by kernel_rfl))) rfl ?_
    simp only [List.set_cons_zero, List.set_cons_succ]
    refine wpAnyH_ready (rs := [1]) (by kernel_rfl) (by simp) ?_
    refine AllReadyH.cons rfl (fun K hK => ?_) AllReadyH.nil
    go_simp
    go_at_call 18; refine (ok.right f v b ws HR.out).mono ?_; rintro e k1 ⟨rfl, hkk1⟩
    refine hK.out _ _ (Held.of hkk1) (fun _ => ?_)
    clear hK K
    try simp only [Act.put, List.setIfInBounds_toArray, List.set_cons_zero, List.set_cons_succ]
    refine held_grow (w1 := k1) (Held.of hkk1) ?_
    clear hHeld
    have hHeld : Held k1 k1 := Held.refl _
    replace HA := Lib.hid (HA.out.under hkk1 HA.out.lt)
    replace HB := Lib.hid (HB.out.under hkk1 HB.out.lt)
    replace HX := Lib.hid (HX.out.under hkk1 HX.out.lt)
    replace HY := Lib.hid (HY.out.under hkk1 HY.out.lt)
    replace HZ := Lib.hid (HZ.out.under hkk1 HZ.out.lt)
    replace HW := Lib.hid (HW.out.under hkk1 HW.out.lt)
    replace HT := Lib.hid (HT.out.trans (hkk1.mono HT.out.size))
    clear hkk1
    refine wpAnyH_ready (rs := [3]) (by kernel_rfl) (by simp) ?_
    refine AllReadyH.cons rfl (fun K hK => ?_) AllReadyH.nil
    go_simp
    go_at_call 19; refine (aright_any f v b HR.out k1).mono ?_; rintro e k2 ⟨rfl, hkk2⟩
    refine hK.out _ _ (Held.of hkk2) (fun _ => ?_)
    clear hK K
    try simp only [Act.put, List.setIfInBounds_toArray, List.set_cons_zero, List.set_cons_succ]
    refine held_grow (w1 := k2) (Held.of hkk2) ?_
    clear hHeld
    have hHeld : Held k2 k2 := Held.refl _
    replace HA := Lib.hid (HA.out.under hkk2 HA.out.lt)
    replace HB := Lib.hid (HB.out.under hkk2 HB.out.lt)
    replace HX := Lib.hid (HX.out.under hkk2 HX.out.lt)
    replace HY := Lib.hid (HY.out.under hkk2 HY.out.lt)
    replace HZ := Lib.hid (HZ.out.under hkk2 HZ.out.lt)
    replace HW := Lib.hid (HW.out.under hkk2 HW.out.lt)
    replace HT := Lib.hid (HT.out.trans (hkk2.mono HT.out.size))
    clear hkk2
    refine take_at (v := ?_) 4 31 rfl rfl (by kernel_rfl) (by kernel_rfl) (by kernel_rfl) (fun _ _ _ h => h) hHeld (Or.inl ⟨by rfl, ?_⟩) rfl ?_
    rotate_left
    · intro wq hSw
      go_simp
      try with_reducible rfl
    simp only [List.set_cons_zero, List.set_cons_succ]
    refine take_at (v := ?_) 5 32 rfl rfl (by kernel_rfl) (by kernel_rfl) (by kernel_rfl) (fun _ _ _ h => h) hHeld (Or.inl ⟨by rfl, ?_⟩) rfl ?_
    rotate_left
    · intro wq hSw
      go_simp
      try with_reducible rfl
    simp only [List.set_cons_zero, List.set_cons_succ]
    refine take_at 6 33 rfl rfl (by kernel_rfl) (by kernel_rfl) (by kernel_rfl) (fun _ _ _ h => h) hHeld (yieldsIf_load_agg (by rfl) 39 (.tmp 5) rfl _ _ (by rfl) (fun wq hSw => (HX.out.under hSw HX.out.lt).load_agg (P := Try.prog) (t := 39) Try.underlying39 rfl (by kernel_rfl))) rfl ?_
    simp only [List.set_cons_zero, List.set_cons_succ]
    refine take_at 7 34 rfl rfl (by kernel_rfl) (by kernel_rfl) (by kernel_rfl) (fun _ _ _ h => h) hHeld (yieldsIf_load_agg (by rfl) 39 (.tmp 6) rfl _ _ (by rfl) (fun wq hSw => (HY.out.under hSw HY.out.lt).load_agg (P := Try.prog) (t := 39) Try.underlying39 rfl (by kernel_rfl))) rfl ?_
    simp only [List.set_cons_zero, List.set_cons_succ]
    refine take_at 9 36 rfl rfl (by kernel_rfl) (by kernel_rfl) (by kernel_rfl) (fun _ _ _ h => h) hHeld (yieldsIf_load_agg (by rfl) 38 (.tmp 2) rfl _ _ (by rfl) (fun wq hSw => (HA.out.under hSw HA.out.lt).load_agg (P := Try.prog) (t := 38) Try.underlying38 rfl (by kernel_rfl))) rfl ?_
    simp only [List.set_cons_zero, List.set_cons_succ]
    refine take_at 10 37 rfl rfl (by kernel_rfl) (by kernel_rfl) (by kernel_rfl) (fun _ _ _ h => h) hHeld (yieldsIf_load_agg (by rfl) 38 (.tmp 3) rfl _ _ (by rfl) (fun wq hSw => (HB.out.under hSw HB.out.lt).load_agg (P := Try.prog) (t := 38) Try.underlying38 rfl (by kernel_rfl))) rfl ?_
    simp only [List.set_cons_zero, List.set_cons_succ]
    refine wpAnyH_ready (rs := [8]) (by kernel_rfl) (by simp) ?_
    refine AllReadyH.cons rfl (fun K hK => ?_) AllReadyH.nil
    go_simp
    go_at_call 20; refine (ok.compare f v g u k2).mono ?_; rintro e k3 ⟨rfl, hkk3⟩
    refine hK.out _ _ (Held.of hkk3) (fun _ => ?_)
    clear hK K
    try simp only [Act.put, List.setIfInBounds_toArray, List.set_cons_zero, List.set_cons_succ]
    refine held_grow (w1 := k3) (Held.of hkk3) ?_
    clear hHeld
    have hHeld : Held k3 k3 := Held.refl _
    replace HA := Lib.hid (HA.out.under hkk3 HA.out.lt)
    replace HB := Lib.hid (HB.out.under hkk3 HB.out.lt)
    replace HX := Lib.hid (HX.out.under hkk3 HX.out.lt)
    replace HY := Lib.hid (HY.out.under hkk3 HY.out.lt)
    replace HZ := Lib.hid (HZ.out.under hkk3 HZ.out.lt)
    replace HW := Lib.hid (HW.out.under hkk3 HW.out.lt)
    replace HT := Lib.hid (HT.out.trans (hkk3.mono HT.out.size))
    clear hkk3
    refine wpAnyH_ready (rs := [11]) (by kernel_rfl) (by simp) ?_
    refine AllReadyH.cons rfl (fun K hK => ?_) AllReadyH.nil
    go_simp
    go_at_call 21; refine (acompare_any f v g u k3).mono ?_; rintro e k4 ⟨rfl, hkk4⟩
    refine hK.out _ _ (Held.of hkk4) (fun _ => ?_)
    clear hK K
    try simp only [Act.put, List.setIfInBounds_toArray, List.set_cons_zero, List.set_cons_succ]
    refine held_grow (w1 := k4) (Held.of hkk4) ?_
    clear hHeld
    have hHeld : Held k4 k4 := Held.refl _
    replace HA := Lib.hid (HA.out.under hkk4 HA.out.lt)
    replace HB := Lib.hid (HB.out.under hkk4 HB.out.lt)
    replace HX := Lib.hid (HX.out.under hkk4 HX.out.lt)
    replace HY := Lib.hid (HY.out.under hkk4 HY.out.lt)
    replace HZ := Lib.hid (HZ.out.under hkk4 HZ.out.lt)
    replace HW := Lib.hid (HW.out.under hkk4 HW.out.lt)
    replace HT := Lib.hid (HT.out.trans (hkk4.mono HT.out.size))
    clear hkk4
    refine take_at (v := ?_) 12 39 rfl rfl (by kernel_rfl) (by kernel_rfl) (by kernel_rfl) (fun _ _ _ h => h) hHeld (Or.inl ⟨by rfl, ?_⟩) rfl ?_
    rotate_left
    · intro wq hSw
      go_simp
      try with_reducible rfl
    simp only [List.set_cons_zero, List.set_cons_succ]
    refine take_at (v := ?_) 13 40 rfl rfl (by kernel_rfl) (by kernel_rfl) (by kernel_rfl) (fun _ _ _ h => h) hHeld (Or.inl ⟨by rfl, ?_⟩) rfl ?_
    rotate_left
    · intro wq hSw
      go_simp
      try with_reducible rfl
    simp only [List.set_cons_zero, List.set_cons_succ]
    refine take_at (v := ?_) 14 41 rfl rfl (by kernel_rfl) (by kernel_rfl) (by kernel_rfl) (fun _ _ _ h => h) hHeld (Or.inl ⟨by rfl, ?_⟩) rfl ?_
    rotate_left
    · intro wq hSw
      go_simp
      try with_reducible rfl
    simp only [List.set_cons_zero, List.set_cons_succ]
    refine take_at 15 42 rfl rfl (by kernel_rfl) (by kernel_rfl) (by kernel_rfl) (fun _ _ _ h => h) hHeld (yieldsIf_load_agg (by rfl) 39 (.tmp 7) rfl _ _ (by rfl) (fun wq hSw => (HZ.out.under hSw HZ.out.lt).load_agg (P := Try.prog) (t := 39) Try.underlying39 rfl (by kernel_rfl))) rfl ?_
    simp only [List.set_cons_zero, List.set_cons_succ]
    refine take_at 16 43 rfl rfl (by kernel_rfl) (by kernel_rfl) (by kernel_rfl) (fun _ _ _ h => h) hHeld (yieldsIf_load_agg (by rfl) 38 (.tmp 9) rfl _ _ (by rfl) (fun wq hSw => (HW.out.under hSw HW.out.lt).load_agg (P := Try.prog) (t := 38) Try.underlying38 rfl (by kernel_rfl))) rfl ?_
    simp only [List.set_cons_zero, List.set_cons_succ]
    refine take_at (v := .bool true) 17 44 rfl rfl (by kernel_rfl) (by kernel_rfl) (by kernel_rfl) (fun _ _ _ h => h) hHeld (Or.inl ⟨by rfl, ?_⟩) rfl ?_
    · intro wq hSw
      go_simp
    simp only [List.set_cons_zero, List.set_cons_succ]
    refine take_at (v := ?_) 18 45 rfl rfl (by kernel_rfl) (by kernel_rfl) (by kernel_rfl) (fun _ _ _ h => h) hHeld (Or.inl ⟨by rfl, ?_⟩) rfl ?_
    rotate_left
    · intro wq hSw
      go_simp
      try with_reducible rfl
    simp only [List.set_cons_zero, List.set_cons_succ]
    refine take_at (v := ?_) 19 46 rfl rfl (by kernel_rfl) (by kernel_rfl) (by kernel_rfl) (fun _ _ _ h => h) hHeld (Or.inl ⟨by rfl, ?_⟩) rfl ?_
    rotate_left
    · intro wq hSw
      go_simp
      try with_reducible rfl
    simp only [List.set_cons_zero, List.set_cons_succ]
    refine take_at (v := ?_) 20 47 rfl rfl (by kernel_rfl) (by kernel_rfl) (by kernel_rfl) (fun _ _ _ h => h) hHeld (Or.inl ⟨by rfl, ?_⟩) rfl ?_
    rotate_left
    · intro wq hSw
      go_simp
      try with_reducible rfl
    simp only [List.set_cons_zero, List.set_cons_succ]
    refine take_at (v := ?_) 22 49 rfl rfl (by kernel_rfl) (by kernel_rfl) (by kernel_rfl) (fun _ _ _ h => h) hHeld (Or.inl ⟨by rfl, ?_⟩) rfl ?_
    rotate_left
    · intro wq hSw
      go_simp
      try with_reducible rfl
    simp only [List.set_cons_zero, List.set_cons_succ]
    refine wpAnyH_ready (rs := [21]) (by kernel_rfl) (by simp) ?_
    refine AllReadyH.cons rfl (fun K hK => ?_) AllReadyH.nil
    go_simp
    go_at_call 11; refine (num_nil _).mono ?_; rintro e wq ⟨rfl, rfl⟩
    refine hK.out _ _ hHeld (fun _ => ?_)
    clear hK K
    try simp only [Act.put, List.setIfInBounds_toArray, List.set_cons_zero, List.set_cons_succ]
    refine take_at (v := ?_) 23 50 rfl rfl (by kernel_rfl) (by kernel_rfl) (by kernel_rfl) (fun _ _ _ h => h) hHeld (Or.inl ⟨by rfl, ?_⟩) rfl ?_
    rotate_left
    · intro wq hSw
      go_simp
      try with_reducible rfl
    simp only [List.set_cons_zero, List.set_cons_succ]
    refine take_at (v := ?_) 24 51 rfl rfl (by kernel_rfl) (by kernel_rfl) (by kernel_rfl) (fun _ _ _ h => h) hHeld (Or.inl ⟨by rfl, ?_⟩) rfl ?_
    rotate_left
    · intro wq hSw
      go_simp
      try with_reducible rfl
    simp only [List.set_cons_zero, List.set_cons_succ]
    refine take_at (v := ?_) 25 4 rfl rfl (by kernel_rfl) (by kernel_rfl) (by kernel_rfl) (fun _ _ _ h => h) hHeld (Or.inl ⟨by rfl, ?_⟩) rfl ?_
    rotate_left
    · intro wq hSw
      go_simp
      try with_reducible rfl
    simp only [List.set_cons_zero, List.set_cons_succ]
    refine wpAnyH_done (by kernel_rfl) ?_ _
    go_wp2_with fail
    go_ret
    exact ⟨rfl, HT.out⟩
set_option maxRecDepth 100000 in
set_option maxHeartbeats 16000000 in
theorem ratesNot (ok : AmountOk) (W : World) (f v g u : Int) (hf : ¬ Am.Fits f v g u) :
    Calls Try.prog 4 #[.agg #[.int .i64 f, .int .i64 v], .agg #[.int .i64 g, .int .i64 u]] W fun e w' => e = .returned (.bool true) ∧ Below W.heap.size W w' := by
  obtain ⟨b, hb⟩ : ∃ b : Bool, b = true ↔ Am.Right f v := ⟨decide (Am.Right f v), decide_eq_true_iff⟩
  have HR := Lib.hid hb
  have HF := Lib.hid hf
  clear hb hf
  go_enter Try.func4, Try.ntmps4
  go_upto_region 1 with fail
  obtain ⟨W1, hW1⟩ : ∃ x, x = (W.alloc (.cells #[.int .i64 f, .int .i64 v] 38)).alloc (.cells #[.int .i64 g, .int .i64 u] 38) := ⟨_, rfl⟩
  rw [← hW1]
  have hA1 : Has W1 W.heap.size 38 #[.int .i64 f, .int .i64 v] := by rw [hW1]; exact (Has.fresh _ _ _).past _
  have hB1 : Has W1 (W.heap.size + 1) 38 #[.int .i64 g, .int .i64 u] := by rw [hW1]; exact Has.fresh_at _ _ _ (by simp)
  have hT1 : Below W.heap.size W W1 := by rw [hW1]; exact ((Below.refl _ _).alloc (Nat.le_refl _) _).alloc (by simp) _
  clear hW1
  go_upto_region 3 with (go_at_call 7; refine (alive09 ok W1).mono ?_; rintro e w2 ⟨rfl, hb2⟩)
  obtain ⟨wd, hwd⟩ : ∃ x, x = w2.drew := ⟨_, rfl⟩
  have hbd : Below W1.heap.size W1 wd := by rw [hwd]; exact hb2.drew
  have hGa := hA1.under hbd hA1.lt
  have hGb := hB1.under hbd hB1.lt
  have hTd := hT1.trans (hbd.mono hT1.size)
  refine wp_region_held_drew (S := Held wd) (by kernel_rfl) (by rw [hwd]; exact Held.refl _) (fun hHeld => ?_)
  rw [← hwd] at hHeld ⊢
  clear hwd hbd hb2 hA1 hB1 hT1
  refine take_at 0 13 rfl rfl (by kernel_rfl) (by kernel_rfl) (by kernel_rfl) (fun _ _ _ h => h) hHeld (yieldsIf_load_agg (by rfl) 38 (.tmp 2) rfl _ _ (by rfl) (fun wq hSw => (hGa.under hSw hGa.lt).load_agg (P := Try.prog) (t := 38) Try.underlying38 rfl (by kernel_rfl))) rfl ?_
  simp only [List.set_cons_zero, List.set_cons_succ]
  refine take_at 1 14 rfl rfl (by kernel_rfl) (by kernel_rfl) (by kernel_rfl) (fun _ _ _ h => h) hHeld (yieldsIf_load_agg (by rfl) 38 (.tmp 3) rfl _ _ (by rfl) (fun wq hSw => (hGb.under hSw hGb.lt).load_agg (P := Try.prog) (t := 38) Try.underlying38 rfl (by kernel_rfl))) rfl ?_
  simp only [List.set_cons_zero, List.set_cons_succ]
  refine wpAnyH_ready (rs := [2, 3]) (by kernel_rfl) (by simp) ?_
  refine AllReadyH.cons rfl (fun K hK => ?_) (AllReadyH.cons rfl (fun K hK => ?_) AllReadyH.nil)
  · go_simp
    obtain ⟨wa, hwa⟩ : ∃ ww, ww = wd.alloc (.cells #[.int .i64 0, .int .i64 0] 39) := ⟨_, rfl⟩
    obtain ⟨gx, hgx⟩ : ∃ x, x = wd.heap.size := ⟨_, rfl⟩
    rw [← hwa, ← hgx]
    have hNgx : Has wa gx 39 #[.int .i64 0, .int .i64 0] := by rw [hwa, hgx]; exact Has.fresh _ _ _
    have hbwa : Below wd.heap.size wd wa := by rw [hwa]; exact (Below.refl _ _).alloc (Nat.le_refl _) _
    have hLgx : wd.heap.size ≤ gx := by omega
    clear hwa hgx

    refine hK.out _ _ (Held.of hbwa) (fun _ => ?_)
    clear hK K
    try simp only [Act.put, List.setIfInBounds_toArray, List.set_cons_zero, List.set_cons_succ]
    refine wpAnyH_ready (rs := [3]) (by kernel_rfl) (by simp) ?_
    refine AllReadyH.cons rfl (fun K hK => ?_) AllReadyH.nil
    go_simp
    obtain ⟨wb, hwb⟩ : ∃ ww, ww = wa.alloc (.cells #[.int .i64 0, .int .i64 0] 39) := ⟨_, rfl⟩
    obtain ⟨gy, hgy⟩ : ∃ x, x = wa.heap.size := ⟨_, rfl⟩
    rw [← hwb, ← hgy]
    have hNgy : Has wb gy 39 #[.int .i64 0, .int .i64 0] := by rw [hwb, hgy]; exact Has.fresh _ _ _
    have hbwb : Below wa.heap.size wa wb := by rw [hwb]; exact (Below.refl _ _).alloc (Nat.le_refl _) _
    have hLgy : wd.heap.size ≤ gy := by have := hbwa.size; omega
    have hne : gx ≠ gy := by have := hNgx.lt; omega
    clear hwb hgy

    have hdb : Below wd.heap.size wd wb := hbwa.trans (hbwb.mono hbwa.size)
    refine hK.out _ _ (Held.of hdb) (fun _ => ?_)
    clear hK K
    try simp only [Act.put, List.setIfInBounds_toArray, List.set_cons_zero, List.set_cons_succ]
    have hNE := Lib.hid (show gx ≠ gy ∧ wd.heap.size ≤ gx ∧ wd.heap.size ≤ gy by omega)
    have hBgx := hNgx.under hbwb hNgx.lt
    have hBgy := hNgy
    clear hNgx hNgy hLgx hLgy hne
    refine wpAnyH_ready (rs := [4]) (by kernel_rfl) (by simp) ?_
    refine AllReadyH.cons rfl (fun K hK => ?_) AllReadyH.nil
    refine step_store_row (by rfl) 39 (.tmp 5) (.tmp 13) rfl gx 0 (#[.int .i64 f, .int .i64 v]) (by first | rfl | simp [Act.eval]) (by first | rfl | simp [Act.eval]) (hBgx.there 0 2 (Nat.le_refl _)) (by kernel_rfl) (two_one _ _ rfl rfl) rfl ?_
    obtain ⟨wc, hwc⟩ : ∃ ww, ww = wb.setCells gx 0 (#[.int .i64 f, .int .i64 v] : Array Value).toList := ⟨_, rfl⟩
    rw [← hwc]
    have hCgx : Has wc gx 39 #[.int .i64 f, .int .i64 v] := by rw [hwc]; exact hBgx.whole_cs rfl
    have hdwc : Below wd.heap.size wd wc := by rw [hwc]; exact below_setAll hNE.out.2.1 _ 0 hdb
    replace hBgy : Has wc gy 39 #[.int .i64 0, .int .i64 0] := by rw [hwc]; exact hBgy.asideAll (fun e => hNE.out.1 e.symm) _ 0
    refine hK.out _ _ (Held.of hdwc) (fun _ => ?_)
    clear hK K hwc
    refine wpAnyH_ready (rs := [5]) (by kernel_rfl) (by simp) ?_
    refine AllReadyH.cons rfl (fun K hK => ?_) AllReadyH.nil
    refine step_store_row (by rfl) 39 (.tmp 6) (.tmp 14) rfl gy 0 (#[.int .i64 g, .int .i64 u]) (by first | rfl | simp [Act.eval]) (by first | rfl | simp [Act.eval]) (hBgy.there 0 2 (Nat.le_refl _)) (by kernel_rfl) (two_one _ _ rfl rfl) rfl ?_
    obtain ⟨we, hwe⟩ : ∃ ww, ww = wc.setCells gy 0 (#[.int .i64 g, .int .i64 u] : Array Value).toList := ⟨_, rfl⟩
    rw [← hwe]
    have hCgy : Has we gy 39 #[.int .i64 g, .int .i64 u] := by rw [hwe]; exact hBgy.whole_cs rfl
    have hdwe : Below wd.heap.size wd we := by rw [hwe]; exact below_setAll hNE.out.2.2 _ 0 hdwc
    replace hCgx : Has we gx 39 #[.int .i64 f, .int .i64 v] := by rw [hwe]; exact hCgx.asideAll hNE.out.1 _ 0
    refine hK.out _ _ (Held.of hdwe) (fun _ => ?_)
    clear hK K hwe
    refine wpAnyH_done (by kernel_rfl) ?_ _
    obtain ⟨w6, hw6⟩ : ∃ x, x = we := ⟨_, rfl⟩
    rw [← hw6] at hCgx hCgy hdwe ⊢
    have hT6 := hTd.trans (hdwe.mono hTd.size)
    have hA6 := hGa.under hdwe hGa.lt
    have hB6 := hGb.under hdwe hGb.lt
    clear hw6 hdwe hGa hGb hTd
    have lx := hCgx.load_agg (P := Try.prog) (t := 39) Try.underlying39 rfl (by kernel_rfl)
    have ly := hCgy.load_agg (P := Try.prog) (t := 39) Try.underlying39 rfl (by kernel_rfl)
    go_upto_region 5 with (first
      | (refine wpList_store_mid rfl 39 (.tmp 7) (.tmp 19) rfl w7.heap.size 0 #[.int .i64 0, .int .i64 0] rfl rfl ((Has.fresh w7 39 #[.int .i64 0, .int .i64 0]).there 0 2 (Nat.le_refl _)) (by kernel_rfl) (two_one _ _ rfl rfl) ?_)
      | (refine wpList_load_run rfl 39 (.tmp 6) rfl _ _ rfl ly ?_)
      | (refine wpList_load_run rfl 39 (.tmp 5) rfl _ _ rfl lx ?_)
      | (go_at_call 16; refine (ok.with_no f v g u w6 HF.out).mono ?_; rintro e w7 ⟨rfl, hb7⟩))
    obtain ⟨w8, hw8⟩ : ∃ x, x = (w7.alloc (.cells #[.int .i64 0, .int .i64 0] 39)).setCells w7.heap.size 0 (#[.int .i64 0, .int .i64 0] : Array Value).toList := ⟨_, rfl⟩
    have hZ8 : Has w8 w7.heap.size 39 #[.int .i64 0, .int .i64 0] := by rw [hw8]; exact (Has.fresh w7 39 #[.int .i64 0, .int .i64 0]).whole_cs rfl
    have hb8 : Below w7.heap.size w7 w8 := by rw [hw8]; exact below_setAll (Nat.le_refl _) _ 0 ((Below.refl _ _).alloc (Nat.le_refl _) _)
    rw [← hw8]
    clear hw8
    have hb68 := hb7.trans (hb8.mono hb7.size)
    obtain ⟨gz, hgz⟩ : ∃ x, x = w7.heap.size := ⟨_, rfl⟩
    rw [← hgz] at hZ8 ⊢
    clear hgz
    have hT8 := hT6.trans (hb68.mono hT6.size)
    have hA8 := hA6.under hb68 hA6.lt
    have hB8 := hB6.under hb68 hB6.lt
    have hX8 := hCgx.under hb68 hCgx.lt
    have hY8 := hCgy.under hb68 hCgy.lt
    clear hA6 hB6 hCgx hCgy hb68 hb7 hb8 hT6 lx ly
    have la := hA8.load_agg (P := Try.prog) (t := 38) Try.underlying38 rfl (by kernel_rfl)
    have lb := hB8.load_agg (P := Try.prog) (t := 38) Try.underlying38 rfl (by kernel_rfl)
    go_upto_region 6 with (first
      | (refine wpList_store_mid rfl 38 (.tmp 9) (.tmp 25) rfl w9.heap.size 0 #[.int .i64 0, .int .i64 0] rfl rfl ((Has.fresh w9 38 #[.int .i64 0, .int .i64 0]).there 0 2 (Nat.le_refl _)) (by kernel_rfl) (two_one _ _ rfl rfl) ?_)
      | (refine wpList_load_run rfl 38 (.tmp 3) rfl _ _ rfl lb ?_)
      | (refine wpList_load_run rfl 38 (.tmp 2) rfl _ _ rfl la ?_)
      | (go_at_call 17; refine (awith_no f v g u HF.out w8).mono ?_; rintro e w9 ⟨rfl, hb9⟩))
    obtain ⟨wt, hwt⟩ : ∃ x, x = (w9.alloc (.cells #[.int .i64 0, .int .i64 0] 38)).setCells w9.heap.size 0 (#[.int .i64 0, .int .i64 0] : Array Value).toList := ⟨_, rfl⟩
    have hW0 : Has wt w9.heap.size 38 #[.int .i64 0, .int .i64 0] := by rw [hwt]; exact (Has.fresh w9 38 #[.int .i64 0, .int .i64 0]).whole_cs rfl
    have hbt : Below w9.heap.size w9 wt := by rw [hwt]; exact below_setAll (Nat.le_refl _) _ 0 ((Below.refl _ _).alloc (Nat.le_refl _) _)
    rw [← hwt]
    clear hwt
    have hb8t := hb9.trans (hbt.mono hb9.size)
    obtain ⟨gw, hgw⟩ : ∃ x, x = w9.heap.size := ⟨_, rfl⟩
    rw [← hgw] at hW0 ⊢
    clear hgw
    obtain ⟨ws, hws⟩ : ∃ x, x = wt.drew := ⟨_, rfl⟩
    have hmd : Below wt.heap.size wt ws := by rw [hws]; exact (Below.refl _ _).drew
    have hb8s := hb8t.trans (hmd.mono hb8t.size)
    have HA := Lib.hid (hA8.under hb8s hA8.lt)
    have HB := Lib.hid (hB8.under hb8s hB8.lt)
    have HX := Lib.hid (hX8.under hb8s hX8.lt)
    have HY := Lib.hid (hY8.under hb8s hY8.lt)
    have HZ := Lib.hid (hZ8.under hb8s hZ8.lt)
    have HW := Lib.hid (hW0.under hmd hW0.lt)
    have HT := Lib.hid (hT8.trans (hb8s.mono hT8.size))
    refine wp_region_held_drew (S := Held ws) (by kernel_rfl) (by rw [hws]; exact Held.refl _) (fun hHeld => ?_)
    rw [← hws] at hHeld ⊢
    clear hws hmd hA8 hB8 hX8 hY8 hZ8 hW0 hb8t hb9 hbt hb8s hT8 la lb
    refine take_at 0 27 rfl rfl (by kernel_rfl) (by kernel_rfl) (by kernel_rfl) (fun _ _ _ h => h) hHeld (yieldsIf_load_agg (by rfl) 39 (.tmp 5) rfl _ _ (by rfl) (fun wq hSw => (HX.out.under hSw HX.out.lt).load_agg (P := Try.prog) (t := 39) Try.underlying39 rfl (by kernel_rfl))) rfl ?_
    simp only [List.set_cons_zero, List.set_cons_succ]
    refine take_at 2 29 rfl rfl (by kernel_rfl) (by kernel_rfl) (by kernel_rfl) (fun _ _ _ h => h) hHeld (yieldsIf_load_agg (by rfl) 38 (.tmp 2) rfl _ _ (by rfl) (fun wq hSw => (HA.out.under hSw HA.out.lt).load_agg (P := Try.prog) (t := 38) Try.underlying38 rfl (by kernel_rfl))) rfl ?_
    simp only [List.set_cons_zero, List.set_cons_succ]
    refine wpAnyH_ready (rs := [1]) (by kernel_rfl) (by simp) ?_
    refine AllReadyH.cons rfl (fun K hK => ?_) AllReadyH.nil
    go_simp
    go_at_call 18; refine (ok.right f v b ws HR.out).mono ?_; rintro e k1 ⟨rfl, hkk1⟩
    refine hK.out _ _ (Held.of hkk1) (fun _ => ?_)
    clear hK K
    try simp only [Act.put, List.setIfInBounds_toArray, List.set_cons_zero, List.set_cons_succ]
    refine held_grow (w1 := k1) (Held.of hkk1) ?_
    clear hHeld
    have hHeld : Held k1 k1 := Held.refl _
    replace HA := Lib.hid (HA.out.under hkk1 HA.out.lt)
    replace HB := Lib.hid (HB.out.under hkk1 HB.out.lt)
    replace HX := Lib.hid (HX.out.under hkk1 HX.out.lt)
    replace HY := Lib.hid (HY.out.under hkk1 HY.out.lt)
    replace HZ := Lib.hid (HZ.out.under hkk1 HZ.out.lt)
    replace HW := Lib.hid (HW.out.under hkk1 HW.out.lt)
    replace HT := Lib.hid (HT.out.trans (hkk1.mono HT.out.size))
    clear hkk1
    refine wpAnyH_ready (rs := [3]) (by kernel_rfl) (by simp) ?_
    refine AllReadyH.cons rfl (fun K hK => ?_) AllReadyH.nil
    go_simp
    go_at_call 19; refine (aright_any f v b HR.out k1).mono ?_; rintro e k2 ⟨rfl, hkk2⟩
    refine hK.out _ _ (Held.of hkk2) (fun _ => ?_)
    clear hK K
    try simp only [Act.put, List.setIfInBounds_toArray, List.set_cons_zero, List.set_cons_succ]
    refine held_grow (w1 := k2) (Held.of hkk2) ?_
    clear hHeld
    have hHeld : Held k2 k2 := Held.refl _
    replace HA := Lib.hid (HA.out.under hkk2 HA.out.lt)
    replace HB := Lib.hid (HB.out.under hkk2 HB.out.lt)
    replace HX := Lib.hid (HX.out.under hkk2 HX.out.lt)
    replace HY := Lib.hid (HY.out.under hkk2 HY.out.lt)
    replace HZ := Lib.hid (HZ.out.under hkk2 HZ.out.lt)
    replace HW := Lib.hid (HW.out.under hkk2 HW.out.lt)
    replace HT := Lib.hid (HT.out.trans (hkk2.mono HT.out.size))
    clear hkk2
    refine take_at (v := ?_) 4 31 rfl rfl (by kernel_rfl) (by kernel_rfl) (by kernel_rfl) (fun _ _ _ h => h) hHeld (Or.inl ⟨by rfl, ?_⟩) rfl ?_
    rotate_left
    · intro wq hSw
      go_simp
      try with_reducible rfl
    simp only [List.set_cons_zero, List.set_cons_succ]
    refine take_at (v := ?_) 5 32 rfl rfl (by kernel_rfl) (by kernel_rfl) (by kernel_rfl) (fun _ _ _ h => h) hHeld (Or.inl ⟨by rfl, ?_⟩) rfl ?_
    rotate_left
    · intro wq hSw
      go_simp
      try with_reducible rfl
    simp only [List.set_cons_zero, List.set_cons_succ]
    refine take_at 6 33 rfl rfl (by kernel_rfl) (by kernel_rfl) (by kernel_rfl) (fun _ _ _ h => h) hHeld (yieldsIf_load_agg (by rfl) 39 (.tmp 5) rfl _ _ (by rfl) (fun wq hSw => (HX.out.under hSw HX.out.lt).load_agg (P := Try.prog) (t := 39) Try.underlying39 rfl (by kernel_rfl))) rfl ?_
    simp only [List.set_cons_zero, List.set_cons_succ]
    refine take_at 7 34 rfl rfl (by kernel_rfl) (by kernel_rfl) (by kernel_rfl) (fun _ _ _ h => h) hHeld (yieldsIf_load_agg (by rfl) 39 (.tmp 6) rfl _ _ (by rfl) (fun wq hSw => (HY.out.under hSw HY.out.lt).load_agg (P := Try.prog) (t := 39) Try.underlying39 rfl (by kernel_rfl))) rfl ?_
    simp only [List.set_cons_zero, List.set_cons_succ]
    refine take_at 9 36 rfl rfl (by kernel_rfl) (by kernel_rfl) (by kernel_rfl) (fun _ _ _ h => h) hHeld (yieldsIf_load_agg (by rfl) 38 (.tmp 2) rfl _ _ (by rfl) (fun wq hSw => (HA.out.under hSw HA.out.lt).load_agg (P := Try.prog) (t := 38) Try.underlying38 rfl (by kernel_rfl))) rfl ?_
    simp only [List.set_cons_zero, List.set_cons_succ]
    refine take_at 10 37 rfl rfl (by kernel_rfl) (by kernel_rfl) (by kernel_rfl) (fun _ _ _ h => h) hHeld (yieldsIf_load_agg (by rfl) 38 (.tmp 3) rfl _ _ (by rfl) (fun wq hSw => (HB.out.under hSw HB.out.lt).load_agg (P := Try.prog) (t := 38) Try.underlying38 rfl (by kernel_rfl))) rfl ?_
    simp only [List.set_cons_zero, List.set_cons_succ]
    refine wpAnyH_ready (rs := [8]) (by kernel_rfl) (by simp) ?_
    refine AllReadyH.cons rfl (fun K hK => ?_) AllReadyH.nil
    go_simp
    go_at_call 20; refine (ok.compare f v g u k2).mono ?_; rintro e k3 ⟨rfl, hkk3⟩
    refine hK.out _ _ (Held.of hkk3) (fun _ => ?_)
    clear hK K
    try simp only [Act.put, List.setIfInBounds_toArray, List.set_cons_zero, List.set_cons_succ]
    refine held_grow (w1 := k3) (Held.of hkk3) ?_
    clear hHeld
    have hHeld : Held k3 k3 := Held.refl _
    replace HA := Lib.hid (HA.out.under hkk3 HA.out.lt)
    replace HB := Lib.hid (HB.out.under hkk3 HB.out.lt)
    replace HX := Lib.hid (HX.out.under hkk3 HX.out.lt)
    replace HY := Lib.hid (HY.out.under hkk3 HY.out.lt)
    replace HZ := Lib.hid (HZ.out.under hkk3 HZ.out.lt)
    replace HW := Lib.hid (HW.out.under hkk3 HW.out.lt)
    replace HT := Lib.hid (HT.out.trans (hkk3.mono HT.out.size))
    clear hkk3
    refine wpAnyH_ready (rs := [11]) (by kernel_rfl) (by simp) ?_
    refine AllReadyH.cons rfl (fun K hK => ?_) AllReadyH.nil
    go_simp
    go_at_call 21; refine (acompare_any f v g u k3).mono ?_; rintro e k4 ⟨rfl, hkk4⟩
    refine hK.out _ _ (Held.of hkk4) (fun _ => ?_)
    clear hK K
    try simp only [Act.put, List.setIfInBounds_toArray, List.set_cons_zero, List.set_cons_succ]
    refine held_grow (w1 := k4) (Held.of hkk4) ?_
    clear hHeld
    have hHeld : Held k4 k4 := Held.refl _
    replace HA := Lib.hid (HA.out.under hkk4 HA.out.lt)
    replace HB := Lib.hid (HB.out.under hkk4 HB.out.lt)
    replace HX := Lib.hid (HX.out.under hkk4 HX.out.lt)
    replace HY := Lib.hid (HY.out.under hkk4 HY.out.lt)
    replace HZ := Lib.hid (HZ.out.under hkk4 HZ.out.lt)
    replace HW := Lib.hid (HW.out.under hkk4 HW.out.lt)
    replace HT := Lib.hid (HT.out.trans (hkk4.mono HT.out.size))
    clear hkk4
    refine take_at (v := ?_) 12 39 rfl rfl (by kernel_rfl) (by kernel_rfl) (by kernel_rfl) (fun _ _ _ h => h) hHeld (Or.inl ⟨by rfl, ?_⟩) rfl ?_
    rotate_left
    · intro wq hSw
      go_simp
      try with_reducible rfl
    simp only [List.set_cons_zero, List.set_cons_succ]
    refine take_at (v := ?_) 13 40 rfl rfl (by kernel_rfl) (by kernel_rfl) (by kernel_rfl) (fun _ _ _ h => h) hHeld (Or.inl ⟨by rfl, ?_⟩) rfl ?_
    rotate_left
    · intro wq hSw
      go_simp
      try with_reducible rfl
    simp only [List.set_cons_zero, List.set_cons_succ]
    refine take_at (v := ?_) 14 41 rfl rfl (by kernel_rfl) (by kernel_rfl) (by kernel_rfl) (fun _ _ _ h => h) hHeld (Or.inl ⟨by rfl, ?_⟩) rfl ?_
    rotate_left
    · intro wq hSw
      go_simp
      try with_reducible rfl
    simp only [List.set_cons_zero, List.set_cons_succ]
    refine take_at 15 42 rfl rfl (by kernel_rfl) (by kernel_rfl) (by kernel_rfl) (fun _ _ _ h => h) hHeld (yieldsIf_load_agg (by rfl) 39 (.tmp 7) rfl _ _ (by rfl) (fun wq hSw => (HZ.out.under hSw HZ.out.lt).load_agg (P := Try.prog) (t := 39) Try.underlying39 rfl (by kernel_rfl))) rfl ?_
    simp only [List.set_cons_zero, List.set_cons_succ]
    refine take_at 16 43 rfl rfl (by kernel_rfl) (by kernel_rfl) (by kernel_rfl) (fun _ _ _ h => h) hHeld (yieldsIf_load_agg (by rfl) 38 (.tmp 9) rfl _ _ (by rfl) (fun wq hSw => (HW.out.under hSw HW.out.lt).load_agg (P := Try.prog) (t := 38) Try.underlying38 rfl (by kernel_rfl))) rfl ?_
    simp only [List.set_cons_zero, List.set_cons_succ]
    refine take_at (v := .bool true) 17 44 rfl rfl (by kernel_rfl) (by kernel_rfl) (by kernel_rfl) (fun _ _ _ h => h) hHeld (Or.inl ⟨by rfl, ?_⟩) rfl ?_
    · intro wq hSw
      go_simp
    simp only [List.set_cons_zero, List.set_cons_succ]
    refine take_at (v := ?_) 18 45 rfl rfl (by kernel_rfl) (by kernel_rfl) (by kernel_rfl) (fun _ _ _ h => h) hHeld (Or.inl ⟨by rfl, ?_⟩) rfl ?_
    rotate_left
    · intro wq hSw
      go_simp
      try with_reducible rfl
    simp only [List.set_cons_zero, List.set_cons_succ]
    refine take_at (v := ?_) 19 46 rfl rfl (by kernel_rfl) (by kernel_rfl) (by kernel_rfl) (fun _ _ _ h => h) hHeld (Or.inl ⟨by rfl, ?_⟩) rfl ?_
    rotate_left
    · intro wq hSw
      go_simp
      try with_reducible rfl
    simp only [List.set_cons_zero, List.set_cons_succ]
    refine take_at (v := ?_) 20 47 rfl rfl (by kernel_rfl) (by kernel_rfl) (by kernel_rfl) (fun _ _ _ h => h) hHeld (Or.inl ⟨by rfl, ?_⟩) rfl ?_
    rotate_left
    · intro wq hSw
      go_simp
      try with_reducible rfl
    simp only [List.set_cons_zero, List.set_cons_succ]
    refine take_at (v := ?_) 22 49 rfl rfl (by kernel_rfl) (by kernel_rfl) (by kernel_rfl) (fun _ _ _ h => h) hHeld (Or.inl ⟨by rfl, ?_⟩) rfl ?_
    rotate_left
    · intro wq hSw
      go_simp
      try with_reducible rfl
    simp only [List.set_cons_zero, List.set_cons_succ]
    refine wpAnyH_ready (rs := [21]) (by kernel_rfl) (by simp) ?_
    refine AllReadyH.cons rfl (fun K hK => ?_) AllReadyH.nil
    go_simp
    go_at_call 11; refine (num_err 1 rfl _).mono ?_; rintro e wq ⟨rfl, rfl⟩
    refine hK.out _ _ hHeld (fun _ => ?_)
    clear hK K
    try simp only [Act.put, List.setIfInBounds_toArray, List.set_cons_zero, List.set_cons_succ]
    refine take_at (v := ?_) 23 50 rfl rfl (by kernel_rfl) (by kernel_rfl) (by kernel_rfl) (fun _ _ _ h => h) hHeld (Or.inl ⟨by rfl, ?_⟩) rfl ?_
    rotate_left
    · intro wq hSw
      go_simp
      try with_reducible rfl
    simp only [List.set_cons_zero, List.set_cons_succ]
    refine take_at (v := ?_) 24 51 rfl rfl (by kernel_rfl) (by kernel_rfl) (by kernel_rfl) (fun _ _ _ h => h) hHeld (Or.inl ⟨by rfl, ?_⟩) rfl ?_
    rotate_left
    · intro wq hSw
      go_simp
      try with_reducible rfl
    simp only [List.set_cons_zero, List.set_cons_succ]
    refine take_at (v := ?_) 25 4 rfl rfl (by kernel_rfl) (by kernel_rfl) (by kernel_rfl) (fun _ _ _ h => h) hHeld (Or.inl ⟨by rfl, ?_⟩) rfl ?_
    rotate_left
    · intro wq hSw
      go_simp
      try with_reducible rfl
    simp only [List.set_cons_zero, List.set_cons_succ]
    refine wpAnyH_done (by kernel_rfl) ?_ _
    go_wp2_with fail
    go_ret
    exact ⟨rfl, HT.out⟩
  · go_simp
    obtain ⟨wa, hwa⟩ : ∃ ww, ww = wd.alloc (.cells #[.int .i64 0, .int .i64 0] 39) := ⟨_, rfl⟩
    obtain ⟨gy, hgy⟩ : ∃ x, x = wd.heap.size := ⟨_, rfl⟩
    rw [← hwa, ← hgy]
    have hNgy : Has wa gy 39 #[.int .i64 0, .int .i64 0] := by rw [hwa, hgy]; exact Has.fresh _ _ _
    have hbwa : Below wd.heap.size wd wa := by rw [hwa]; exact (Below.refl _ _).alloc (Nat.le_refl _) _
    have hLgy : wd.heap.size ≤ gy := by omega
    clear hwa hgy

    refine hK.out _ _ (Held.of hbwa) (fun _ => ?_)
    clear hK K
    try simp only [Act.put, List.setIfInBounds_toArray, List.set_cons_zero, List.set_cons_succ]
    refine wpAnyH_ready (rs := [2]) (by kernel_rfl) (by simp) ?_
    refine AllReadyH.cons rfl (fun K hK => ?_) AllReadyH.nil
    go_simp
    obtain ⟨wb, hwb⟩ : ∃ ww, ww = wa.alloc (.cells #[.int .i64 0, .int .i64 0] 39) := ⟨_, rfl⟩
    obtain ⟨gx, hgx⟩ : ∃ x, x = wa.heap.size := ⟨_, rfl⟩
    rw [← hwb, ← hgx]
    have hNgx : Has wb gx 39 #[.int .i64 0, .int .i64 0] := by rw [hwb, hgx]; exact Has.fresh _ _ _
    have hbwb : Below wa.heap.size wa wb := by rw [hwb]; exact (Below.refl _ _).alloc (Nat.le_refl _) _
    have hLgx : wd.heap.size ≤ gx := by have := hbwa.size; omega
    have hne : gy ≠ gx := by have := hNgy.lt; omega
    clear hwb hgx

    have hdb : Below wd.heap.size wd wb := hbwa.trans (hbwb.mono hbwa.size)
    refine hK.out _ _ (Held.of hdb) (fun _ => ?_)
    clear hK K
    try simp only [Act.put, List.setIfInBounds_toArray, List.set_cons_zero, List.set_cons_succ]
    have hNE := Lib.hid (show gx ≠ gy ∧ wd.heap.size ≤ gx ∧ wd.heap.size ≤ gy by omega)
    have hBgy := hNgy.under hbwb hNgy.lt
    have hBgx := hNgx
    clear hNgy hNgx hLgx hLgy hne
    refine wpAnyH_ready (rs := [4]) (by kernel_rfl) (by simp) ?_
    refine AllReadyH.cons rfl (fun K hK => ?_) AllReadyH.nil
    refine step_store_row (by rfl) 39 (.tmp 5) (.tmp 13) rfl gx 0 (#[.int .i64 f, .int .i64 v]) (by first | rfl | simp [Act.eval]) (by first | rfl | simp [Act.eval]) (hBgx.there 0 2 (Nat.le_refl _)) (by kernel_rfl) (two_one _ _ rfl rfl) rfl ?_
    obtain ⟨wc, hwc⟩ : ∃ ww, ww = wb.setCells gx 0 (#[.int .i64 f, .int .i64 v] : Array Value).toList := ⟨_, rfl⟩
    rw [← hwc]
    have hCgx : Has wc gx 39 #[.int .i64 f, .int .i64 v] := by rw [hwc]; exact hBgx.whole_cs rfl
    have hdwc : Below wd.heap.size wd wc := by rw [hwc]; exact below_setAll hNE.out.2.1 _ 0 hdb
    replace hBgy : Has wc gy 39 #[.int .i64 0, .int .i64 0] := by rw [hwc]; exact hBgy.asideAll (fun e => hNE.out.1 e.symm) _ 0
    refine hK.out _ _ (Held.of hdwc) (fun _ => ?_)
    clear hK K hwc
    refine wpAnyH_ready (rs := [5]) (by kernel_rfl) (by simp) ?_
    refine AllReadyH.cons rfl (fun K hK => ?_) AllReadyH.nil
    refine step_store_row (by rfl) 39 (.tmp 6) (.tmp 14) rfl gy 0 (#[.int .i64 g, .int .i64 u]) (by first | rfl | simp [Act.eval]) (by first | rfl | simp [Act.eval]) (hBgy.there 0 2 (Nat.le_refl _)) (by kernel_rfl) (two_one _ _ rfl rfl) rfl ?_
    obtain ⟨we, hwe⟩ : ∃ ww, ww = wc.setCells gy 0 (#[.int .i64 g, .int .i64 u] : Array Value).toList := ⟨_, rfl⟩
    rw [← hwe]
    have hCgy : Has we gy 39 #[.int .i64 g, .int .i64 u] := by rw [hwe]; exact hBgy.whole_cs rfl
    have hdwe : Below wd.heap.size wd we := by rw [hwe]; exact below_setAll hNE.out.2.2 _ 0 hdwc
    replace hCgx : Has we gx 39 #[.int .i64 f, .int .i64 v] := by rw [hwe]; exact hCgx.asideAll hNE.out.1 _ 0
    refine hK.out _ _ (Held.of hdwe) (fun _ => ?_)
    clear hK K hwe
    refine wpAnyH_done (by kernel_rfl) ?_ _
    obtain ⟨w6, hw6⟩ : ∃ x, x = we := ⟨_, rfl⟩
    rw [← hw6] at hCgx hCgy hdwe ⊢
    have hT6 := hTd.trans (hdwe.mono hTd.size)
    have hA6 := hGa.under hdwe hGa.lt
    have hB6 := hGb.under hdwe hGb.lt
    clear hw6 hdwe hGa hGb hTd
    have lx := hCgx.load_agg (P := Try.prog) (t := 39) Try.underlying39 rfl (by kernel_rfl)
    have ly := hCgy.load_agg (P := Try.prog) (t := 39) Try.underlying39 rfl (by kernel_rfl)
    go_upto_region 5 with (first
      | (refine wpList_store_mid rfl 39 (.tmp 7) (.tmp 19) rfl w7.heap.size 0 #[.int .i64 0, .int .i64 0] rfl rfl ((Has.fresh w7 39 #[.int .i64 0, .int .i64 0]).there 0 2 (Nat.le_refl _)) (by kernel_rfl) (two_one _ _ rfl rfl) ?_)
      | (refine wpList_load_run rfl 39 (.tmp 6) rfl _ _ rfl ly ?_)
      | (refine wpList_load_run rfl 39 (.tmp 5) rfl _ _ rfl lx ?_)
      | (go_at_call 16; refine (ok.with_no f v g u w6 HF.out).mono ?_; rintro e w7 ⟨rfl, hb7⟩))
    obtain ⟨w8, hw8⟩ : ∃ x, x = (w7.alloc (.cells #[.int .i64 0, .int .i64 0] 39)).setCells w7.heap.size 0 (#[.int .i64 0, .int .i64 0] : Array Value).toList := ⟨_, rfl⟩
    have hZ8 : Has w8 w7.heap.size 39 #[.int .i64 0, .int .i64 0] := by rw [hw8]; exact (Has.fresh w7 39 #[.int .i64 0, .int .i64 0]).whole_cs rfl
    have hb8 : Below w7.heap.size w7 w8 := by rw [hw8]; exact below_setAll (Nat.le_refl _) _ 0 ((Below.refl _ _).alloc (Nat.le_refl _) _)
    rw [← hw8]
    clear hw8
    have hb68 := hb7.trans (hb8.mono hb7.size)
    obtain ⟨gz, hgz⟩ : ∃ x, x = w7.heap.size := ⟨_, rfl⟩
    rw [← hgz] at hZ8 ⊢
    clear hgz
    have hT8 := hT6.trans (hb68.mono hT6.size)
    have hA8 := hA6.under hb68 hA6.lt
    have hB8 := hB6.under hb68 hB6.lt
    have hX8 := hCgx.under hb68 hCgx.lt
    have hY8 := hCgy.under hb68 hCgy.lt
    clear hA6 hB6 hCgx hCgy hb68 hb7 hb8 hT6 lx ly
    have la := hA8.load_agg (P := Try.prog) (t := 38) Try.underlying38 rfl (by kernel_rfl)
    have lb := hB8.load_agg (P := Try.prog) (t := 38) Try.underlying38 rfl (by kernel_rfl)
    go_upto_region 6 with (first
      | (refine wpList_store_mid rfl 38 (.tmp 9) (.tmp 25) rfl w9.heap.size 0 #[.int .i64 0, .int .i64 0] rfl rfl ((Has.fresh w9 38 #[.int .i64 0, .int .i64 0]).there 0 2 (Nat.le_refl _)) (by kernel_rfl) (two_one _ _ rfl rfl) ?_)
      | (refine wpList_load_run rfl 38 (.tmp 3) rfl _ _ rfl lb ?_)
      | (refine wpList_load_run rfl 38 (.tmp 2) rfl _ _ rfl la ?_)
      | (go_at_call 17; refine (awith_no f v g u HF.out w8).mono ?_; rintro e w9 ⟨rfl, hb9⟩))
    obtain ⟨wt, hwt⟩ : ∃ x, x = (w9.alloc (.cells #[.int .i64 0, .int .i64 0] 38)).setCells w9.heap.size 0 (#[.int .i64 0, .int .i64 0] : Array Value).toList := ⟨_, rfl⟩
    have hW0 : Has wt w9.heap.size 38 #[.int .i64 0, .int .i64 0] := by rw [hwt]; exact (Has.fresh w9 38 #[.int .i64 0, .int .i64 0]).whole_cs rfl
    have hbt : Below w9.heap.size w9 wt := by rw [hwt]; exact below_setAll (Nat.le_refl _) _ 0 ((Below.refl _ _).alloc (Nat.le_refl _) _)
    rw [← hwt]
    clear hwt
    have hb8t := hb9.trans (hbt.mono hb9.size)
    obtain ⟨gw, hgw⟩ : ∃ x, x = w9.heap.size := ⟨_, rfl⟩
    rw [← hgw] at hW0 ⊢
    clear hgw
    obtain ⟨ws, hws⟩ : ∃ x, x = wt.drew := ⟨_, rfl⟩
    have hmd : Below wt.heap.size wt ws := by rw [hws]; exact (Below.refl _ _).drew
    have hb8s := hb8t.trans (hmd.mono hb8t.size)
    have HA := Lib.hid (hA8.under hb8s hA8.lt)
    have HB := Lib.hid (hB8.under hb8s hB8.lt)
    have HX := Lib.hid (hX8.under hb8s hX8.lt)
    have HY := Lib.hid (hY8.under hb8s hY8.lt)
    have HZ := Lib.hid (hZ8.under hb8s hZ8.lt)
    have HW := Lib.hid (hW0.under hmd hW0.lt)
    have HT := Lib.hid (hT8.trans (hb8s.mono hT8.size))
    refine wp_region_held_drew (S := Held ws) (by kernel_rfl) (by rw [hws]; exact Held.refl _) (fun hHeld => ?_)
    rw [← hws] at hHeld ⊢
    clear hws hmd hA8 hB8 hX8 hY8 hZ8 hW0 hb8t hb9 hbt hb8s hT8 la lb
    refine take_at 0 27 rfl rfl (by kernel_rfl) (by kernel_rfl) (by kernel_rfl) (fun _ _ _ h => h) hHeld (yieldsIf_load_agg (by rfl) 39 (.tmp 5) rfl _ _ (by rfl) (fun wq hSw => (HX.out.under hSw HX.out.lt).load_agg (P := Try.prog) (t := 39) Try.underlying39 rfl (by kernel_rfl))) rfl ?_
    simp only [List.set_cons_zero, List.set_cons_succ]
    refine take_at 2 29 rfl rfl (by kernel_rfl) (by kernel_rfl) (by kernel_rfl) (fun _ _ _ h => h) hHeld (yieldsIf_load_agg (by rfl) 38 (.tmp 2) rfl _ _ (by rfl) (fun wq hSw => (HA.out.under hSw HA.out.lt).load_agg (P := Try.prog) (t := 38) Try.underlying38 rfl (by kernel_rfl))) rfl ?_
    simp only [List.set_cons_zero, List.set_cons_succ]
    refine wpAnyH_ready (rs := [1]) (by kernel_rfl) (by simp) ?_
    refine AllReadyH.cons rfl (fun K hK => ?_) AllReadyH.nil
    go_simp
    go_at_call 18; refine (ok.right f v b ws HR.out).mono ?_; rintro e k1 ⟨rfl, hkk1⟩
    refine hK.out _ _ (Held.of hkk1) (fun _ => ?_)
    clear hK K
    try simp only [Act.put, List.setIfInBounds_toArray, List.set_cons_zero, List.set_cons_succ]
    refine held_grow (w1 := k1) (Held.of hkk1) ?_
    clear hHeld
    have hHeld : Held k1 k1 := Held.refl _
    replace HA := Lib.hid (HA.out.under hkk1 HA.out.lt)
    replace HB := Lib.hid (HB.out.under hkk1 HB.out.lt)
    replace HX := Lib.hid (HX.out.under hkk1 HX.out.lt)
    replace HY := Lib.hid (HY.out.under hkk1 HY.out.lt)
    replace HZ := Lib.hid (HZ.out.under hkk1 HZ.out.lt)
    replace HW := Lib.hid (HW.out.under hkk1 HW.out.lt)
    replace HT := Lib.hid (HT.out.trans (hkk1.mono HT.out.size))
    clear hkk1
    refine wpAnyH_ready (rs := [3]) (by kernel_rfl) (by simp) ?_
    refine AllReadyH.cons rfl (fun K hK => ?_) AllReadyH.nil
    go_simp
    go_at_call 19; refine (aright_any f v b HR.out k1).mono ?_; rintro e k2 ⟨rfl, hkk2⟩
    refine hK.out _ _ (Held.of hkk2) (fun _ => ?_)
    clear hK K
    try simp only [Act.put, List.setIfInBounds_toArray, List.set_cons_zero, List.set_cons_succ]
    refine held_grow (w1 := k2) (Held.of hkk2) ?_
    clear hHeld
    have hHeld : Held k2 k2 := Held.refl _
    replace HA := Lib.hid (HA.out.under hkk2 HA.out.lt)
    replace HB := Lib.hid (HB.out.under hkk2 HB.out.lt)
    replace HX := Lib.hid (HX.out.under hkk2 HX.out.lt)
    replace HY := Lib.hid (HY.out.under hkk2 HY.out.lt)
    replace HZ := Lib.hid (HZ.out.under hkk2 HZ.out.lt)
    replace HW := Lib.hid (HW.out.under hkk2 HW.out.lt)
    replace HT := Lib.hid (HT.out.trans (hkk2.mono HT.out.size))
    clear hkk2
    refine take_at (v := ?_) 4 31 rfl rfl (by kernel_rfl) (by kernel_rfl) (by kernel_rfl) (fun _ _ _ h => h) hHeld (Or.inl ⟨by rfl, ?_⟩) rfl ?_
    rotate_left
    · intro wq hSw
      go_simp
      try with_reducible rfl
    simp only [List.set_cons_zero, List.set_cons_succ]
    refine take_at (v := ?_) 5 32 rfl rfl (by kernel_rfl) (by kernel_rfl) (by kernel_rfl) (fun _ _ _ h => h) hHeld (Or.inl ⟨by rfl, ?_⟩) rfl ?_
    rotate_left
    · intro wq hSw
      go_simp
      try with_reducible rfl
    simp only [List.set_cons_zero, List.set_cons_succ]
    refine take_at 6 33 rfl rfl (by kernel_rfl) (by kernel_rfl) (by kernel_rfl) (fun _ _ _ h => h) hHeld (yieldsIf_load_agg (by rfl) 39 (.tmp 5) rfl _ _ (by rfl) (fun wq hSw => (HX.out.under hSw HX.out.lt).load_agg (P := Try.prog) (t := 39) Try.underlying39 rfl (by kernel_rfl))) rfl ?_
    simp only [List.set_cons_zero, List.set_cons_succ]
    refine take_at 7 34 rfl rfl (by kernel_rfl) (by kernel_rfl) (by kernel_rfl) (fun _ _ _ h => h) hHeld (yieldsIf_load_agg (by rfl) 39 (.tmp 6) rfl _ _ (by rfl) (fun wq hSw => (HY.out.under hSw HY.out.lt).load_agg (P := Try.prog) (t := 39) Try.underlying39 rfl (by kernel_rfl))) rfl ?_
    simp only [List.set_cons_zero, List.set_cons_succ]
    refine take_at 9 36 rfl rfl (by kernel_rfl) (by kernel_rfl) (by kernel_rfl) (fun _ _ _ h => h) hHeld (yieldsIf_load_agg (by rfl) 38 (.tmp 2) rfl _ _ (by rfl) (fun wq hSw => (HA.out.under hSw HA.out.lt).load_agg (P := Try.prog) (t := 38) Try.underlying38 rfl (by kernel_rfl))) rfl ?_
    simp only [List.set_cons_zero, List.set_cons_succ]
    refine take_at 10 37 rfl rfl (by kernel_rfl) (by kernel_rfl) (by kernel_rfl) (fun _ _ _ h => h) hHeld (yieldsIf_load_agg (by rfl) 38 (.tmp 3) rfl _ _ (by rfl) (fun wq hSw => (HB.out.under hSw HB.out.lt).load_agg (P := Try.prog) (t := 38) Try.underlying38 rfl (by kernel_rfl))) rfl ?_
    simp only [List.set_cons_zero, List.set_cons_succ]
    refine wpAnyH_ready (rs := [8]) (by kernel_rfl) (by simp) ?_
    refine AllReadyH.cons rfl (fun K hK => ?_) AllReadyH.nil
    go_simp
    go_at_call 20; refine (ok.compare f v g u k2).mono ?_; rintro e k3 ⟨rfl, hkk3⟩
    refine hK.out _ _ (Held.of hkk3) (fun _ => ?_)
    clear hK K
    try simp only [Act.put, List.setIfInBounds_toArray, List.set_cons_zero, List.set_cons_succ]
    refine held_grow (w1 := k3) (Held.of hkk3) ?_
    clear hHeld
    have hHeld : Held k3 k3 := Held.refl _
    replace HA := Lib.hid (HA.out.under hkk3 HA.out.lt)
    replace HB := Lib.hid (HB.out.under hkk3 HB.out.lt)
    replace HX := Lib.hid (HX.out.under hkk3 HX.out.lt)
    replace HY := Lib.hid (HY.out.under hkk3 HY.out.lt)
    replace HZ := Lib.hid (HZ.out.under hkk3 HZ.out.lt)
    replace HW := Lib.hid (HW.out.under hkk3 HW.out.lt)
    replace HT := Lib.hid (HT.out.trans (hkk3.mono HT.out.size))
    clear hkk3
    refine wpAnyH_ready (rs := [11]) (by kernel_rfl) (by simp) ?_
    refine AllReadyH.cons rfl (fun K hK => ?_) AllReadyH.nil
    go_simp
    go_at_call 21; refine (acompare_any f v g u k3).mono ?_; rintro e k4 ⟨rfl, hkk4⟩
    refine hK.out _ _ (Held.of hkk4) (fun _ => ?_)
    clear hK K
    try simp only [Act.put, List.setIfInBounds_toArray, List.set_cons_zero, List.set_cons_succ]
    refine held_grow (w1 := k4) (Held.of hkk4) ?_
    clear hHeld
    have hHeld : Held k4 k4 := Held.refl _
    replace HA := Lib.hid (HA.out.under hkk4 HA.out.lt)
    replace HB := Lib.hid (HB.out.under hkk4 HB.out.lt)
    replace HX := Lib.hid (HX.out.under hkk4 HX.out.lt)
    replace HY := Lib.hid (HY.out.under hkk4 HY.out.lt)
    replace HZ := Lib.hid (HZ.out.under hkk4 HZ.out.lt)
    replace HW := Lib.hid (HW.out.under hkk4 HW.out.lt)
    replace HT := Lib.hid (HT.out.trans (hkk4.mono HT.out.size))
    clear hkk4
    refine take_at (v := ?_) 12 39 rfl rfl (by kernel_rfl) (by kernel_rfl) (by kernel_rfl) (fun _ _ _ h => h) hHeld (Or.inl ⟨by rfl, ?_⟩) rfl ?_
    rotate_left
    · intro wq hSw
      go_simp
      try with_reducible rfl
    simp only [List.set_cons_zero, List.set_cons_succ]
    refine take_at (v := ?_) 13 40 rfl rfl (by kernel_rfl) (by kernel_rfl) (by kernel_rfl) (fun _ _ _ h => h) hHeld (Or.inl ⟨by rfl, ?_⟩) rfl ?_
    rotate_left
    · intro wq hSw
      go_simp
      try with_reducible rfl
    simp only [List.set_cons_zero, List.set_cons_succ]
    refine take_at (v := ?_) 14 41 rfl rfl (by kernel_rfl) (by kernel_rfl) (by kernel_rfl) (fun _ _ _ h => h) hHeld (Or.inl ⟨by rfl, ?_⟩) rfl ?_
    rotate_left
    · intro wq hSw
      go_simp
      try with_reducible rfl
    simp only [List.set_cons_zero, List.set_cons_succ]
    refine take_at 15 42 rfl rfl (by kernel_rfl) (by kernel_rfl) (by kernel_rfl) (fun _ _ _ h => h) hHeld (yieldsIf_load_agg (by rfl) 39 (.tmp 7) rfl _ _ (by rfl) (fun wq hSw => (HZ.out.under hSw HZ.out.lt).load_agg (P := Try.prog) (t := 39) Try.underlying39 rfl (by kernel_rfl))) rfl ?_
    simp only [List.set_cons_zero, List.set_cons_succ]
    refine take_at 16 43 rfl rfl (by kernel_rfl) (by kernel_rfl) (by kernel_rfl) (fun _ _ _ h => h) hHeld (yieldsIf_load_agg (by rfl) 38 (.tmp 9) rfl _ _ (by rfl) (fun wq hSw => (HW.out.under hSw HW.out.lt).load_agg (P := Try.prog) (t := 38) Try.underlying38 rfl (by kernel_rfl))) rfl ?_
    simp only [List.set_cons_zero, List.set_cons_succ]
    refine take_at (v := .bool true) 17 44 rfl rfl (by kernel_rfl) (by kernel_rfl) (by kernel_rfl) (fun _ _ _ h => h) hHeld (Or.inl ⟨by rfl, ?_⟩) rfl ?_
    · intro wq hSw
      go_simp
    simp only [List.set_cons_zero, List.set_cons_succ]
    refine take_at (v := ?_) 18 45 rfl rfl (by kernel_rfl) (by kernel_rfl) (by kernel_rfl) (fun _ _ _ h => h) hHeld (Or.inl ⟨by rfl, ?_⟩) rfl ?_
    rotate_left
    · intro wq hSw
      go_simp
      try with_reducible rfl
    simp only [List.set_cons_zero, List.set_cons_succ]
    refine take_at (v := ?_) 19 46 rfl rfl (by kernel_rfl) (by kernel_rfl) (by kernel_rfl) (fun _ _ _ h => h) hHeld (Or.inl ⟨by rfl, ?_⟩) rfl ?_
    rotate_left
    · intro wq hSw
      go_simp
      try with_reducible rfl
    simp only [List.set_cons_zero, List.set_cons_succ]
    refine take_at (v := ?_) 20 47 rfl rfl (by kernel_rfl) (by kernel_rfl) (by kernel_rfl) (fun _ _ _ h => h) hHeld (Or.inl ⟨by rfl, ?_⟩) rfl ?_
    rotate_left
    · intro wq hSw
      go_simp
      try with_reducible rfl
    simp only [List.set_cons_zero, List.set_cons_succ]
    refine take_at (v := ?_) 22 49 rfl rfl (by kernel_rfl) (by kernel_rfl) (by kernel_rfl) (fun _ _ _ h => h) hHeld (Or.inl ⟨by rfl, ?_⟩) rfl ?_
    rotate_left
    · intro wq hSw
      go_simp
      try with_reducible rfl
    simp only [List.set_cons_zero, List.set_cons_succ]
    refine wpAnyH_ready (rs := [21]) (by kernel_rfl) (by simp) ?_
    refine AllReadyH.cons rfl (fun K hK => ?_) AllReadyH.nil
    go_simp
    go_at_call 11; refine (num_err 1 rfl _).mono ?_; rintro e wq ⟨rfl, rfl⟩
    refine hK.out _ _ hHeld (fun _ => ?_)
    clear hK K
    try simp only [Act.put, List.setIfInBounds_toArray, List.set_cons_zero, List.set_cons_succ]
    refine take_at (v := ?_) 23 50 rfl rfl (by kernel_rfl) (by kernel_rfl) (by kernel_rfl) (fun _ _ _ h => h) hHeld (Or.inl ⟨by rfl, ?_⟩) rfl ?_
    rotate_left
    · intro wq hSw
      go_simp
      try with_reducible rfl
    simp only [List.set_cons_zero, List.set_cons_succ]
    refine take_at (v := ?_) 24 51 rfl rfl (by kernel_rfl) (by kernel_rfl) (by kernel_rfl) (fun _ _ _ h => h) hHeld (Or.inl ⟨by rfl, ?_⟩) rfl ?_
    rotate_left
    · intro wq hSw
      go_simp
      try with_reducible rfl
    simp only [List.set_cons_zero, List.set_cons_succ]
    refine take_at (v := ?_) 25 4 rfl rfl (by kernel_rfl) (by kernel_rfl) (by kernel_rfl) (fun _ _ _ h => h) hHeld (Or.inl ⟨by rfl, ?_⟩) rfl ?_
    rotate_left
    · intro wq hSw
      go_simp
      try with_reducible rfl
    simp only [List.set_cons_zero, List.set_cons_succ]
    refine wpAnyH_done (by kernel_rfl) ?_ _
    go_wp2_with fail
    go_ret
    exact ⟨rfl, HT.out⟩
theorem amountRatesWalkK (ok : AmountOk) {H : Type} {enc : TypeId × Value → H} (W : World) (base : Nat) (v0 : Value) (d0 : DataW H) (p0 : List MemPlace) (v1 : Value) (d1 : DataW H) (p1 : List MemPlace)
    (o0 : Value.okWide Try.prog W .any base 38 v0) (o1 : Value.okWide Try.prog W .any base 38 v1)
    (h0 : DataW.Trod enc Try.prog W 0 (fun _ => true) true 38 v0 d0 p0) (h1 : DataW.Trod enc Try.prog W 0 (fun _ => true) true 38 v1 d1 p1) :
    Calls Try.prog 4 #[v0, v1] W fun e w' => e = .returned (.bool true) ∧ Below W.heap.size W w' := by
  obtain ⟨cs, rfl, hl, hf⟩ := arg_fields Try.underlying38 (by kernel_rfl) (by kernel_rfl) o0 h0
  obtain ⟨ds, rfl, hl2, hf2⟩ := arg_fields Try.underlying38 (by kernel_rfl) (by kernel_rfl) o1 h1
  match cs, hl, ds, hl2 with
  | [b0, b1], _, [c0, c1], _ =>
    obtain ⟨n0, y0, t0⟩ := hf 0 _ b0 rfl rfl
    obtain ⟨n1, y1, t1⟩ := hf 1 _ b1 rfl rfl
    obtain ⟨f, rfl, _⟩ := field_int Try.underlying3 t0
    obtain ⟨v, rfl, _⟩ := field_int Try.underlying3 t1
    obtain ⟨n2, y2, t2⟩ := hf2 0 _ c0 rfl rfl
    obtain ⟨n3, y3, t3⟩ := hf2 1 _ c1 rfl rfl
    obtain ⟨g, rfl, _⟩ := field_int Try.underlying3 t2
    obtain ⟨u, rfl, _⟩ := field_int Try.underlying3 t3
    by_cases h : Am.Fits f v g u
    · exact ratesFit ok W f v g u h
    · exact ratesNot ok W f v g u h
end Go.Proofs.Ytcbbjhcejlmmlaa
