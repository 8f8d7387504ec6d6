/- AmountOrders over the premise (mkamo.py) -/
import Derived.Test.YtcbbjhcejlmmlaaAmA
import Derived.Test.YtcbbjhcejlmmlaaAmP
import Derived.Deep.CutRange
namespace Go.Proofs.Ytcbbjhcejlmmlaa
open Go Go.RowKit Go.ChangeShapes Go.WideShapes
def Three (W : World) (a b c : Array Value) (px py pz : Value) (wx : World) : Prop := ∃ gx gy gz : Nat,
  px = .pointer (some ⟨gx, 0, none⟩) ∧ py = .pointer (some ⟨gy, 0, none⟩) ∧ pz = .pointer (some ⟨gz, 0, none⟩) ∧ (gx ≠ gy ∧ gx ≠ gz ∧ gy ≠ gz) ∧ (W.heap.size ≤ gx ∧ W.heap.size ≤ gy) ∧
  Has wx gx 39 a ∧ Has wx gy 39 b ∧ Has wx gz 39 c ∧ Below W.heap.size W wx
theorem three_facts {f v g u h k : Int} (ga : Hid (Am.Right f v)) (gb : Hid (Am.Right g u)) (gc : Hid (Am.Right h k)) : ∃ c1 c2 c3 : Int,
    Hid (c1 = Am.cmp f v g u ∧ c2 = Am.cmp g u h k ∧ c3 = Am.cmp f v h k ∧ Am.cmp g u f v = -c1 ∧ Am.cmp f v f v = 0) ∧
    Hid (c1 ≤ 0 → c2 ≤ 0 → ¬ 0 < c3) ∧ IntKind.i64.wrap c1 = c1 := by
  refine ⟨_, _, _, Lib.hid ⟨rfl, rfl, rfl, Am.cmp_neg g u f v, Am.cmp_same f v⟩, Lib.hid fun p q => ?_, ?_⟩
  · have := Am.cmp_trans ga.out gb.out gc.out p q
    omega
  · refine IntWalk.i64_in _ ?_
    unfold Am.cmp Am.cmpN
    (repeat' split) <;> omega
theorem between_facts {f v g u c1 : Int} (hc : c1 = Am.cmp f v g u) (hf : Hid (Am.Fits f v g u)) (h : c1 ≤ 0) : ∃ d1 d2 d3 : Int,
    Hid (d1 = Am.cmp f v g u ∧ d2 = Am.cmp f v (f + g) (v + u) ∧ d3 = Am.cmp (f + g) (v + u) g u) ∧ d2 ≤ 0 ∧ d3 ≤ 0 ∧ Hid (¬ d1 = 0 → d2 < 0 ∧ d3 < 0) := by
  have := Am.cmp_between hf.out.1 hf.out.2.1 hf.out.2.2 (by omega)
  exact ⟨_, _, _, Lib.hid ⟨rfl, rfl, rfl⟩, this.1, this.2.1, Lib.hid fun e => this.2.2.resolve_left e⟩
theorem between_facts' {f v g u c1 : Int} (hc : c1 = Am.cmp f v g u) (hf : Hid (Am.Fits f v g u)) (h : 0 < c1) : ∃ d1 d2 d3 : Int,
    Hid (d1 = Am.cmp g u f v ∧ d2 = Am.cmp g u (f + g) (v + u) ∧ d3 = Am.cmp (f + g) (v + u) f v) ∧ d2 ≤ 0 ∧ d3 ≤ 0 ∧ Hid (¬ d1 = 0 → d2 < 0 ∧ d3 < 0) := by
  have := Am.cmp_between' hf.out.1 hf.out.2.1 hf.out.2.2 (by omega)
  exact ⟨_, _, _, Lib.hid ⟨rfl, rfl, rfl⟩, this.1, this.2.1, Lib.hid fun e => this.2.2.resolve_left e⟩
set_option maxRecDepth 100000 in
set_option maxHeartbeats 16000000 in
theorem ordersMain (ok : AmountOk) (W : World) (f v g u h k : Int) :
    Calls Try.prog 6 #[.agg #[.int .i64 f, .int .i64 v], .agg #[.int .i64 g, .int .i64 u], .agg #[.int .i64 h, .int .i64 k]] W fun e w' => e = .returned (.bool true) ∧ Below W.heap.size W w' := by
  go_enter Try.func6, Try.ntmps6
  go_upto_region 1 with fail
  obtain ⟨W1, hW1⟩ : ∃ x, x = ((W.alloc (.cells #[.int .i64 f, .int .i64 v] 38)).alloc (.cells #[.int .i64 g, .int .i64 u] 38)).alloc (.cells #[.int .i64 h, .int .i64 k] 38) := ⟨_, rfl⟩
  rw [← hW1]
  have hA1 : Has W1 W.heap.size 38 #[.int .i64 f, .int .i64 v] := by rw [hW1]; exact ((Has.fresh _ _ _).past _).past _
  have hB1 : Has W1 (W.heap.size + 1) 38 #[.int .i64 g, .int .i64 u] := by rw [hW1]; exact (Has.fresh_at _ _ _ (by simp)).past _
  have hC1 : Has W1 (W.heap.size + 1 + 1) 38 #[.int .i64 h, .int .i64 k] := by rw [hW1]; exact Has.fresh_at _ _ _ (by simp)
  have hT1 : Below W.heap.size W W1 := by rw [hW1]; exact (((Below.refl _ _).alloc (Nat.le_refl _) _).alloc (by simp) _).alloc (by simp [Nat.add_assoc]) _
  clear hW1
  go_upto_region 3 with (go_at_call 7; refine (alive09 ok W1).mono ?_; rintro e w2 ⟨rfl, hb2⟩)
  go_cut [7, 8, 9] from 14 to 16 (fun px py pz wx => Three W #[.int .i64 f, .int .i64 v] #[.int .i64 g, .int .i64 u] #[.int .i64 h, .int .i64 k] px py pz wx)
  case first =>
    obtain ⟨wd, hwd⟩ : ∃ x, x = w2.drew := ⟨_, rfl⟩
    have hbd : Below W1.heap.size W1 wd := by rw [hwd]; exact hb2.drew
    have hGa := hA1.under hbd hA1.lt
    have hGb := hB1.under hbd hB1.lt
    have hGc := hC1.under hbd hC1.lt
    have hTd := hT1.trans (hbd.mono hT1.size)
    refine wp_region_held_drew (S := Held wd) (by kernel_rfl) (by rw [hwd]; exact Held.refl _) (fun hHeld => ?_)
    rw [← hwd] at hHeld ⊢
    clear hwd hbd hb2 hA1 hB1 hC1 hT1
    refine take_at 0 14 rfl rfl (by kernel_rfl) (by kernel_rfl) (by kernel_rfl) (fun _ _ _ h => h) hHeld (yieldsIf_load_agg (by rfl) 38 (.tmp 3) rfl _ _ (by rfl) (fun wq hSw => (hGa.under hSw hGa.lt).load_agg (P := Try.prog) (t := 38) Try.underlying38 rfl (by kernel_rfl))) rfl ?_
    simp only [List.set_cons_zero, List.set_cons_succ]
    refine take_at 1 15 rfl rfl (by kernel_rfl) (by kernel_rfl) (by kernel_rfl) (fun _ _ _ h => h) hHeld (yieldsIf_load_agg (by rfl) 38 (.tmp 4) rfl _ _ (by rfl) (fun wq hSw => (hGb.under hSw hGb.lt).load_agg (P := Try.prog) (t := 38) Try.underlying38 rfl (by kernel_rfl))) rfl ?_
    simp only [List.set_cons_zero, List.set_cons_succ]
    refine take_at 2 16 rfl rfl (by kernel_rfl) (by kernel_rfl) (by kernel_rfl) (fun _ _ _ h => h) hHeld (yieldsIf_load_agg (by rfl) 38 (.tmp 5) rfl _ _ (by rfl) (fun wq hSw => (hGc.under hSw hGc.lt).load_agg (P := Try.prog) (t := 38) Try.underlying38 rfl (by kernel_rfl))) rfl ?_
    simp only [List.set_cons_zero, List.set_cons_succ]
    refine wpAnyH_ready (rs := [3, 4, 5]) (by kernel_rfl) (by simp) ?_
    refine AllReadyH.cons rfl (fun K hK => ?_) (AllReadyH.cons rfl (fun K hK => ?_) (AllReadyH.cons rfl (fun K hK => ?_) AllReadyH.nil))
    · go_simp
      obtain ⟨wa, hwa⟩ : ∃ ww, ww = wd.alloc (.cells #[.int .i64 0, .int .i64 0] 39) := ⟨_, rfl⟩
      obtain ⟨gx, hgx⟩ : ∃ x, x = wd.heap.size := ⟨_, rfl⟩
      rw [← hwa, ← hgx]
      have hNgx : Has wa gx 39 #[.int .i64 0, .int .i64 0] := by rw [hwa, hgx]; exact Has.fresh _ _ _
      have hbwa : Below wd.heap.size wd wa := by rw [hwa]; exact (Below.refl _ _).alloc (Nat.le_refl _) _
      have hdwa : Below wd.heap.size wd wa := hbwa
      have hLgx : wd.heap.size ≤ gx := by omega
      refine hK.out _ _ (Held.of hdwa) (fun _ => ?_)
      clear hK K hwa hgx hbwa
      try simp only [Act.put, List.setIfInBounds_toArray, List.set_cons_zero, List.set_cons_succ]
      refine wpAnyH_ready (rs := [4, 5]) (by kernel_rfl) (by simp) ?_
      refine AllReadyH.cons rfl (fun K hK => ?_) (AllReadyH.cons rfl (fun K hK => ?_) AllReadyH.nil)
      · go_simp
        obtain ⟨wb, hwb⟩ : ∃ ww, ww = wa.alloc (.cells #[.int .i64 0, .int .i64 0] 39) := ⟨_, rfl⟩
        obtain ⟨gy, hgy⟩ : ∃ x, x = wa.heap.size := ⟨_, rfl⟩
        rw [← hwb, ← hgy]
        have hNgy : Has wb gy 39 #[.int .i64 0, .int .i64 0] := by rw [hwb, hgy]; exact Has.fresh _ _ _
        have hbwb : Below wa.heap.size wa wb := by rw [hwb]; exact (Below.refl _ _).alloc (Nat.le_refl _) _
        have hdwb : Below wd.heap.size wd wb := hdwa.trans (hbwb.mono hdwa.size)
        have hLgy : wd.heap.size ≤ gy := by have := hdwa.size; omega
        have hnexy : gx ≠ gy := by have := hNgx.lt; omega
        replace hNgx := hNgx.under hbwb hNgx.lt
        refine hK.out _ _ (Held.of hdwb) (fun _ => ?_)
        clear hK K hwb hgy hbwb
        try simp only [Act.put, List.setIfInBounds_toArray, List.set_cons_zero, List.set_cons_succ]
        refine wpAnyH_ready (rs := [5]) (by kernel_rfl) (by simp) ?_
        refine AllReadyH.cons rfl (fun K hK => ?_) AllReadyH.nil
        go_simp
        obtain ⟨we, hwe⟩ : ∃ ww, ww = wb.alloc (.cells #[.int .i64 0, .int .i64 0] 39) := ⟨_, rfl⟩
        obtain ⟨gz, hgz⟩ : ∃ x, x = wb.heap.size := ⟨_, rfl⟩
        rw [← hwe, ← hgz]
        have hNgz : Has we gz 39 #[.int .i64 0, .int .i64 0] := by rw [hwe, hgz]; exact Has.fresh _ _ _
        have hbwe : Below wb.heap.size wb we := by rw [hwe]; exact (Below.refl _ _).alloc (Nat.le_refl _) _
        have hdwe : Below wd.heap.size wd we := hdwb.trans (hbwe.mono hdwb.size)
        have hLgz : wd.heap.size ≤ gz := by have := hdwb.size; omega
        have hnexz : gx ≠ gz := by have := hNgx.lt; omega
        replace hNgx := hNgx.under hbwe hNgx.lt
        have hneyz : gy ≠ gz := by have := hNgy.lt; omega
        replace hNgy := hNgy.under hbwe hNgy.lt
        refine hK.out _ _ (Held.of hdwe) (fun _ => ?_)
        clear hK K hwe hgz hbwe
        try simp only [Act.put, List.setIfInBounds_toArray, List.set_cons_zero, List.set_cons_succ]
        have hNE := Lib.hid (show (gx ≠ gy ∧ gx ≠ gz ∧ gy ≠ gz) ∧ wd.heap.size ≤ gx ∧ wd.heap.size ≤ gy ∧ wd.heap.size ≤ gz from ⟨⟨by omega, by omega, by omega⟩, hLgx, hLgy, hLgz⟩)
        clear hLgx hLgy hLgz hnexy hnexz hneyz
        refine wpAnyH_ready (rs := [6]) (by kernel_rfl) (by simp) ?_
        refine AllReadyH.cons rfl (fun K hK => ?_) AllReadyH.nil
        refine step_store_row (by rfl) 39 (.tmp 7) (.tmp 14) rfl gx 0 (#[.int .i64 f, .int .i64 v]) (by first | rfl | simp [Act.eval]) (by first | rfl | simp [Act.eval]) (hNgx.there 0 2 (Nat.le_refl _)) (by kernel_rfl) (two_one _ _ rfl rfl) rfl ?_
        obtain ⟨wf, hwf⟩ : ∃ ww, ww = we.setCells gx 0 (#[.int .i64 f, .int .i64 v] : Array Value).toList := ⟨_, rfl⟩
        rw [← hwf]
        replace hNgx : Has wf gx 39 #[.int .i64 f, .int .i64 v] := by rw [hwf]; exact hNgx.whole_cs rfl
        have hdwf : Below wd.heap.size wd wf := by rw [hwf]; exact below_setAll hNE.out.2.1 _ 0 hdwe
        replace hNgy : Has wf gy 39 #[.int .i64 0, .int .i64 0] := by rw [hwf]; exact hNgy.asideAll (fun e => hNE.out.1.1 e.symm) _ 0
        replace hNgz : Has wf gz 39 #[.int .i64 0, .int .i64 0] := by rw [hwf]; exact hNgz.asideAll (fun e => hNE.out.1.2.1 e.symm) _ 0
        refine hK.out _ _ (Held.of hdwf) (fun _ => ?_)
        clear hK K hwf
        refine wpAnyH_ready (rs := [7]) (by kernel_rfl) (by simp) ?_
        refine AllReadyH.cons rfl (fun K hK => ?_) AllReadyH.nil
        refine step_store_row (by rfl) 39 (.tmp 8) (.tmp 15) rfl gy 0 (#[.int .i64 g, .int .i64 u]) (by first | rfl | simp [Act.eval]) (by first | rfl | simp [Act.eval]) (hNgy.there 0 2 (Nat.le_refl _)) (by kernel_rfl) (two_one _ _ rfl rfl) rfl ?_
        obtain ⟨wg, hwg⟩ : ∃ ww, ww = wf.setCells gy 0 (#[.int .i64 g, .int .i64 u] : Array Value).toList := ⟨_, rfl⟩
        rw [← hwg]
        replace hNgy : Has wg gy 39 #[.int .i64 g, .int .i64 u] := by rw [hwg]; exact hNgy.whole_cs rfl
        have hdwg : Below wd.heap.size wd wg := by rw [hwg]; exact below_setAll hNE.out.2.2.1 _ 0 hdwf
        replace hNgx : Has wg gx 39 #[.int .i64 f, .int .i64 v] := by rw [hwg]; exact hNgx.asideAll hNE.out.1.1 _ 0
        replace hNgz : Has wg gz 39 #[.int .i64 0, .int .i64 0] := by rw [hwg]; exact hNgz.asideAll (fun e => hNE.out.1.2.2 e.symm) _ 0
        refine hK.out _ _ (Held.of hdwg) (fun _ => ?_)
        clear hK K hwg
        refine wpAnyH_ready (rs := [8]) (by kernel_rfl) (by simp) ?_
        refine AllReadyH.cons rfl (fun K hK => ?_) AllReadyH.nil
        refine step_store_row (by rfl) 39 (.tmp 9) (.tmp 16) rfl gz 0 (#[.int .i64 h, .int .i64 k]) (by first | rfl | simp [Act.eval]) (by first | rfl | simp [Act.eval]) (hNgz.there 0 2 (Nat.le_refl _)) (by kernel_rfl) (two_one _ _ rfl rfl) rfl ?_
        obtain ⟨wh, hwh⟩ : ∃ ww, ww = wg.setCells gz 0 (#[.int .i64 h, .int .i64 k] : Array Value).toList := ⟨_, rfl⟩
        rw [← hwh]
        replace hNgz : Has wh gz 39 #[.int .i64 h, .int .i64 k] := by rw [hwh]; exact hNgz.whole_cs rfl
        have hdwh : Below wd.heap.size wd wh := by rw [hwh]; exact below_setAll hNE.out.2.2.2 _ 0 hdwg
        replace hNgx : Has wh gx 39 #[.int .i64 f, .int .i64 v] := by rw [hwh]; exact hNgx.asideAll hNE.out.1.2.1 _ 0
        replace hNgy : Has wh gy 39 #[.int .i64 g, .int .i64 u] := by rw [hwh]; exact hNgy.asideAll hNE.out.1.2.2 _ 0
        refine hK.out _ _ (Held.of hdwh) (fun _ => ?_)
        clear hK K hwh
        refine wpAnyH_done (by kernel_rfl) ?_ _
        go_wp2_with fail
        go_meet
        case rel => exact ⟨gx, gy, gz, rfl, rfl, rfl, hNE.out.1, ⟨Nat.le_trans hTd.size hNE.out.2.1, Nat.le_trans hTd.size hNE.out.2.2.1⟩, hNgx, hNgy, hNgz, hTd.trans (hdwh.mono hTd.size)⟩
      · go_simp
        obtain ⟨wb, hwb⟩ : ∃ ww, ww = wa.alloc (.cells #[.int .i64 0, .int .i64 0] 39) := ⟨_, rfl⟩
        obtain ⟨gz, hgz⟩ : ∃ x, x = wa.heap.size := ⟨_, rfl⟩
        rw [← hwb, ← hgz]
        have hNgz : Has wb gz 39 #[.int .i64 0, .int .i64 0] := by rw [hwb, hgz]; exact Has.fresh _ _ _
        have hbwb : Below wa.heap.size wa wb := by rw [hwb]; exact (Below.refl _ _).alloc (Nat.le_refl _) _
        have hdwb : Below wd.heap.size wd wb := hdwa.trans (hbwb.mono hdwa.size)
        have hLgz : wd.heap.size ≤ gz := by have := hdwa.size; omega
        have hnexz : gx ≠ gz := by have := hNgx.lt; omega
        replace hNgx := hNgx.under hbwb hNgx.lt
        refine hK.out _ _ (Held.of hdwb) (fun _ => ?_)
        clear hK K hwb hgz hbwb
        try simp only [Act.put, List.setIfInBounds_toArray, List.set_cons_zero, List.set_cons_succ]
        refine wpAnyH_ready (rs := [4]) (by kernel_rfl) (by simp) ?_
        refine AllReadyH.cons rfl (fun K hK => ?_) AllReadyH.nil
        go_simp
        obtain ⟨we, hwe⟩ : ∃ ww, ww = wb.alloc (.cells #[.int .i64 0, .int .i64 0] 39) := ⟨_, rfl⟩
        obtain ⟨gy, hgy⟩ : ∃ x, x = wb.heap.size := ⟨_, rfl⟩
        rw [← hwe, ← hgy]
        have hNgy : Has we gy 39 #[.int .i64 0, .int .i64 0] := by rw [hwe, hgy]; exact Has.fresh _ _ _
        have hbwe : Below wb.heap.size wb we := by rw [hwe]; exact (Below.refl _ _).alloc (Nat.le_refl _) _
        have hdwe : Below wd.heap.size wd we := hdwb.trans (hbwe.mono hdwb.size)
        have hLgy : wd.heap.size ≤ gy := by have := hdwb.size; omega
        have hnexy : gx ≠ gy := by have := hNgx.lt; omega
        replace hNgx := hNgx.under hbwe hNgx.lt
        have hnezy : gz ≠ gy := by have := hNgz.lt; omega
        replace hNgz := hNgz.under hbwe hNgz.lt
        refine hK.out _ _ (Held.of hdwe) (fun _ => ?_)
        clear hK K hwe hgy hbwe
        try simp only [Act.put, List.setIfInBounds_toArray, List.set_cons_zero, List.set_cons_succ]
        have hNE := Lib.hid (show (gx ≠ gy ∧ gx ≠ gz ∧ gy ≠ gz) ∧ wd.heap.size ≤ gx ∧ wd.heap.size ≤ gy ∧ wd.heap.size ≤ gz from ⟨⟨by omega, by omega, by omega⟩, hLgx, hLgy, hLgz⟩)
        clear hLgx hLgy hLgz hnexz hnexy hnezy
        refine wpAnyH_ready (rs := [6]) (by kernel_rfl) (by simp) ?_
        refine AllReadyH.cons rfl (fun K hK => ?_) AllReadyH.nil
        refine step_store_row (by rfl) 39 (.tmp 7) (.tmp 14) rfl gx 0 (#[.int .i64 f, .int .i64 v]) (by first | rfl | simp [Act.eval]) (by first | rfl | simp [Act.eval]) (hNgx.there 0 2 (Nat.le_refl _)) (by kernel_rfl) (two_one _ _ rfl rfl) rfl ?_
        obtain ⟨wf, hwf⟩ : ∃ ww, ww = we.setCells gx 0 (#[.int .i64 f, .int .i64 v] : Array Value).toList := ⟨_, rfl⟩
        rw [← hwf]
        replace hNgx : Has wf gx 39 #[.int .i64 f, .int .i64 v] := by rw [hwf]; exact hNgx.whole_cs rfl
        have hdwf : Below wd.heap.size wd wf := by rw [hwf]; exact below_setAll hNE.out.2.1 _ 0 hdwe
        replace hNgy : Has wf gy 39 #[.int .i64 0, .int .i64 0] := by rw [hwf]; exact hNgy.asideAll (fun e => hNE.out.1.1 e.symm) _ 0
        replace hNgz : Has wf gz 39 #[.int .i64 0, .int .i64 0] := by rw [hwf]; exact hNgz.asideAll (fun e => hNE.out.1.2.1 e.symm) _ 0
        refine hK.out _ _ (Held.of hdwf) (fun _ => ?_)
        clear hK K hwf
        refine wpAnyH_ready (rs := [7]) (by kernel_rfl) (by simp) ?_
        refine AllReadyH.cons rfl (fun K hK => ?_) AllReadyH.nil
        refine step_store_row (by rfl) 39 (.tmp 8) (.tmp 15) rfl gy 0 (#[.int .i64 g, .int .i64 u]) (by first | rfl | simp [Act.eval]) (by first | rfl | simp [Act.eval]) (hNgy.there 0 2 (Nat.le_refl _)) (by kernel_rfl) (two_one _ _ rfl rfl) rfl ?_
        obtain ⟨wg, hwg⟩ : ∃ ww, ww = wf.setCells gy 0 (#[.int .i64 g, .int .i64 u] : Array Value).toList := ⟨_, rfl⟩
        rw [← hwg]
        replace hNgy : Has wg gy 39 #[.int .i64 g, .int .i64 u] := by rw [hwg]; exact hNgy.whole_cs rfl
        have hdwg : Below wd.heap.size wd wg := by rw [hwg]; exact below_setAll hNE.out.2.2.1 _ 0 hdwf
        replace hNgx : Has wg gx 39 #[.int .i64 f, .int .i64 v] := by rw [hwg]; exact hNgx.asideAll hNE.out.1.1 _ 0
        replace hNgz : Has wg gz 39 #[.int .i64 0, .int .i64 0] := by rw [hwg]; exact hNgz.asideAll (fun e => hNE.out.1.2.2 e.symm) _ 0
        refine hK.out _ _ (Held.of hdwg) (fun _ => ?_)
        clear hK K hwg
        refine wpAnyH_ready (rs := [8]) (by kernel_rfl) (by simp) ?_
        refine AllReadyH.cons rfl (fun K hK => ?_) AllReadyH.nil
        refine step_store_row (by rfl) 39 (.tmp 9) (.tmp 16) rfl gz 0 (#[.int .i64 h, .int .i64 k]) (by first | rfl | simp [Act.eval]) (by first | rfl | simp [Act.eval]) (hNgz.there 0 2 (Nat.le_refl _)) (by kernel_rfl) (two_one _ _ rfl rfl) rfl ?_
        obtain ⟨wh, hwh⟩ : ∃ ww, ww = wg.setCells gz 0 (#[.int .i64 h, .int .i64 k] : Array Value).toList := ⟨_, rfl⟩
        rw [← hwh]
        replace hNgz : Has wh gz 39 #[.int .i64 h, .int .i64 k] := by rw [hwh]; exact hNgz.whole_cs rfl
        have hdwh : Below wd.heap.size wd wh := by rw [hwh]; exact below_setAll hNE.out.2.2.2 _ 0 hdwg
        replace hNgx : Has wh gx 39 #[.int .i64 f, .int .i64 v] := by rw [hwh]; exact hNgx.asideAll hNE.out.1.2.1 _ 0
        replace hNgy : Has wh gy 39 #[.int .i64 g, .int .i64 u] := by rw [hwh]; exact hNgy.asideAll hNE.out.1.2.2 _ 0
        refine hK.out _ _ (Held.of hdwh) (fun _ => ?_)
        clear hK K hwh
        refine wpAnyH_done (by kernel_rfl) ?_ _
        go_wp2_with fail
        go_meet
        case rel => exact ⟨gx, gy, gz, rfl, rfl, rfl, hNE.out.1, ⟨Nat.le_trans hTd.size hNE.out.2.1, Nat.le_trans hTd.size hNE.out.2.2.1⟩, hNgx, hNgy, hNgz, hTd.trans (hdwh.mono hTd.size)⟩
    · go_simp
      obtain ⟨wa, hwa⟩ : ∃ ww, ww = wd.alloc (.cells #[.int .i64 0, .int .i64 0] 39) := ⟨_, rfl⟩
      obtain ⟨gy, hgy⟩ : ∃ x, x = wd.heap.size := ⟨_, rfl⟩
      rw [← hwa, ← hgy]
      have hNgy : Has wa gy 39 #[.int .i64 0, .int .i64 0] := by rw [hwa, hgy]; exact Has.fresh _ _ _
      have hbwa : Below wd.heap.size wd wa := by rw [hwa]; exact (Below.refl _ _).alloc (Nat.le_refl _) _
      have hdwa : Below wd.heap.size wd wa := hbwa
      have hLgy : wd.heap.size ≤ gy := by omega
      refine hK.out _ _ (Held.of hdwa) (fun _ => ?_)
      clear hK K hwa hgy hbwa
      try simp only [Act.put, List.setIfInBounds_toArray, List.set_cons_zero, List.set_cons_succ]
      refine wpAnyH_ready (rs := [3, 5]) (by kernel_rfl) (by simp) ?_
      refine AllReadyH.cons rfl (fun K hK => ?_) (AllReadyH.cons rfl (fun K hK => ?_) AllReadyH.nil)
      · go_simp
        obtain ⟨wb, hwb⟩ : ∃ ww, ww = wa.alloc (.cells #[.int .i64 0, .int .i64 0] 39) := ⟨_, rfl⟩
        obtain ⟨gx, hgx⟩ : ∃ x, x = wa.heap.size := ⟨_, rfl⟩
        rw [← hwb, ← hgx]
        have hNgx : Has wb gx 39 #[.int .i64 0, .int .i64 0] := by rw [hwb, hgx]; exact Has.fresh _ _ _
        have hbwb : Below wa.heap.size wa wb := by rw [hwb]; exact (Below.refl _ _).alloc (Nat.le_refl _) _
        have hdwb : Below wd.heap.size wd wb := hdwa.trans (hbwb.mono hdwa.size)
        have hLgx : wd.heap.size ≤ gx := by have := hdwa.size; omega
        have hneyx : gy ≠ gx := by have := hNgy.lt; omega
        replace hNgy := hNgy.under hbwb hNgy.lt
        refine hK.out _ _ (Held.of hdwb) (fun _ => ?_)
        clear hK K hwb hgx hbwb
        try simp only [Act.put, List.setIfInBounds_toArray, List.set_cons_zero, List.set_cons_succ]
        refine wpAnyH_ready (rs := [5]) (by kernel_rfl) (by simp) ?_
        refine AllReadyH.cons rfl (fun K hK => ?_) AllReadyH.nil
        go_simp
        obtain ⟨we, hwe⟩ : ∃ ww, ww = wb.alloc (.cells #[.int .i64 0, .int .i64 0] 39) := ⟨_, rfl⟩
        obtain ⟨gz, hgz⟩ : ∃ x, x = wb.heap.size := ⟨_, rfl⟩
        rw [← hwe, ← hgz]
        have hNgz : Has we gz 39 #[.int .i64 0, .int .i64 0] := by rw [hwe, hgz]; exact Has.fresh _ _ _
        have hbwe : Below wb.heap.size wb we := by rw [hwe]; exact (Below.refl _ _).alloc (Nat.le_refl _) _
        have hdwe : Below wd.heap.size wd we := hdwb.trans (hbwe.mono hdwb.size)
        have hLgz : wd.heap.size ≤ gz := by have := hdwb.size; omega
        have hneyz : gy ≠ gz := by have := hNgy.lt; omega
        replace hNgy := hNgy.under hbwe hNgy.lt
        have hnexz : gx ≠ gz := by have := hNgx.lt; omega
        replace hNgx := hNgx.under hbwe hNgx.lt
        refine hK.out _ _ (Held.of hdwe) (fun _ => ?_)
        clear hK K hwe hgz hbwe
        try simp only [Act.put, List.setIfInBounds_toArray, List.set_cons_zero, List.set_cons_succ]
        have hNE := Lib.hid (show (gx ≠ gy ∧ gx ≠ gz ∧ gy ≠ gz) ∧ wd.heap.size ≤ gx ∧ wd.heap.size ≤ gy ∧ wd.heap.size ≤ gz from ⟨⟨by omega, by omega, by omega⟩, hLgx, hLgy, hLgz⟩)
        clear hLgx hLgy hLgz hneyx hneyz hnexz
        refine wpAnyH_ready (rs := [6]) (by kernel_rfl) (by simp) ?_
        refine AllReadyH.cons rfl (fun K hK => ?_) AllReadyH.nil
        refine step_store_row (by rfl) 39 (.tmp 7) (.tmp 14) rfl gx 0 (#[.int .i64 f, .int .i64 v]) (by first | rfl | simp [Act.eval]) (by first | rfl | simp [Act.eval]) (hNgx.there 0 2 (Nat.le_refl _)) (by kernel_rfl) (two_one _ _ rfl rfl) rfl ?_
        obtain ⟨wf, hwf⟩ : ∃ ww, ww = we.setCells gx 0 (#[.int .i64 f, .int .i64 v] : Array Value).toList := ⟨_, rfl⟩
        rw [← hwf]
        replace hNgx : Has wf gx 39 #[.int .i64 f, .int .i64 v] := by rw [hwf]; exact hNgx.whole_cs rfl
        have hdwf : Below wd.heap.size wd wf := by rw [hwf]; exact below_setAll hNE.out.2.1 _ 0 hdwe
        replace hNgy : Has wf gy 39 #[.int .i64 0, .int .i64 0] := by rw [hwf]; exact hNgy.asideAll (fun e => hNE.out.1.1 e.symm) _ 0
        replace hNgz : Has wf gz 39 #[.int .i64 0, .int .i64 0] := by rw [hwf]; exact hNgz.asideAll (fun e => hNE.out.1.2.1 e.symm) _ 0
        refine hK.out _ _ (Held.of hdwf) (fun _ => ?_)
        clear hK K hwf
        refine wpAnyH_ready (rs := [7]) (by kernel_rfl) (by simp) ?_
        refine AllReadyH.cons rfl (fun K hK => ?_) AllReadyH.nil
        refine step_store_row (by rfl) 39 (.tmp 8) (.tmp 15) rfl gy 0 (#[.int .i64 g, .int .i64 u]) (by first | rfl | simp [Act.eval]) (by first | rfl | simp [Act.eval]) (hNgy.there 0 2 (Nat.le_refl _)) (by kernel_rfl) (two_one _ _ rfl rfl) rfl ?_
        obtain ⟨wg, hwg⟩ : ∃ ww, ww = wf.setCells gy 0 (#[.int .i64 g, .int .i64 u] : Array Value).toList := ⟨_, rfl⟩
        rw [← hwg]
        replace hNgy : Has wg gy 39 #[.int .i64 g, .int .i64 u] := by rw [hwg]; exact hNgy.whole_cs rfl
        have hdwg : Below wd.heap.size wd wg := by rw [hwg]; exact below_setAll hNE.out.2.2.1 _ 0 hdwf
        replace hNgx : Has wg gx 39 #[.int .i64 f, .int .i64 v] := by rw [hwg]; exact hNgx.asideAll hNE.out.1.1 _ 0
        replace hNgz : Has wg gz 39 #[.int .i64 0, .int .i64 0] := by rw [hwg]; exact hNgz.asideAll (fun e => hNE.out.1.2.2 e.symm) _ 0
        refine hK.out _ _ (Held.of hdwg) (fun _ => ?_)
        clear hK K hwg
        refine wpAnyH_ready (rs := [8]) (by kernel_rfl) (by simp) ?_
        refine AllReadyH.cons rfl (fun K hK => ?_) AllReadyH.nil
        refine step_store_row (by rfl) 39 (.tmp 9) (.tmp 16) rfl gz 0 (#[.int .i64 h, .int .i64 k]) (by first | rfl | simp [Act.eval]) (by first | rfl | simp [Act.eval]) (hNgz.there 0 2 (Nat.le_refl _)) (by kernel_rfl) (two_one _ _ rfl rfl) rfl ?_
        obtain ⟨wh, hwh⟩ : ∃ ww, ww = wg.setCells gz 0 (#[.int .i64 h, .int .i64 k] : Array Value).toList := ⟨_, rfl⟩
        rw [← hwh]
        replace hNgz : Has wh gz 39 #[.int .i64 h, .int .i64 k] := by rw [hwh]; exact hNgz.whole_cs rfl
        have hdwh : Below wd.heap.size wd wh := by rw [hwh]; exact below_setAll hNE.out.2.2.2 _ 0 hdwg
        replace hNgx : Has wh gx 39 #[.int .i64 f, .int .i64 v] := by rw [hwh]; exact hNgx.asideAll hNE.out.1.2.1 _ 0
        replace hNgy : Has wh gy 39 #[.int .i64 g, .int .i64 u] := by rw [hwh]; exact hNgy.asideAll hNE.out.1.2.2 _ 0
        refine hK.out _ _ (Held.of hdwh) (fun _ => ?_)
        clear hK K hwh
        refine wpAnyH_done (by kernel_rfl) ?_ _
        go_wp2_with fail
        go_meet
        case rel => exact ⟨gx, gy, gz, rfl, rfl, rfl, hNE.out.1, ⟨Nat.le_trans hTd.size hNE.out.2.1, Nat.le_trans hTd.size hNE.out.2.2.1⟩, hNgx, hNgy, hNgz, hTd.trans (hdwh.mono hTd.size)⟩
      · go_simp
        obtain ⟨wb, hwb⟩ : ∃ ww, ww = wa.alloc (.cells #[.int .i64 0, .int .i64 0] 39) := ⟨_, rfl⟩
        obtain ⟨gz, hgz⟩ : ∃ x, x = wa.heap.size := ⟨_, rfl⟩
        rw [← hwb, ← hgz]
        have hNgz : Has wb gz 39 #[.int .i64 0, .int .i64 0] := by rw [hwb, hgz]; exact Has.fresh _ _ _
        have hbwb : Below wa.heap.size wa wb := by rw [hwb]; exact (Below.refl _ _).alloc (Nat.le_refl _) _
        have hdwb : Below wd.heap.size wd wb := hdwa.trans (hbwb.mono hdwa.size)
        have hLgz : wd.heap.size ≤ gz := by have := hdwa.size; omega
        have hneyz : gy ≠ gz := by have := hNgy.lt; omega
        replace hNgy := hNgy.under hbwb hNgy.lt
        refine hK.out _ _ (Held.of hdwb) (fun _ => ?_)
        clear hK K hwb hgz hbwb
        try simp only [Act.put, List.setIfInBounds_toArray, List.set_cons_zero, List.set_cons_succ]
        refine wpAnyH_ready (rs := [3]) (by kernel_rfl) (by simp) ?_
        refine AllReadyH.cons rfl (fun K hK => ?_) AllReadyH.nil
        go_simp
        obtain ⟨we, hwe⟩ : ∃ ww, ww = wb.alloc (.cells #[.int .i64 0, .int .i64 0] 39) := ⟨_, rfl⟩
        obtain ⟨gx, hgx⟩ : ∃ x, x = wb.heap.size := ⟨_, rfl⟩
        rw [← hwe, ← hgx]
        have hNgx : Has we gx 39 #[.int .i64 0, .int .i64 0] := by rw [hwe, hgx]; exact Has.fresh _ _ _
        have hbwe : Below wb.heap.size wb we := by rw [hwe]; exact (Below.refl _ _).alloc (Nat.le_refl _) _
        have hdwe : Below wd.heap.size wd we := hdwb.trans (hbwe.mono hdwb.size)
        have hLgx : wd.heap.size ≤ gx := by have := hdwb.size; omega
        have hneyx : gy ≠ gx := by have := hNgy.lt; omega
        replace hNgy := hNgy.under hbwe hNgy.lt
        have hnezx : gz ≠ gx := by have := hNgz.lt; omega
        replace hNgz := hNgz.under hbwe hNgz.lt
        refine hK.out _ _ (Held.of hdwe) (fun _ => ?_)
        clear hK K hwe hgx hbwe
        try simp only [Act.put, List.setIfInBounds_toArray, List.set_cons_zero, List.set_cons_succ]
        have hNE := Lib.hid (show (gx ≠ gy ∧ gx ≠ gz ∧ gy ≠ gz) ∧ wd.heap.size ≤ gx ∧ wd.heap.size ≤ gy ∧ wd.heap.size ≤ gz from ⟨⟨by omega, by omega, by omega⟩, hLgx, hLgy, hLgz⟩)
        clear hLgx hLgy hLgz hneyz hneyx hnezx
        refine wpAnyH_ready (rs := [6]) (by kernel_rfl) (by simp) ?_
        refine AllReadyH.cons rfl (fun K hK => ?_) AllReadyH.nil
        refine step_store_row (by rfl) 39 (.tmp 7) (.tmp 14) rfl gx 0 (#[.int .i64 f, .int .i64 v]) (by first | rfl | simp [Act.eval]) (by first | rfl | simp [Act.eval]) (hNgx.there 0 2 (Nat.le_refl _)) (by kernel_rfl) (two_one _ _ rfl rfl) rfl ?_
        obtain ⟨wf, hwf⟩ : ∃ ww, ww = we.setCells gx 0 (#[.int .i64 f, .int .i64 v] : Array Value).toList := ⟨_, rfl⟩
        rw [← hwf]
        replace hNgx : Has wf gx 39 #[.int .i64 f, .int .i64 v] := by rw [hwf]; exact hNgx.whole_cs rfl
        have hdwf : Below wd.heap.size wd wf := by rw [hwf]; exact below_setAll hNE.out.2.1 _ 0 hdwe
        replace hNgy : Has wf gy 39 #[.int .i64 0, .int .i64 0] := by rw [hwf]; exact hNgy.asideAll (fun e => hNE.out.1.1 e.symm) _ 0
        replace hNgz : Has wf gz 39 #[.int .i64 0, .int .i64 0] := by rw [hwf]; exact hNgz.asideAll (fun e => hNE.out.1.2.1 e.symm) _ 0
        refine hK.out _ _ (Held.of hdwf) (fun _ => ?_)
        clear hK K hwf
        refine wpAnyH_ready (rs := [7]) (by kernel_rfl) (by simp) ?_
        refine AllReadyH.cons rfl (fun K hK => ?_) AllReadyH.nil
        refine step_store_row (by rfl) 39 (.tmp 8) (.tmp 15) rfl gy 0 (#[.int .i64 g, .int .i64 u]) (by first | rfl | simp [Act.eval]) (by first | rfl | simp [Act.eval]) (hNgy.there 0 2 (Nat.le_refl _)) (by kernel_rfl) (two_one _ _ rfl rfl) rfl ?_
        obtain ⟨wg, hwg⟩ : ∃ ww, ww = wf.setCells gy 0 (#[.int .i64 g, .int .i64 u] : Array Value).toList := ⟨_, rfl⟩
        rw [← hwg]
        replace hNgy : Has wg gy 39 #[.int .i64 g, .int .i64 u] := by rw [hwg]; exact hNgy.whole_cs rfl
        have hdwg : Below wd.heap.size wd wg := by rw [hwg]; exact below_setAll hNE.out.2.2.1 _ 0 hdwf
        replace hNgx : Has wg gx 39 #[.int .i64 f, .int .i64 v] := by rw [hwg]; exact hNgx.asideAll hNE.out.1.1 _ 0
        replace hNgz : Has wg gz 39 #[.int .i64 0, .int .i64 0] := by rw [hwg]; exact hNgz.asideAll (fun e => hNE.out.1.2.2 e.symm) _ 0
        refine hK.out _ _ (Held.of hdwg) (fun _ => ?_)
        clear hK K hwg
        refine wpAnyH_ready (rs := [8]) (by kernel_rfl) (by simp) ?_
        refine AllReadyH.cons rfl (fun K hK => ?_) AllReadyH.nil
        refine step_store_row (by rfl) 39 (.tmp 9) (.tmp 16) rfl gz 0 (#[.int .i64 h, .int .i64 k]) (by first | rfl | simp [Act.eval]) (by first | rfl | simp [Act.eval]) (hNgz.there 0 2 (Nat.le_refl _)) (by kernel_rfl) (two_one _ _ rfl rfl) rfl ?_
        obtain ⟨wh, hwh⟩ : ∃ ww, ww = wg.setCells gz 0 (#[.int .i64 h, .int .i64 k] : Array Value).toList := ⟨_, rfl⟩
        rw [← hwh]
        replace hNgz : Has wh gz 39 #[.int .i64 h, .int .i64 k] := by rw [hwh]; exact hNgz.whole_cs rfl
        have hdwh : Below wd.heap.size wd wh := by rw [hwh]; exact below_setAll hNE.out.2.2.2 _ 0 hdwg
        replace hNgx : Has wh gx 39 #[.int .i64 f, .int .i64 v] := by rw [hwh]; exact hNgx.asideAll hNE.out.1.2.1 _ 0
        replace hNgy : Has wh gy 39 #[.int .i64 g, .int .i64 u] := by rw [hwh]; exact hNgy.asideAll hNE.out.1.2.2 _ 0
        refine hK.out _ _ (Held.of hdwh) (fun _ => ?_)
        clear hK K hwh
        refine wpAnyH_done (by kernel_rfl) ?_ _
        go_wp2_with fail
        go_meet
        case rel => exact ⟨gx, gy, gz, rfl, rfl, rfl, hNE.out.1, ⟨Nat.le_trans hTd.size hNE.out.2.1, Nat.le_trans hTd.size hNE.out.2.2.1⟩, hNgx, hNgy, hNgz, hTd.trans (hdwh.mono hTd.size)⟩
    · go_simp
      obtain ⟨wa, hwa⟩ : ∃ ww, ww = wd.alloc (.cells #[.int .i64 0, .int .i64 0] 39) := ⟨_, rfl⟩
      obtain ⟨gz, hgz⟩ : ∃ x, x = wd.heap.size := ⟨_, rfl⟩
      rw [← hwa, ← hgz]
      have hNgz : Has wa gz 39 #[.int .i64 0, .int .i64 0] := by rw [hwa, hgz]; exact Has.fresh _ _ _
      have hbwa : Below wd.heap.size wd wa := by rw [hwa]; exact (Below.refl _ _).alloc (Nat.le_refl _) _
      have hdwa : Below wd.heap.size wd wa := hbwa
      have hLgz : wd.heap.size ≤ gz := by omega
      refine hK.out _ _ (Held.of hdwa) (fun _ => ?_)
      clear hK K hwa hgz hbwa
      try simp only [Act.put, List.setIfInBounds_toArray, List.set_cons_zero, List.set_cons_succ]
      refine wpAnyH_ready (rs := [3, 4]) (by kernel_rfl) (by simp) ?_
      refine AllReadyH.cons rfl (fun K hK => ?_) (AllReadyH.cons rfl (fun K hK => ?_) AllReadyH.nil)
      · go_simp
        obtain ⟨wb, hwb⟩ : ∃ ww, ww = wa.alloc (.cells #[.int .i64 0, .int .i64 0] 39) := ⟨_, rfl⟩
        obtain ⟨gx, hgx⟩ : ∃ x, x = wa.heap.size := ⟨_, rfl⟩
        rw [← hwb, ← hgx]
        have hNgx : Has wb gx 39 #[.int .i64 0, .int .i64 0] := by rw [hwb, hgx]; exact Has.fresh _ _ _
        have hbwb : Below wa.heap.size wa wb := by rw [hwb]; exact (Below.refl _ _).alloc (Nat.le_refl _) _
        have hdwb : Below wd.heap.size wd wb := hdwa.trans (hbwb.mono hdwa.size)
        have hLgx : wd.heap.size ≤ gx := by have := hdwa.size; omega
        have hnezx : gz ≠ gx := by have := hNgz.lt; omega
        replace hNgz := hNgz.under hbwb hNgz.lt
        refine hK.out _ _ (Held.of hdwb) (fun _ => ?_)
        clear hK K hwb hgx hbwb
        try simp only [Act.put, List.setIfInBounds_toArray, List.set_cons_zero, List.set_cons_succ]
        refine wpAnyH_ready (rs := [4]) (by kernel_rfl) (by simp) ?_
        refine AllReadyH.cons rfl (fun K hK => ?_) AllReadyH.nil
        go_simp
        obtain ⟨we, hwe⟩ : ∃ ww, ww = wb.alloc (.cells #[.int .i64 0, .int .i64 0] 39) := ⟨_, rfl⟩
        obtain ⟨gy, hgy⟩ : ∃ x, x = wb.heap.size := ⟨_, rfl⟩
        rw [← hwe, ← hgy]
        have hNgy : Has we gy 39 #[.int .i64 0, .int .i64 0] := by rw [hwe, hgy]; exact Has.fresh _ _ _
        have hbwe : Below wb.heap.size wb we := by rw [hwe]; exact (Below.refl _ _).alloc (Nat.le_refl _) _
        have hdwe : Below wd.heap.size wd we := hdwb.trans (hbwe.mono hdwb.size)
        have hLgy : wd.heap.size ≤ gy := by have := hdwb.size; omega
        have hnezy : gz ≠ gy := by have := hNgz.lt; omega
        replace hNgz := hNgz.under hbwe hNgz.lt
        have hnexy : gx ≠ gy := by have := hNgx.lt; omega
        replace hNgx := hNgx.under hbwe hNgx.lt
        refine hK.out _ _ (Held.of hdwe) (fun _ => ?_)
        clear hK K hwe hgy hbwe
        try simp only [Act.put, List.setIfInBounds_toArray, List.set_cons_zero, List.set_cons_succ]
        have hNE := Lib.hid (show (gx ≠ gy ∧ gx ≠ gz ∧ gy ≠ gz) ∧ wd.heap.size ≤ gx ∧ wd.heap.size ≤ gy ∧ wd.heap.size ≤ gz from ⟨⟨by omega, by omega, by omega⟩, hLgx, hLgy, hLgz⟩)
        clear hLgx hLgy hLgz hnezx hnezy hnexy
        refine wpAnyH_ready (rs := [6]) (by kernel_rfl) (by simp) ?_
        refine AllReadyH.cons rfl (fun K hK => ?_) AllReadyH.nil
        refine step_store_row (by rfl) 39 (.tmp 7) (.tmp 14) rfl gx 0 (#[.int .i64 f, .int .i64 v]) (by first | rfl | simp [Act.eval]) (by first | rfl | simp [Act.eval]) (hNgx.there 0 2 (Nat.le_refl _)) (by kernel_rfl) (two_one _ _ rfl rfl) rfl ?_
        obtain ⟨wf, hwf⟩ : ∃ ww, ww = we.setCells gx 0 (#[.int .i64 f, .int .i64 v] : Array Value).toList := ⟨_, rfl⟩
        rw [← hwf]
        replace hNgx : Has wf gx 39 #[.int .i64 f, .int .i64 v] := by rw [hwf]; exact hNgx.whole_cs rfl
        have hdwf : Below wd.heap.size wd wf := by rw [hwf]; exact below_setAll hNE.out.2.1 _ 0 hdwe
        replace hNgy : Has wf gy 39 #[.int .i64 0, .int .i64 0] := by rw [hwf]; exact hNgy.asideAll (fun e => hNE.out.1.1 e.symm) _ 0
        replace hNgz : Has wf gz 39 #[.int .i64 0, .int .i64 0] := by rw [hwf]; exact hNgz.asideAll (fun e => hNE.out.1.2.1 e.symm) _ 0
        refine hK.out _ _ (Held.of hdwf) (fun _ => ?_)
        clear hK K hwf
        refine wpAnyH_ready (rs := [7]) (by kernel_rfl) (by simp) ?_
        refine AllReadyH.cons rfl (fun K hK => ?_) AllReadyH.nil
        refine step_store_row (by rfl) 39 (.tmp 8) (.tmp 15) rfl gy 0 (#[.int .i64 g, .int .i64 u]) (by first | rfl | simp [Act.eval]) (by first | rfl | simp [Act.eval]) (hNgy.there 0 2 (Nat.le_refl _)) (by kernel_rfl) (two_one _ _ rfl rfl) rfl ?_
        obtain ⟨wg, hwg⟩ : ∃ ww, ww = wf.setCells gy 0 (#[.int .i64 g, .int .i64 u] : Array Value).toList := ⟨_, rfl⟩
        rw [← hwg]
        replace hNgy : Has wg gy 39 #[.int .i64 g, .int .i64 u] := by rw [hwg]; exact hNgy.whole_cs rfl
        have hdwg : Below wd.heap.size wd wg := by rw [hwg]; exact below_setAll hNE.out.2.2.1 _ 0 hdwf
        replace hNgx : Has wg gx 39 #[.int .i64 f, .int .i64 v] := by rw [hwg]; exact hNgx.asideAll hNE.out.1.1 _ 0
        replace hNgz : Has wg gz 39 #[.int .i64 0, .int .i64 0] := by rw [hwg]; exact hNgz.asideAll (fun e => hNE.out.1.2.2 e.symm) _ 0
        refine hK.out _ _ (Held.of hdwg) (fun _ => ?_)
        clear hK K hwg
        refine wpAnyH_ready (rs := [8]) (by kernel_rfl) (by simp) ?_
        refine AllReadyH.cons rfl (fun K hK => ?_) AllReadyH.nil
        refine step_store_row (by rfl) 39 (.tmp 9) (.tmp 16) rfl gz 0 (#[.int .i64 h, .int .i64 k]) (by first | rfl | simp [Act.eval]) (by first | rfl | simp [Act.eval]) (hNgz.there 0 2 (Nat.le_refl _)) (by kernel_rfl) (two_one _ _ rfl rfl) rfl ?_
        obtain ⟨wh, hwh⟩ : ∃ ww, ww = wg.setCells gz 0 (#[.int .i64 h, .int .i64 k] : Array Value).toList := ⟨_, rfl⟩
        rw [← hwh]
        replace hNgz : Has wh gz 39 #[.int .i64 h, .int .i64 k] := by rw [hwh]; exact hNgz.whole_cs rfl
        have hdwh : Below wd.heap.size wd wh := by rw [hwh]; exact below_setAll hNE.out.2.2.2 _ 0 hdwg
        replace hNgx : Has wh gx 39 #[.int .i64 f, .int .i64 v] := by rw [hwh]; exact hNgx.asideAll hNE.out.1.2.1 _ 0
        replace hNgy : Has wh gy 39 #[.int .i64 g, .int .i64 u] := by rw [hwh]; exact hNgy.asideAll hNE.out.1.2.2 _ 0
        refine hK.out _ _ (Held.of hdwh) (fun _ => ?_)
        clear hK K hwh
        refine wpAnyH_done (by kernel_rfl) ?_ _
        go_wp2_with fail
        go_meet
        case rel => exact ⟨gx, gy, gz, rfl, rfl, rfl, hNE.out.1, ⟨Nat.le_trans hTd.size hNE.out.2.1, Nat.le_trans hTd.size hNE.out.2.2.1⟩, hNgx, hNgy, hNgz, hTd.trans (hdwh.mono hTd.size)⟩
      · go_simp
        obtain ⟨wb, hwb⟩ : ∃ ww, ww = wa.alloc (.cells #[.int .i64 0, .int .i64 0] 39) := ⟨_, rfl⟩
        obtain ⟨gy, hgy⟩ : ∃ x, x = wa.heap.size := ⟨_, rfl⟩
        rw [← hwb, ← hgy]
        have hNgy : Has wb gy 39 #[.int .i64 0, .int .i64 0] := by rw [hwb, hgy]; exact Has.fresh _ _ _
        have hbwb : Below wa.heap.size wa wb := by rw [hwb]; exact (Below.refl _ _).alloc (Nat.le_refl _) _
        have hdwb : Below wd.heap.size wd wb := hdwa.trans (hbwb.mono hdwa.size)
        have hLgy : wd.heap.size ≤ gy := by have := hdwa.size; omega
        have hnezy : gz ≠ gy := by have := hNgz.lt; omega
        replace hNgz := hNgz.under hbwb hNgz.lt
        refine hK.out _ _ (Held.of hdwb) (fun _ => ?_)
        clear hK K hwb hgy hbwb
        try simp only [Act.put, List.setIfInBounds_toArray, List.set_cons_zero, List.set_cons_succ]
        refine wpAnyH_ready (rs := [3]) (by kernel_rfl) (by simp) ?_
        refine AllReadyH.cons rfl (fun K hK => ?_) AllReadyH.nil
        go_simp
        obtain ⟨we, hwe⟩ : ∃ ww, ww = wb.alloc (.cells #[.int .i64 0, .int .i64 0] 39) := ⟨_, rfl⟩
        obtain ⟨gx, hgx⟩ : ∃ x, x = wb.heap.size := ⟨_, rfl⟩
        rw [← hwe, ← hgx]
        have hNgx : Has we gx 39 #[.int .i64 0, .int .i64 0] := by rw [hwe, hgx]; exact Has.fresh _ _ _
        have hbwe : Below wb.heap.size wb we := by rw [hwe]; exact (Below.refl _ _).alloc (Nat.le_refl _) _
        have hdwe : Below wd.heap.size wd we := hdwb.trans (hbwe.mono hdwb.size)
        have hLgx : wd.heap.size ≤ gx := by have := hdwb.size; omega
        have hnezx : gz ≠ gx := by have := hNgz.lt; omega
        replace hNgz := hNgz.under hbwe hNgz.lt
        have hneyx : gy ≠ gx := by have := hNgy.lt; omega
        replace hNgy := hNgy.under hbwe hNgy.lt
        refine hK.out _ _ (Held.of hdwe) (fun _ => ?_)
        clear hK K hwe hgx hbwe
        try simp only [Act.put, List.setIfInBounds_toArray, List.set_cons_zero, List.set_cons_succ]
        have hNE := Lib.hid (show (gx ≠ gy ∧ gx ≠ gz ∧ gy ≠ gz) ∧ wd.heap.size ≤ gx ∧ wd.heap.size ≤ gy ∧ wd.heap.size ≤ gz from ⟨⟨by omega, by omega, by omega⟩, hLgx, hLgy, hLgz⟩)
        clear hLgx hLgy hLgz hnezy hnezx hneyx
        refine wpAnyH_ready (rs := [6]) (by kernel_rfl) (by simp) ?_
        refine AllReadyH.cons rfl (fun K hK => ?_) AllReadyH.nil
        refine step_store_row (by rfl) 39 (.tmp 7) (.tmp 14) rfl gx 0 (#[.int .i64 f, .int .i64 v]) (by first | rfl | simp [Act.eval]) (by first | rfl | simp [Act.eval]) (hNgx.there 0 2 (Nat.le_refl _)) (by kernel_rfl) (two_one _ _ rfl rfl) rfl ?_
        obtain ⟨wf, hwf⟩ : ∃ ww, ww = we.setCells gx 0 (#[.int .i64 f, .int .i64 v] : Array Value).toList := ⟨_, rfl⟩
        rw [← hwf]
        replace hNgx : Has wf gx 39 #[.int .i64 f, .int .i64 v] := by rw [hwf]; exact hNgx.whole_cs rfl
        have hdwf : Below wd.heap.size wd wf := by rw [hwf]; exact below_setAll hNE.out.2.1 _ 0 hdwe
        replace hNgy : Has wf gy 39 #[.int .i64 0, .int .i64 0] := by rw [hwf]; exact hNgy.asideAll (fun e => hNE.out.1.1 e.symm) _ 0
        replace hNgz : Has wf gz 39 #[.int .i64 0, .int .i64 0] := by rw [hwf]; exact hNgz.asideAll (fun e => hNE.out.1.2.1 e.symm) _ 0
        refine hK.out _ _ (Held.of hdwf) (fun _ => ?_)
        clear hK K hwf
        refine wpAnyH_ready (rs := [7]) (by kernel_rfl) (by simp) ?_
        refine AllReadyH.cons rfl (fun K hK => ?_) AllReadyH.nil
        refine step_store_row (by rfl) 39 (.tmp 8) (.tmp 15) rfl gy 0 (#[.int .i64 g, .int .i64 u]) (by first | rfl | simp [Act.eval]) (by first | rfl | simp [Act.eval]) (hNgy.there 0 2 (Nat.le_refl _)) (by kernel_rfl) (two_one _ _ rfl rfl) rfl ?_
        obtain ⟨wg, hwg⟩ : ∃ ww, ww = wf.setCells gy 0 (#[.int .i64 g, .int .i64 u] : Array Value).toList := ⟨_, rfl⟩
        rw [← hwg]
        replace hNgy : Has wg gy 39 #[.int .i64 g, .int .i64 u] := by rw [hwg]; exact hNgy.whole_cs rfl
        have hdwg : Below wd.heap.size wd wg := by rw [hwg]; exact below_setAll hNE.out.2.2.1 _ 0 hdwf
        replace hNgx : Has wg gx 39 #[.int .i64 f, .int .i64 v] := by rw [hwg]; exact hNgx.asideAll hNE.out.1.1 _ 0
        replace hNgz : Has wg gz 39 #[.int .i64 0, .int .i64 0] := by rw [hwg]; exact hNgz.asideAll (fun e => hNE.out.1.2.2 e.symm) _ 0
        refine hK.out _ _ (Held.of hdwg) (fun _ => ?_)
        clear hK K hwg
        refine wpAnyH_ready (rs := [8]) (by kernel_rfl) (by simp) ?_
        refine AllReadyH.cons rfl (fun K hK => ?_) AllReadyH.nil
        refine step_store_row (by rfl) 39 (.tmp 9) (.tmp 16) rfl gz 0 (#[.int .i64 h, .int .i64 k]) (by first | rfl | simp [Act.eval]) (by first | rfl | simp [Act.eval]) (hNgz.there 0 2 (Nat.le_refl _)) (by kernel_rfl) (two_one _ _ rfl rfl) rfl ?_
        obtain ⟨wh, hwh⟩ : ∃ ww, ww = wg.setCells gz 0 (#[.int .i64 h, .int .i64 k] : Array Value).toList := ⟨_, rfl⟩
        rw [← hwh]
        replace hNgz : Has wh gz 39 #[.int .i64 h, .int .i64 k] := by rw [hwh]; exact hNgz.whole_cs rfl
        have hdwh : Below wd.heap.size wd wh := by rw [hwh]; exact below_setAll hNE.out.2.2.2 _ 0 hdwg
        replace hNgx : Has wh gx 39 #[.int .i64 f, .int .i64 v] := by rw [hwh]; exact hNgx.asideAll hNE.out.1.2.1 _ 0
        replace hNgy : Has wh gy 39 #[.int .i64 g, .int .i64 u] := by rw [hwh]; exact hNgy.asideAll hNE.out.1.2.2 _ 0
        refine hK.out _ _ (Held.of hdwh) (fun _ => ?_)
        clear hK K hwh
        refine wpAnyH_done (by kernel_rfl) ?_ _
        go_wp2_with fail
        go_meet
        case rel => exact ⟨gx, gy, gz, rfl, rfl, rfl, hNE.out.1, ⟨Nat.le_trans hTd.size hNE.out.2.1, Nat.le_trans hTd.size hNE.out.2.2.1⟩, hNgx, hNgy, hNgz, hTd.trans (hdwh.mono hTd.size)⟩
  case rest =>
    obtain ⟨gx, gy, gz, rfl, rfl, rfl, n1, n2, hX, hY, hZ, hT⟩ := hcut
    have HNE := Lib.hid n1
    have HSZ := Lib.hid n2
    clear n1 n2 hb2 hA1 hB1 hC1 hT1
    by_cases ha : Am.Right f v
    · have GA := Lib.hid ha
      by_cases hb : Am.Right g u
      · have GB := Lib.hid hb
        by_cases hc : Am.Right h k
        · have GC := Lib.hid hc
          clear ha hb hc
          have lX := hX.load_agg (P := Try.prog) (t := 39) Try.underlying39 rfl (by kernel_rfl)
          have cX0 := hX.cell_at (i := 0) (v := .int .i64 f) rfl
          have cX1 := hX.cell_at (i := 1) (v := .int .i64 v) rfl
          have lY := hY.load_agg (P := Try.prog) (t := 39) Try.underlying39 rfl (by kernel_rfl)
          have cY0 := hY.cell_at (i := 0) (v := .int .i64 g) rfl
          have cY1 := hY.cell_at (i := 1) (v := .int .i64 u) rfl
          have lZ := hZ.load_agg (P := Try.prog) (t := 39) Try.underlying39 rfl (by kernel_rfl)
          have cZ0 := hZ.cell_at (i := 0) (v := .int .i64 h) rfl
          have cZ1 := hZ.cell_at (i := 1) (v := .int .i64 k) rfl
          go_upto_region 6 with (first
            | (go_at_call 18; (with_reducible refine (ok.right h k true _ ⟨fun _ => GC.out, fun _ => rfl⟩).mono ?_); rintro e wk ⟨rfl, hk⟩; replace hX := hX.under hk hX.lt; replace hY := hY.under hk hY.lt; replace hZ := hZ.under hk hZ.lt; replace hT := hT.trans (hk.mono hT.size); clear lX cX0 cX1 lY cY0 cY1 lZ cZ0 cZ1 hk; have lX := hX.load_agg (P := Try.prog) (t := 39) Try.underlying39 rfl (by kernel_rfl); have cX0 := hX.cell_at (i := 0) (v := .int .i64 f) rfl; have cX1 := hX.cell_at (i := 1) (v := .int .i64 v) rfl; have lY := hY.load_agg (P := Try.prog) (t := 39) Try.underlying39 rfl (by kernel_rfl); have cY0 := hY.cell_at (i := 0) (v := .int .i64 g) rfl; have cY1 := hY.cell_at (i := 1) (v := .int .i64 u) rfl; have lZ := hZ.load_agg (P := Try.prog) (t := 39) Try.underlying39 rfl (by kernel_rfl); have cZ0 := hZ.cell_at (i := 0) (v := .int .i64 h) rfl; have cZ1 := hZ.cell_at (i := 1) (v := .int .i64 k) rfl)
            | (go_at_call 18; (with_reducible refine (ok.right g u true _ ⟨fun _ => GB.out, fun _ => rfl⟩).mono ?_); rintro e wk ⟨rfl, hk⟩; replace hX := hX.under hk hX.lt; replace hY := hY.under hk hY.lt; replace hZ := hZ.under hk hZ.lt; replace hT := hT.trans (hk.mono hT.size); clear lX cX0 cX1 lY cY0 cY1 lZ cZ0 cZ1 hk; have lX := hX.load_agg (P := Try.prog) (t := 39) Try.underlying39 rfl (by kernel_rfl); have cX0 := hX.cell_at (i := 0) (v := .int .i64 f) rfl; have cX1 := hX.cell_at (i := 1) (v := .int .i64 v) rfl; have lY := hY.load_agg (P := Try.prog) (t := 39) Try.underlying39 rfl (by kernel_rfl); have cY0 := hY.cell_at (i := 0) (v := .int .i64 g) rfl; have cY1 := hY.cell_at (i := 1) (v := .int .i64 u) rfl; have lZ := hZ.load_agg (P := Try.prog) (t := 39) Try.underlying39 rfl (by kernel_rfl); have cZ0 := hZ.cell_at (i := 0) (v := .int .i64 h) rfl; have cZ1 := hZ.cell_at (i := 1) (v := .int .i64 k) rfl)
            | (go_at_call 18; (with_reducible refine (ok.right f v true _ ⟨fun _ => GA.out, fun _ => rfl⟩).mono ?_); rintro e wk ⟨rfl, hk⟩; replace hX := hX.under hk hX.lt; replace hY := hY.under hk hY.lt; replace hZ := hZ.under hk hZ.lt; replace hT := hT.trans (hk.mono hT.size); clear lX cX0 cX1 lY cY0 cY1 lZ cZ0 cZ1 hk; have lX := hX.load_agg (P := Try.prog) (t := 39) Try.underlying39 rfl (by kernel_rfl); have cX0 := hX.cell_at (i := 0) (v := .int .i64 f) rfl; have cX1 := hX.cell_at (i := 1) (v := .int .i64 v) rfl; have lY := hY.load_agg (P := Try.prog) (t := 39) Try.underlying39 rfl (by kernel_rfl); have cY0 := hY.cell_at (i := 0) (v := .int .i64 g) rfl; have cY1 := hY.cell_at (i := 1) (v := .int .i64 u) rfl; have lZ := hZ.load_agg (P := Try.prog) (t := 39) Try.underlying39 rfl (by kernel_rfl); have cZ0 := hZ.cell_at (i := 0) (v := .int .i64 h) rfl; have cZ1 := hZ.cell_at (i := 1) (v := .int .i64 k) rfl)
            | (refine wpList_load_run rfl 39 (.tmp 7) rfl _ _ rfl lX ?_)
            | (refine wpList_load_run rfl 39 (.tmp 8) rfl _ _ rfl lY ?_)
            | (refine wpList_load_run rfl 39 (.tmp 9) rfl _ _ rfl lZ ?_))
          obtain ⟨c1, c2, c3, HC, HO, hwc⟩ := three_facts GA GB GC
          go_cut [61] from 30 to 61 (fun v61 wx => v61 = .bool false ∧ Has wx gx 39 #[.int .i64 f, .int .i64 v] ∧ Has wx gy 39 #[.int .i64 g, .int .i64 u] ∧ Has wx gz 39 #[.int .i64 h, .int .i64 k] ∧ Below W.heap.size W wx)
          case first =>
            by_cases h1 : c1 ≤ 0
            · by_cases h2 : c2 ≤ 0
              · have h3 : ¬ 0 < c3 := HO.out h1 h2
                obtain ⟨ws, hws⟩ : ∃ x, x = wk.drew := ⟨_, rfl⟩
                have hmd : Below wk.heap.size wk ws := by rw [hws]; exact (Below.refl _ _).drew
                have HX := Lib.hid (hX.under hmd hX.lt)
                have HY := Lib.hid (hY.under hmd hY.lt)
                have HZ := Lib.hid (hZ.under hmd hZ.lt)
                have HT := Lib.hid (hT.trans (hmd.mono hT.size))
                refine wp_region_held_drew (S := Held ws) (by kernel_rfl) (by rw [hws]; exact Held.refl _) (fun hHeld => ?_)
                rw [← hws] at hHeld ⊢
                clear hws hmd hX hY hZ hT lX cX0 cX1 lY cY0 cY1 lZ cZ0 cZ1
                refine take_at 0 30 rfl rfl (by kernel_rfl) (by kernel_rfl) (by kernel_rfl) (fun _ _ _ h => h) hHeld (yieldsIf_load_agg (by rfl) 39 (.tmp 7) rfl _ _ (by rfl) (fun wq hSw => (HX.out.under hSw HX.out.lt).load_agg (P := Try.prog) (t := 39) Try.underlying39 rfl (by kernel_rfl))) rfl ?_
                simp only [List.set_cons_zero, List.set_cons_succ]
                refine take_at 1 31 rfl rfl (by kernel_rfl) (by kernel_rfl) (by kernel_rfl) (fun _ _ _ h => h) hHeld (yieldsIf_load_agg (by rfl) 39 (.tmp 8) rfl _ _ (by rfl) (fun wq hSw => (HY.out.under hSw HY.out.lt).load_agg (P := Try.prog) (t := 39) Try.underlying39 rfl (by kernel_rfl))) rfl ?_
                simp only [List.set_cons_zero, List.set_cons_succ]
                refine take_at 3 33 rfl rfl (by kernel_rfl) (by kernel_rfl) (by kernel_rfl) (fun _ _ _ h => h) hHeld (yieldsIf_load_agg (by rfl) 39 (.tmp 8) rfl _ _ (by rfl) (fun wq hSw => (HY.out.under hSw HY.out.lt).load_agg (P := Try.prog) (t := 39) Try.underlying39 rfl (by kernel_rfl))) rfl ?_
                simp only [List.set_cons_zero, List.set_cons_succ]
                refine take_at 4 34 rfl rfl (by kernel_rfl) (by kernel_rfl) (by kernel_rfl) (fun _ _ _ h => h) hHeld (yieldsIf_load_agg (by rfl) 39 (.tmp 7) rfl _ _ (by rfl) (fun wq hSw => (HX.out.under hSw HX.out.lt).load_agg (P := Try.prog) (t := 39) Try.underlying39 rfl (by kernel_rfl))) rfl ?_
                simp only [List.set_cons_zero, List.set_cons_succ]
                refine wpAnyH_ready (rs := [2]) (by kernel_rfl) (by simp) ?_
                refine AllReadyH.cons rfl (fun K hK => ?_) AllReadyH.nil
                go_simp
                go_at_call 20; refine (ok.compare f v g u ws).mono ?_; rw [← HC.out.1]; rintro e k1 ⟨rfl, hkk1⟩
                refine hK.out _ _ (Held.of hkk1) (fun _ => ?_)
                clear hK K
                try simp only [Act.put, List.setIfInBounds_toArray, List.set_cons_zero, List.set_cons_succ]
                refine held_grow (w1 := k1) (Held.of hkk1) ?_
                clear hHeld
                have hHeld : Held k1 k1 := Held.refl _
                replace HX := Lib.hid (HX.out.under hkk1 HX.out.lt)
                replace HY := Lib.hid (HY.out.under hkk1 HY.out.lt)
                replace HZ := Lib.hid (HZ.out.under hkk1 HZ.out.lt)
                replace HT := Lib.hid (HT.out.trans (hkk1.mono HT.out.size))
                clear hkk1
                refine wpAnyH_ready (rs := [5]) (by kernel_rfl) (by simp) ?_
                refine AllReadyH.cons rfl (fun K hK => ?_) AllReadyH.nil
                go_simp
                go_at_call 20; refine (ok.compare g u f v k1).mono ?_; rw [HC.out.2.2.2.1]; rintro e k2 ⟨rfl, hkk2⟩
                refine hK.out _ _ (Held.of hkk2) (fun _ => ?_)
                clear hK K
                try simp only [Act.put, List.setIfInBounds_toArray, List.set_cons_zero, List.set_cons_succ]
                refine held_grow (w1 := k2) (Held.of hkk2) ?_
                clear hHeld
                have hHeld : Held k2 k2 := Held.refl _
                replace HX := Lib.hid (HX.out.under hkk2 HX.out.lt)
                replace HY := Lib.hid (HY.out.under hkk2 HY.out.lt)
                replace HZ := Lib.hid (HZ.out.under hkk2 HZ.out.lt)
                replace HT := Lib.hid (HT.out.trans (hkk2.mono HT.out.size))
                clear hkk2
                refine take_at (v := .int .i64 c1) 6 36 rfl rfl (by kernel_rfl) (by kernel_rfl) (by kernel_rfl) (fun _ _ _ h => h) hHeld (Or.inl ⟨by rfl, ?_⟩) rfl ?_
                · intro wq hSw
                  first | (go_simp; done) | (go_simp; rfl) | (go_simp; simp [hwc])
                  skip
                simp only [List.set_cons_zero, List.set_cons_succ]
                refine take_at (v := ?_) 7 37 rfl rfl (by kernel_rfl) (by kernel_rfl) (by kernel_rfl) (fun _ _ _ h => h) hHeld (Or.inl ⟨by rfl, ?_⟩) rfl ?_
                rotate_left
                · intro wq hSw
                  go_simp
                  try with_reducible rfl
                simp only [List.set_cons_zero, List.set_cons_succ]
                refine take_at (v := ?_) 8 38 rfl rfl (by kernel_rfl) (by kernel_rfl) (by kernel_rfl) (fun _ _ _ h => h) hHeld (Or.inl ⟨by rfl, ?_⟩) rfl ?_
                rotate_left
                · intro wq hSw
                  go_simp
                  try with_reducible rfl
                simp only [List.set_cons_zero, List.set_cons_succ]
                refine take_at 9 39 rfl rfl (by kernel_rfl) (by kernel_rfl) (by kernel_rfl) (fun _ _ _ h => h) hHeld (yieldsIf_load_agg (by rfl) 39 (.tmp 7) rfl _ _ (by rfl) (fun wq hSw => (HX.out.under hSw HX.out.lt).load_agg (P := Try.prog) (t := 39) Try.underlying39 rfl (by kernel_rfl))) rfl ?_
                simp only [List.set_cons_zero, List.set_cons_succ]
                refine take_at 10 40 rfl rfl (by kernel_rfl) (by kernel_rfl) (by kernel_rfl) (fun _ _ _ h => h) hHeld (yieldsIf_load_agg (by rfl) 39 (.tmp 7) rfl _ _ (by rfl) (fun wq hSw => (HX.out.under hSw HX.out.lt).load_agg (P := Try.prog) (t := 39) Try.underlying39 rfl (by kernel_rfl))) rfl ?_
                simp only [List.set_cons_zero, List.set_cons_succ]
                refine wpAnyH_ready (rs := [11]) (by kernel_rfl) (by simp) ?_
                refine AllReadyH.cons rfl (fun K hK => ?_) AllReadyH.nil
                go_simp
                go_at_call 20; refine (ok.compare f v f v k2).mono ?_; rw [HC.out.2.2.2.2]; rintro e k3 ⟨rfl, hkk3⟩
                refine hK.out _ _ (Held.of hkk3) (fun _ => ?_)
                clear hK K
                try simp only [Act.put, List.setIfInBounds_toArray, List.set_cons_zero, List.set_cons_succ]
                refine held_grow (w1 := k3) (Held.of hkk3) ?_
                clear hHeld
                have hHeld : Held k3 k3 := Held.refl _
                replace HX := Lib.hid (HX.out.under hkk3 HX.out.lt)
                replace HY := Lib.hid (HY.out.under hkk3 HY.out.lt)
                replace HZ := Lib.hid (HZ.out.under hkk3 HZ.out.lt)
                replace HT := Lib.hid (HT.out.trans (hkk3.mono HT.out.size))
                clear hkk3
                refine take_at (v := ?_) 12 42 rfl rfl (by kernel_rfl) (by kernel_rfl) (by kernel_rfl) (fun _ _ _ h => h) hHeld (Or.inl ⟨by rfl, ?_⟩) rfl ?_
                rotate_left
                · intro wq hSw
                  go_simp
                  try with_reducible rfl
                simp only [List.set_cons_zero, List.set_cons_succ]
                refine take_at (v := ?_) 13 43 rfl rfl (by kernel_rfl) (by kernel_rfl) (by kernel_rfl) (fun _ _ _ h => h) hHeld (Or.inl ⟨by rfl, ?_⟩) rfl ?_
                rotate_left
                · intro wq hSw
                  go_simp
                  try with_reducible rfl
                simp only [List.set_cons_zero, List.set_cons_succ]
                refine take_at (v := ?_) 14 44 rfl rfl (by kernel_rfl) (by kernel_rfl) (by kernel_rfl) (fun _ _ _ h => h) hHeld (Or.inl ⟨by rfl, ?_⟩) rfl ?_
                rotate_left
                · intro wq hSw
                  go_simp
                  try with_reducible rfl
                simp only [List.set_cons_zero, List.set_cons_succ]
                refine take_at 15 45 rfl rfl (by kernel_rfl) (by kernel_rfl) (by kernel_rfl) (fun _ _ _ h => h) hHeld (yieldsIf_load_agg (by rfl) 39 (.tmp 7) rfl _ _ (by rfl) (fun wq hSw => (HX.out.under hSw HX.out.lt).load_agg (P := Try.prog) (t := 39) Try.underlying39 rfl (by kernel_rfl))) rfl ?_
                simp only [List.set_cons_zero, List.set_cons_succ]
                refine take_at 16 46 rfl rfl (by kernel_rfl) (by kernel_rfl) (by kernel_rfl) (fun _ _ _ h => h) hHeld (yieldsIf_load_agg (by rfl) 39 (.tmp 8) rfl _ _ (by rfl) (fun wq hSw => (HY.out.under hSw HY.out.lt).load_agg (P := Try.prog) (t := 39) Try.underlying39 rfl (by kernel_rfl))) rfl ?_
                simp only [List.set_cons_zero, List.set_cons_succ]
                refine wpAnyH_ready (rs := [17]) (by kernel_rfl) (by simp) ?_
                refine AllReadyH.cons rfl (fun K hK => ?_) AllReadyH.nil
                go_simp
                go_at_call 20; refine (ok.compare f v g u k3).mono ?_; rw [← HC.out.1]; rintro e k4 ⟨rfl, hkk4⟩
                refine hK.out _ _ (Held.of hkk4) (fun _ => ?_)
                clear hK K
                try simp only [Act.put, List.setIfInBounds_toArray, List.set_cons_zero, List.set_cons_succ]
                refine held_grow (w1 := k4) (Held.of hkk4) ?_
                clear hHeld
                have hHeld : Held k4 k4 := Held.refl _
                replace HX := Lib.hid (HX.out.under hkk4 HX.out.lt)
                replace HY := Lib.hid (HY.out.under hkk4 HY.out.lt)
                replace HZ := Lib.hid (HZ.out.under hkk4 HZ.out.lt)
                replace HT := Lib.hid (HT.out.trans (hkk4.mono HT.out.size))
                clear hkk4
                refine take_at (v := ?_) 18 48 rfl rfl (by kernel_rfl) (by kernel_rfl) (by kernel_rfl) (fun _ _ _ h => h) hHeld (Or.inl ⟨by rfl, ?_⟩) rfl ?_
                rotate_left
                · intro wq hSw
                  go_simp
                  try with_reducible rfl
                simp only [List.set_cons_zero, List.set_cons_succ]
                refine take_at (v := ?_) 19 49 rfl rfl (by kernel_rfl) (by kernel_rfl) (by kernel_rfl) (fun _ _ _ h => h) hHeld (Or.inl ⟨by rfl, ?_⟩) rfl ?_
                rotate_left
                · intro wq hSw
                  go_simp
                  try with_reducible rfl
                simp only [List.set_cons_zero, List.set_cons_succ]
                refine take_at 20 50 rfl rfl (by kernel_rfl) (by kernel_rfl) (by kernel_rfl) (fun _ _ _ h => h) hHeld (yieldsIf_load_agg (by rfl) 39 (.tmp 8) rfl _ _ (by rfl) (fun wq hSw => (HY.out.under hSw HY.out.lt).load_agg (P := Try.prog) (t := 39) Try.underlying39 rfl (by kernel_rfl))) rfl ?_
                simp only [List.set_cons_zero, List.set_cons_succ]
                refine take_at 21 51 rfl rfl (by kernel_rfl) (by kernel_rfl) (by kernel_rfl) (fun _ _ _ h => h) hHeld (yieldsIf_load_agg (by rfl) 39 (.tmp 9) rfl _ _ (by rfl) (fun wq hSw => (HZ.out.under hSw HZ.out.lt).load_agg (P := Try.prog) (t := 39) Try.underlying39 rfl (by kernel_rfl))) rfl ?_
                simp only [List.set_cons_zero, List.set_cons_succ]
                refine wpAnyH_ready (rs := [22]) (by kernel_rfl) (by simp) ?_
                refine AllReadyH.cons rfl (fun K hK => ?_) AllReadyH.nil
                go_simp
                go_at_call 20; refine (ok.compare g u h k k4).mono ?_; rw [← HC.out.2.1]; rintro e k5 ⟨rfl, hkk5⟩
                refine hK.out _ _ (Held.of hkk5) (fun _ => ?_)
                clear hK K
                try simp only [Act.put, List.setIfInBounds_toArray, List.set_cons_zero, List.set_cons_succ]
                refine held_grow (w1 := k5) (Held.of hkk5) ?_
                clear hHeld
                have hHeld : Held k5 k5 := Held.refl _
                replace HX := Lib.hid (HX.out.under hkk5 HX.out.lt)
                replace HY := Lib.hid (HY.out.under hkk5 HY.out.lt)
                replace HZ := Lib.hid (HZ.out.under hkk5 HZ.out.lt)
                replace HT := Lib.hid (HT.out.trans (hkk5.mono HT.out.size))
                clear hkk5
                refine take_at (v := ?_) 23 53 rfl rfl (by kernel_rfl) (by kernel_rfl) (by kernel_rfl) (fun _ _ _ h => h) hHeld (Or.inl ⟨by rfl, ?_⟩) rfl ?_
                rotate_left
                · intro wq hSw
                  go_simp
                  try with_reducible rfl
                simp only [List.set_cons_zero, List.set_cons_succ]
                refine take_at (v := ?_) 24 54 rfl rfl (by kernel_rfl) (by kernel_rfl) (by kernel_rfl) (fun _ _ _ h => h) hHeld (Or.inl ⟨by rfl, ?_⟩) rfl ?_
                rotate_left
                · intro wq hSw
                  go_simp
                  try with_reducible rfl
                simp only [List.set_cons_zero, List.set_cons_succ]
                refine take_at (v := ?_) 25 55 rfl rfl (by kernel_rfl) (by kernel_rfl) (by kernel_rfl) (fun _ _ _ h => h) hHeld (Or.inl ⟨by rfl, ?_⟩) rfl ?_
                rotate_left
                · intro wq hSw
                  go_simp
                  try with_reducible rfl
                simp only [List.set_cons_zero, List.set_cons_succ]
                refine take_at 26 56 rfl rfl (by kernel_rfl) (by kernel_rfl) (by kernel_rfl) (fun _ _ _ h => h) hHeld (yieldsIf_load_agg (by rfl) 39 (.tmp 7) rfl _ _ (by rfl) (fun wq hSw => (HX.out.under hSw HX.out.lt).load_agg (P := Try.prog) (t := 39) Try.underlying39 rfl (by kernel_rfl))) rfl ?_
                simp only [List.set_cons_zero, List.set_cons_succ]
                refine take_at 27 57 rfl rfl (by kernel_rfl) (by kernel_rfl) (by kernel_rfl) (fun _ _ _ h => h) hHeld (yieldsIf_load_agg (by rfl) 39 (.tmp 9) rfl _ _ (by rfl) (fun wq hSw => (HZ.out.under hSw HZ.out.lt).load_agg (P := Try.prog) (t := 39) Try.underlying39 rfl (by kernel_rfl))) rfl ?_
                simp only [List.set_cons_zero, List.set_cons_succ]
                refine wpAnyH_ready (rs := [28]) (by kernel_rfl) (by simp) ?_
                refine AllReadyH.cons rfl (fun K hK => ?_) AllReadyH.nil
                go_simp
                go_at_call 20; refine (ok.compare f v h k k5).mono ?_; rw [← HC.out.2.2.1]; rintro e k6 ⟨rfl, hkk6⟩
                refine hK.out _ _ (Held.of hkk6) (fun _ => ?_)
                clear hK K
                try simp only [Act.put, List.setIfInBounds_toArray, List.set_cons_zero, List.set_cons_succ]
                refine held_grow (w1 := k6) (Held.of hkk6) ?_
                clear hHeld
                have hHeld : Held k6 k6 := Held.refl _
                replace HX := Lib.hid (HX.out.under hkk6 HX.out.lt)
                replace HY := Lib.hid (HY.out.under hkk6 HY.out.lt)
                replace HZ := Lib.hid (HZ.out.under hkk6 HZ.out.lt)
                replace HT := Lib.hid (HT.out.trans (hkk6.mono HT.out.size))
                clear hkk6
                refine take_at (v := ?_) 29 59 rfl rfl (by kernel_rfl) (by kernel_rfl) (by kernel_rfl) (fun _ _ _ h => h) hHeld (Or.inl ⟨by rfl, ?_⟩) rfl ?_
                rotate_left
                · intro wq hSw
                  go_simp
                  try with_reducible rfl
                simp only [List.set_cons_zero, List.set_cons_succ]
                refine take_at (v := ?_) 30 60 rfl rfl (by kernel_rfl) (by kernel_rfl) (by kernel_rfl) (fun _ _ _ h => h) hHeld (Or.inl ⟨by rfl, ?_⟩) rfl ?_
                rotate_left
                · intro wq hSw
                  go_simp
                  try with_reducible rfl
                simp only [List.set_cons_zero, List.set_cons_succ]
                refine take_at (v := ?_) 31 61 rfl rfl (by kernel_rfl) (by kernel_rfl) (by kernel_rfl) (fun _ _ _ h => h) hHeld (Or.inl ⟨by rfl, ?_⟩) rfl ?_
                rotate_left
                · intro wq hSw
                  go_simp
                  try with_reducible rfl
                simp only [List.set_cons_zero, List.set_cons_succ]
                refine wpAnyH_done (by kernel_rfl) ?_ _
                go_wp2_with fail
                go_meet
                case rel => exact ⟨rfl, HX.out, HY.out, HZ.out, HT.out⟩
              · obtain ⟨ws, hws⟩ : ∃ x, x = wk.drew := ⟨_, rfl⟩
                have hmd : Below wk.heap.size wk ws := by rw [hws]; exact (Below.refl _ _).drew
                have HX := Lib.hid (hX.under hmd hX.lt)
                have HY := Lib.hid (hY.under hmd hY.lt)
                have HZ := Lib.hid (hZ.under hmd hZ.lt)
                have HT := Lib.hid (hT.trans (hmd.mono hT.size))
                refine wp_region_held_drew (S := Held ws) (by kernel_rfl) (by rw [hws]; exact Held.refl _) (fun hHeld => ?_)
                rw [← hws] at hHeld ⊢
                clear hws hmd hX hY hZ hT lX cX0 cX1 lY cY0 cY1 lZ cZ0 cZ1
                refine take_at 0 30 rfl rfl (by kernel_rfl) (by kernel_rfl) (by kernel_rfl) (fun _ _ _ h => h) hHeld (yieldsIf_load_agg (by rfl) 39 (.tmp 7) rfl _ _ (by rfl) (fun wq hSw => (HX.out.under hSw HX.out.lt).load_agg (P := Try.prog) (t := 39) Try.underlying39 rfl (by kernel_rfl))) rfl ?_
                simp only [List.set_cons_zero, List.set_cons_succ]
                refine take_at 1 31 rfl rfl (by kernel_rfl) (by kernel_rfl) (by kernel_rfl) (fun _ _ _ h => h) hHeld (yieldsIf_load_agg (by rfl) 39 (.tmp 8) rfl _ _ (by rfl) (fun wq hSw => (HY.out.under hSw HY.out.lt).load_agg (P := Try.prog) (t := 39) Try.underlying39 rfl (by kernel_rfl))) rfl ?_
                simp only [List.set_cons_zero, List.set_cons_succ]
                refine take_at 3 33 rfl rfl (by kernel_rfl) (by kernel_rfl) (by kernel_rfl) (fun _ _ _ h => h) hHeld (yieldsIf_load_agg (by rfl) 39 (.tmp 8) rfl _ _ (by rfl) (fun wq hSw => (HY.out.under hSw HY.out.lt).load_agg (P := Try.prog) (t := 39) Try.underlying39 rfl (by kernel_rfl))) rfl ?_
                simp only [List.set_cons_zero, List.set_cons_succ]
                refine take_at 4 34 rfl rfl (by kernel_rfl) (by kernel_rfl) (by kernel_rfl) (fun _ _ _ h => h) hHeld (yieldsIf_load_agg (by rfl) 39 (.tmp 7) rfl _ _ (by rfl) (fun wq hSw => (HX.out.under hSw HX.out.lt).load_agg (P := Try.prog) (t := 39) Try.underlying39 rfl (by kernel_rfl))) rfl ?_
                simp only [List.set_cons_zero, List.set_cons_succ]
                refine wpAnyH_ready (rs := [2]) (by kernel_rfl) (by simp) ?_
                refine AllReadyH.cons rfl (fun K hK => ?_) AllReadyH.nil
                go_simp
                go_at_call 20; refine (ok.compare f v g u ws).mono ?_; rw [← HC.out.1]; rintro e k1 ⟨rfl, hkk1⟩
                refine hK.out _ _ (Held.of hkk1) (fun _ => ?_)
                clear hK K
                try simp only [Act.put, List.setIfInBounds_toArray, List.set_cons_zero, List.set_cons_succ]
                refine held_grow (w1 := k1) (Held.of hkk1) ?_
                clear hHeld
                have hHeld : Held k1 k1 := Held.refl _
                replace HX := Lib.hid (HX.out.under hkk1 HX.out.lt)
                replace HY := Lib.hid (HY.out.under hkk1 HY.out.lt)
                replace HZ := Lib.hid (HZ.out.under hkk1 HZ.out.lt)
                replace HT := Lib.hid (HT.out.trans (hkk1.mono HT.out.size))
                clear hkk1
                refine wpAnyH_ready (rs := [5]) (by kernel_rfl) (by simp) ?_
                refine AllReadyH.cons rfl (fun K hK => ?_) AllReadyH.nil
                go_simp
                go_at_call 20; refine (ok.compare g u f v k1).mono ?_; rw [HC.out.2.2.2.1]; rintro e k2 ⟨rfl, hkk2⟩
                refine hK.out _ _ (Held.of hkk2) (fun _ => ?_)
                clear hK K
                try simp only [Act.put, List.setIfInBounds_toArray, List.set_cons_zero, List.set_cons_succ]
                refine held_grow (w1 := k2) (Held.of hkk2) ?_
                clear hHeld
                have hHeld : Held k2 k2 := Held.refl _
                replace HX := Lib.hid (HX.out.under hkk2 HX.out.lt)
                replace HY := Lib.hid (HY.out.under hkk2 HY.out.lt)
                replace HZ := Lib.hid (HZ.out.under hkk2 HZ.out.lt)
                replace HT := Lib.hid (HT.out.trans (hkk2.mono HT.out.size))
                clear hkk2
                refine take_at (v := .int .i64 c1) 6 36 rfl rfl (by kernel_rfl) (by kernel_rfl) (by kernel_rfl) (fun _ _ _ h => h) hHeld (Or.inl ⟨by rfl, ?_⟩) rfl ?_
                · intro wq hSw
                  first | (go_simp; done) | (go_simp; rfl) | (go_simp; simp [hwc])
                  skip
                simp only [List.set_cons_zero, List.set_cons_succ]
                refine take_at (v := ?_) 7 37 rfl rfl (by kernel_rfl) (by kernel_rfl) (by kernel_rfl) (fun _ _ _ h => h) hHeld (Or.inl ⟨by rfl, ?_⟩) rfl ?_
                rotate_left
                · intro wq hSw
                  go_simp
                  try with_reducible rfl
                simp only [List.set_cons_zero, List.set_cons_succ]
                refine take_at (v := ?_) 8 38 rfl rfl (by kernel_rfl) (by kernel_rfl) (by kernel_rfl) (fun _ _ _ h => h) hHeld (Or.inl ⟨by rfl, ?_⟩) rfl ?_
                rotate_left
                · intro wq hSw
                  go_simp
                  try with_reducible rfl
                simp only [List.set_cons_zero, List.set_cons_succ]
                refine take_at 9 39 rfl rfl (by kernel_rfl) (by kernel_rfl) (by kernel_rfl) (fun _ _ _ h => h) hHeld (yieldsIf_load_agg (by rfl) 39 (.tmp 7) rfl _ _ (by rfl) (fun wq hSw => (HX.out.under hSw HX.out.lt).load_agg (P := Try.prog) (t := 39) Try.underlying39 rfl (by kernel_rfl))) rfl ?_
                simp only [List.set_cons_zero, List.set_cons_succ]
                refine take_at 10 40 rfl rfl (by kernel_rfl) (by kernel_rfl) (by kernel_rfl) (fun _ _ _ h => h) hHeld (yieldsIf_load_agg (by rfl) 39 (.tmp 7) rfl _ _ (by rfl) (fun wq hSw => (HX.out.under hSw HX.out.lt).load_agg (P := Try.prog) (t := 39) Try.underlying39 rfl (by kernel_rfl))) rfl ?_
                simp only [List.set_cons_zero, List.set_cons_succ]
                refine wpAnyH_ready (rs := [11]) (by kernel_rfl) (by simp) ?_
                refine AllReadyH.cons rfl (fun K hK => ?_) AllReadyH.nil
                go_simp
                go_at_call 20; refine (ok.compare f v f v k2).mono ?_; rw [HC.out.2.2.2.2]; rintro e k3 ⟨rfl, hkk3⟩
                refine hK.out _ _ (Held.of hkk3) (fun _ => ?_)
                clear hK K
                try simp only [Act.put, List.setIfInBounds_toArray, List.set_cons_zero, List.set_cons_succ]
                refine held_grow (w1 := k3) (Held.of hkk3) ?_
                clear hHeld
                have hHeld : Held k3 k3 := Held.refl _
                replace HX := Lib.hid (HX.out.under hkk3 HX.out.lt)
                replace HY := Lib.hid (HY.out.under hkk3 HY.out.lt)
                replace HZ := Lib.hid (HZ.out.under hkk3 HZ.out.lt)
                replace HT := Lib.hid (HT.out.trans (hkk3.mono HT.out.size))
                clear hkk3
                refine take_at (v := ?_) 12 42 rfl rfl (by kernel_rfl) (by kernel_rfl) (by kernel_rfl) (fun _ _ _ h => h) hHeld (Or.inl ⟨by rfl, ?_⟩) rfl ?_
                rotate_left
                · intro wq hSw
                  go_simp
                  try with_reducible rfl
                simp only [List.set_cons_zero, List.set_cons_succ]
                refine take_at (v := ?_) 13 43 rfl rfl (by kernel_rfl) (by kernel_rfl) (by kernel_rfl) (fun _ _ _ h => h) hHeld (Or.inl ⟨by rfl, ?_⟩) rfl ?_
                rotate_left
                · intro wq hSw
                  go_simp
                  try with_reducible rfl
                simp only [List.set_cons_zero, List.set_cons_succ]
                refine take_at (v := ?_) 14 44 rfl rfl (by kernel_rfl) (by kernel_rfl) (by kernel_rfl) (fun _ _ _ h => h) hHeld (Or.inl ⟨by rfl, ?_⟩) rfl ?_
                rotate_left
                · intro wq hSw
                  go_simp
                  try with_reducible rfl
                simp only [List.set_cons_zero, List.set_cons_succ]
                refine take_at 15 45 rfl rfl (by kernel_rfl) (by kernel_rfl) (by kernel_rfl) (fun _ _ _ h => h) hHeld (yieldsIf_load_agg (by rfl) 39 (.tmp 7) rfl _ _ (by rfl) (fun wq hSw => (HX.out.under hSw HX.out.lt).load_agg (P := Try.prog) (t := 39) Try.underlying39 rfl (by kernel_rfl))) rfl ?_
                simp only [List.set_cons_zero, List.set_cons_succ]
                refine take_at 16 46 rfl rfl (by kernel_rfl) (by kernel_rfl) (by kernel_rfl) (fun _ _ _ h => h) hHeld (yieldsIf_load_agg (by rfl) 39 (.tmp 8) rfl _ _ (by rfl) (fun wq hSw => (HY.out.under hSw HY.out.lt).load_agg (P := Try.prog) (t := 39) Try.underlying39 rfl (by kernel_rfl))) rfl ?_
                simp only [List.set_cons_zero, List.set_cons_succ]
                refine wpAnyH_ready (rs := [17]) (by kernel_rfl) (by simp) ?_
                refine AllReadyH.cons rfl (fun K hK => ?_) AllReadyH.nil
                go_simp
                go_at_call 20; refine (ok.compare f v g u k3).mono ?_; rw [← HC.out.1]; rintro e k4 ⟨rfl, hkk4⟩
                refine hK.out _ _ (Held.of hkk4) (fun _ => ?_)
                clear hK K
                try simp only [Act.put, List.setIfInBounds_toArray, List.set_cons_zero, List.set_cons_succ]
                refine held_grow (w1 := k4) (Held.of hkk4) ?_
                clear hHeld
                have hHeld : Held k4 k4 := Held.refl _
                replace HX := Lib.hid (HX.out.under hkk4 HX.out.lt)
                replace HY := Lib.hid (HY.out.under hkk4 HY.out.lt)
                replace HZ := Lib.hid (HZ.out.under hkk4 HZ.out.lt)
                replace HT := Lib.hid (HT.out.trans (hkk4.mono HT.out.size))
                clear hkk4
                refine take_at (v := ?_) 18 48 rfl rfl (by kernel_rfl) (by kernel_rfl) (by kernel_rfl) (fun _ _ _ h => h) hHeld (Or.inl ⟨by rfl, ?_⟩) rfl ?_
                rotate_left
                · intro wq hSw
                  go_simp
                  try with_reducible rfl
                simp only [List.set_cons_zero, List.set_cons_succ]
                refine take_at (v := ?_) 19 49 rfl rfl (by kernel_rfl) (by kernel_rfl) (by kernel_rfl) (fun _ _ _ h => h) hHeld (Or.inl ⟨by rfl, ?_⟩) rfl ?_
                rotate_left
                · intro wq hSw
                  go_simp
                  try with_reducible rfl
                simp only [List.set_cons_zero, List.set_cons_succ]
                refine take_at 20 50 rfl rfl (by kernel_rfl) (by kernel_rfl) (by kernel_rfl) (fun _ _ _ h => h) hHeld (yieldsIf_load_agg (by rfl) 39 (.tmp 8) rfl _ _ (by rfl) (fun wq hSw => (HY.out.under hSw HY.out.lt).load_agg (P := Try.prog) (t := 39) Try.underlying39 rfl (by kernel_rfl))) rfl ?_
                simp only [List.set_cons_zero, List.set_cons_succ]
                refine take_at 21 51 rfl rfl (by kernel_rfl) (by kernel_rfl) (by kernel_rfl) (fun _ _ _ h => h) hHeld (yieldsIf_load_agg (by rfl) 39 (.tmp 9) rfl _ _ (by rfl) (fun wq hSw => (HZ.out.under hSw HZ.out.lt).load_agg (P := Try.prog) (t := 39) Try.underlying39 rfl (by kernel_rfl))) rfl ?_
                simp only [List.set_cons_zero, List.set_cons_succ]
                refine wpAnyH_ready (rs := [22]) (by kernel_rfl) (by simp) ?_
                refine AllReadyH.cons rfl (fun K hK => ?_) AllReadyH.nil
                go_simp
                go_at_call 20; refine (ok.compare g u h k k4).mono ?_; rw [← HC.out.2.1]; rintro e k5 ⟨rfl, hkk5⟩
                refine hK.out _ _ (Held.of hkk5) (fun _ => ?_)
                clear hK K
                try simp only [Act.put, List.setIfInBounds_toArray, List.set_cons_zero, List.set_cons_succ]
                refine held_grow (w1 := k5) (Held.of hkk5) ?_
                clear hHeld
                have hHeld : Held k5 k5 := Held.refl _
                replace HX := Lib.hid (HX.out.under hkk5 HX.out.lt)
                replace HY := Lib.hid (HY.out.under hkk5 HY.out.lt)
                replace HZ := Lib.hid (HZ.out.under hkk5 HZ.out.lt)
                replace HT := Lib.hid (HT.out.trans (hkk5.mono HT.out.size))
                clear hkk5
                refine take_at (v := ?_) 23 53 rfl rfl (by kernel_rfl) (by kernel_rfl) (by kernel_rfl) (fun _ _ _ h => h) hHeld (Or.inl ⟨by rfl, ?_⟩) rfl ?_
                rotate_left
                · intro wq hSw
                  go_simp
                  try with_reducible rfl
                simp only [List.set_cons_zero, List.set_cons_succ]
                refine take_at (v := ?_) 24 54 rfl rfl (by kernel_rfl) (by kernel_rfl) (by kernel_rfl) (fun _ _ _ h => h) hHeld (Or.inl ⟨by rfl, ?_⟩) rfl ?_
                rotate_left
                · intro wq hSw
                  go_simp
                  try with_reducible rfl
                simp only [List.set_cons_zero, List.set_cons_succ]
                refine take_at (v := ?_) 25 55 rfl rfl (by kernel_rfl) (by kernel_rfl) (by kernel_rfl) (fun _ _ _ h => h) hHeld (Or.inl ⟨by rfl, ?_⟩) rfl ?_
                rotate_left
                · intro wq hSw
                  go_simp
                  try with_reducible rfl
                simp only [List.set_cons_zero, List.set_cons_succ]
                refine take_at (v := undef) 26 56 rfl rfl (by kernel_rfl) (by kernel_rfl) (by kernel_rfl) (fun _ _ _ h => h) hHeld (Or.inr ⟨by rfl, rfl⟩) rfl ?_
                simp only [List.set_cons_zero, List.set_cons_succ]
                refine take_at (v := undef) 27 57 rfl rfl (by kernel_rfl) (by kernel_rfl) (by kernel_rfl) (fun _ _ _ h => h) hHeld (Or.inr ⟨by rfl, rfl⟩) rfl ?_
                simp only [List.set_cons_zero, List.set_cons_succ]
                refine take_at (v := undef) 28 58 rfl rfl (by kernel_rfl) (by kernel_rfl) (by kernel_rfl) (fun _ _ _ h => h) hHeld (Or.inr ⟨by rfl, rfl⟩) rfl ?_
                simp only [List.set_cons_zero, List.set_cons_succ]
                refine take_at (v := undef) 29 59 rfl rfl (by kernel_rfl) (by kernel_rfl) (by kernel_rfl) (fun _ _ _ h => h) hHeld (Or.inr ⟨by rfl, rfl⟩) rfl ?_
                simp only [List.set_cons_zero, List.set_cons_succ]
                refine take_at (v := ?_) 30 60 rfl rfl (by kernel_rfl) (by kernel_rfl) (by kernel_rfl) (fun _ _ _ h => h) hHeld (Or.inl ⟨by rfl, ?_⟩) rfl ?_
                rotate_left
                · intro wq hSw
                  go_simp
                  try with_reducible rfl
                simp only [List.set_cons_zero, List.set_cons_succ]
                refine take_at (v := ?_) 31 61 rfl rfl (by kernel_rfl) (by kernel_rfl) (by kernel_rfl) (fun _ _ _ h => h) hHeld (Or.inl ⟨by rfl, ?_⟩) rfl ?_
                rotate_left
                · intro wq hSw
                  go_simp
                  try with_reducible rfl
                simp only [List.set_cons_zero, List.set_cons_succ]
                refine wpAnyH_done (by kernel_rfl) ?_ _
                go_wp2_with fail
                go_meet
                case rel => exact ⟨rfl, HX.out, HY.out, HZ.out, HT.out⟩
            · obtain ⟨ws, hws⟩ : ∃ x, x = wk.drew := ⟨_, rfl⟩
              have hmd : Below wk.heap.size wk ws := by rw [hws]; exact (Below.refl _ _).drew
              have HX := Lib.hid (hX.under hmd hX.lt)
              have HY := Lib.hid (hY.under hmd hY.lt)
              have HZ := Lib.hid (hZ.under hmd hZ.lt)
              have HT := Lib.hid (hT.trans (hmd.mono hT.size))
              refine wp_region_held_drew (S := Held ws) (by kernel_rfl) (by rw [hws]; exact Held.refl _) (fun hHeld => ?_)
              rw [← hws] at hHeld ⊢
              clear hws hmd hX hY hZ hT lX cX0 cX1 lY cY0 cY1 lZ cZ0 cZ1
              refine take_at 0 30 rfl rfl (by kernel_rfl) (by kernel_rfl) (by kernel_rfl) (fun _ _ _ h => h) hHeld (yieldsIf_load_agg (by rfl) 39 (.tmp 7) rfl _ _ (by rfl) (fun wq hSw => (HX.out.under hSw HX.out.lt).load_agg (P := Try.prog) (t := 39) Try.underlying39 rfl (by kernel_rfl))) rfl ?_
              simp only [List.set_cons_zero, List.set_cons_succ]
              refine take_at 1 31 rfl rfl (by kernel_rfl) (by kernel_rfl) (by kernel_rfl) (fun _ _ _ h => h) hHeld (yieldsIf_load_agg (by rfl) 39 (.tmp 8) rfl _ _ (by rfl) (fun wq hSw => (HY.out.under hSw HY.out.lt).load_agg (P := Try.prog) (t := 39) Try.underlying39 rfl (by kernel_rfl))) rfl ?_
              simp only [List.set_cons_zero, List.set_cons_succ]
              refine take_at 3 33 rfl rfl (by kernel_rfl) (by kernel_rfl) (by kernel_rfl) (fun _ _ _ h => h) hHeld (yieldsIf_load_agg (by rfl) 39 (.tmp 8) rfl _ _ (by rfl) (fun wq hSw => (HY.out.under hSw HY.out.lt).load_agg (P := Try.prog) (t := 39) Try.underlying39 rfl (by kernel_rfl))) rfl ?_
              simp only [List.set_cons_zero, List.set_cons_succ]
              refine take_at 4 34 rfl rfl (by kernel_rfl) (by kernel_rfl) (by kernel_rfl) (fun _ _ _ h => h) hHeld (yieldsIf_load_agg (by rfl) 39 (.tmp 7) rfl _ _ (by rfl) (fun wq hSw => (HX.out.under hSw HX.out.lt).load_agg (P := Try.prog) (t := 39) Try.underlying39 rfl (by kernel_rfl))) rfl ?_
              simp only [List.set_cons_zero, List.set_cons_succ]
              refine wpAnyH_ready (rs := [2]) (by kernel_rfl) (by simp) ?_
              refine AllReadyH.cons rfl (fun K hK => ?_) AllReadyH.nil
              go_simp
              go_at_call 20; refine (ok.compare f v g u ws).mono ?_; rw [← HC.out.1]; rintro e k1 ⟨rfl, hkk1⟩
              refine hK.out _ _ (Held.of hkk1) (fun _ => ?_)
              clear hK K
              try simp only [Act.put, List.setIfInBounds_toArray, List.set_cons_zero, List.set_cons_succ]
              refine held_grow (w1 := k1) (Held.of hkk1) ?_
              clear hHeld
              have hHeld : Held k1 k1 := Held.refl _
              replace HX := Lib.hid (HX.out.under hkk1 HX.out.lt)
              replace HY := Lib.hid (HY.out.under hkk1 HY.out.lt)
              replace HZ := Lib.hid (HZ.out.under hkk1 HZ.out.lt)
              replace HT := Lib.hid (HT.out.trans (hkk1.mono HT.out.size))
              clear hkk1
              refine wpAnyH_ready (rs := [5]) (by kernel_rfl) (by simp) ?_
              refine AllReadyH.cons rfl (fun K hK => ?_) AllReadyH.nil
              go_simp
              go_at_call 20; refine (ok.compare g u f v k1).mono ?_; rw [HC.out.2.2.2.1]; rintro e k2 ⟨rfl, hkk2⟩
              refine hK.out _ _ (Held.of hkk2) (fun _ => ?_)
              clear hK K
              try simp only [Act.put, List.setIfInBounds_toArray, List.set_cons_zero, List.set_cons_succ]
              refine held_grow (w1 := k2) (Held.of hkk2) ?_
              clear hHeld
              have hHeld : Held k2 k2 := Held.refl _
              replace HX := Lib.hid (HX.out.under hkk2 HX.out.lt)
              replace HY := Lib.hid (HY.out.under hkk2 HY.out.lt)
              replace HZ := Lib.hid (HZ.out.under hkk2 HZ.out.lt)
              replace HT := Lib.hid (HT.out.trans (hkk2.mono HT.out.size))
              clear hkk2
              refine take_at (v := .int .i64 c1) 6 36 rfl rfl (by kernel_rfl) (by kernel_rfl) (by kernel_rfl) (fun _ _ _ h => h) hHeld (Or.inl ⟨by rfl, ?_⟩) rfl ?_
              · intro wq hSw
                first | (go_simp; done) | (go_simp; rfl) | (go_simp; simp [hwc])
                skip
              simp only [List.set_cons_zero, List.set_cons_succ]
              refine take_at (v := ?_) 7 37 rfl rfl (by kernel_rfl) (by kernel_rfl) (by kernel_rfl) (fun _ _ _ h => h) hHeld (Or.inl ⟨by rfl, ?_⟩) rfl ?_
              rotate_left
              · intro wq hSw
                go_simp
                try with_reducible rfl
              simp only [List.set_cons_zero, List.set_cons_succ]
              refine take_at (v := ?_) 8 38 rfl rfl (by kernel_rfl) (by kernel_rfl) (by kernel_rfl) (fun _ _ _ h => h) hHeld (Or.inl ⟨by rfl, ?_⟩) rfl ?_
              rotate_left
              · intro wq hSw
                go_simp
                try with_reducible rfl
              simp only [List.set_cons_zero, List.set_cons_succ]
              refine take_at 9 39 rfl rfl (by kernel_rfl) (by kernel_rfl) (by kernel_rfl) (fun _ _ _ h => h) hHeld (yieldsIf_load_agg (by rfl) 39 (.tmp 7) rfl _ _ (by rfl) (fun wq hSw => (HX.out.under hSw HX.out.lt).load_agg (P := Try.prog) (t := 39) Try.underlying39 rfl (by kernel_rfl))) rfl ?_
              simp only [List.set_cons_zero, List.set_cons_succ]
              refine take_at 10 40 rfl rfl (by kernel_rfl) (by kernel_rfl) (by kernel_rfl) (fun _ _ _ h => h) hHeld (yieldsIf_load_agg (by rfl) 39 (.tmp 7) rfl _ _ (by rfl) (fun wq hSw => (HX.out.under hSw HX.out.lt).load_agg (P := Try.prog) (t := 39) Try.underlying39 rfl (by kernel_rfl))) rfl ?_
              simp only [List.set_cons_zero, List.set_cons_succ]
              refine wpAnyH_ready (rs := [11]) (by kernel_rfl) (by simp) ?_
              refine AllReadyH.cons rfl (fun K hK => ?_) AllReadyH.nil
              go_simp
              go_at_call 20; refine (ok.compare f v f v k2).mono ?_; rw [HC.out.2.2.2.2]; rintro e k3 ⟨rfl, hkk3⟩
              refine hK.out _ _ (Held.of hkk3) (fun _ => ?_)
              clear hK K
              try simp only [Act.put, List.setIfInBounds_toArray, List.set_cons_zero, List.set_cons_succ]
              refine held_grow (w1 := k3) (Held.of hkk3) ?_
              clear hHeld
              have hHeld : Held k3 k3 := Held.refl _
              replace HX := Lib.hid (HX.out.under hkk3 HX.out.lt)
              replace HY := Lib.hid (HY.out.under hkk3 HY.out.lt)
              replace HZ := Lib.hid (HZ.out.under hkk3 HZ.out.lt)
              replace HT := Lib.hid (HT.out.trans (hkk3.mono HT.out.size))
              clear hkk3
              refine take_at (v := ?_) 12 42 rfl rfl (by kernel_rfl) (by kernel_rfl) (by kernel_rfl) (fun _ _ _ h => h) hHeld (Or.inl ⟨by rfl, ?_⟩) rfl ?_
              rotate_left
              · intro wq hSw
                go_simp
                try with_reducible rfl
              simp only [List.set_cons_zero, List.set_cons_succ]
              refine take_at (v := ?_) 13 43 rfl rfl (by kernel_rfl) (by kernel_rfl) (by kernel_rfl) (fun _ _ _ h => h) hHeld (Or.inl ⟨by rfl, ?_⟩) rfl ?_
              rotate_left
              · intro wq hSw
                go_simp
                try with_reducible rfl
              simp only [List.set_cons_zero, List.set_cons_succ]
              refine take_at (v := ?_) 14 44 rfl rfl (by kernel_rfl) (by kernel_rfl) (by kernel_rfl) (fun _ _ _ h => h) hHeld (Or.inl ⟨by rfl, ?_⟩) rfl ?_
              rotate_left
              · intro wq hSw
                go_simp
                try with_reducible rfl
              simp only [List.set_cons_zero, List.set_cons_succ]
              refine take_at 15 45 rfl rfl (by kernel_rfl) (by kernel_rfl) (by kernel_rfl) (fun _ _ _ h => h) hHeld (yieldsIf_load_agg (by rfl) 39 (.tmp 7) rfl _ _ (by rfl) (fun wq hSw => (HX.out.under hSw HX.out.lt).load_agg (P := Try.prog) (t := 39) Try.underlying39 rfl (by kernel_rfl))) rfl ?_
              simp only [List.set_cons_zero, List.set_cons_succ]
              refine take_at 16 46 rfl rfl (by kernel_rfl) (by kernel_rfl) (by kernel_rfl) (fun _ _ _ h => h) hHeld (yieldsIf_load_agg (by rfl) 39 (.tmp 8) rfl _ _ (by rfl) (fun wq hSw => (HY.out.under hSw HY.out.lt).load_agg (P := Try.prog) (t := 39) Try.underlying39 rfl (by kernel_rfl))) rfl ?_
              simp only [List.set_cons_zero, List.set_cons_succ]
              refine wpAnyH_ready (rs := [17]) (by kernel_rfl) (by simp) ?_
              refine AllReadyH.cons rfl (fun K hK => ?_) AllReadyH.nil
              go_simp
              go_at_call 20; refine (ok.compare f v g u k3).mono ?_; rw [← HC.out.1]; rintro e k4 ⟨rfl, hkk4⟩
              refine hK.out _ _ (Held.of hkk4) (fun _ => ?_)
              clear hK K
              try simp only [Act.put, List.setIfInBounds_toArray, List.set_cons_zero, List.set_cons_succ]
              refine held_grow (w1 := k4) (Held.of hkk4) ?_
              clear hHeld
              have hHeld : Held k4 k4 := Held.refl _
              replace HX := Lib.hid (HX.out.under hkk4 HX.out.lt)
              replace HY := Lib.hid (HY.out.under hkk4 HY.out.lt)
              replace HZ := Lib.hid (HZ.out.under hkk4 HZ.out.lt)
              replace HT := Lib.hid (HT.out.trans (hkk4.mono HT.out.size))
              clear hkk4
              refine take_at (v := ?_) 18 48 rfl rfl (by kernel_rfl) (by kernel_rfl) (by kernel_rfl) (fun _ _ _ h => h) hHeld (Or.inl ⟨by rfl, ?_⟩) rfl ?_
              rotate_left
              · intro wq hSw
                go_simp
                try with_reducible rfl
              simp only [List.set_cons_zero, List.set_cons_succ]
              refine take_at (v := ?_) 19 49 rfl rfl (by kernel_rfl) (by kernel_rfl) (by kernel_rfl) (fun _ _ _ h => h) hHeld (Or.inl ⟨by rfl, ?_⟩) rfl ?_
              rotate_left
              · intro wq hSw
                go_simp
                try with_reducible rfl
              simp only [List.set_cons_zero, List.set_cons_succ]
              refine take_at (v := undef) 20 50 rfl rfl (by kernel_rfl) (by kernel_rfl) (by kernel_rfl) (fun _ _ _ h => h) hHeld (Or.inr ⟨by rfl, rfl⟩) rfl ?_
              simp only [List.set_cons_zero, List.set_cons_succ]
              refine take_at (v := undef) 21 51 rfl rfl (by kernel_rfl) (by kernel_rfl) (by kernel_rfl) (fun _ _ _ h => h) hHeld (Or.inr ⟨by rfl, rfl⟩) rfl ?_
              simp only [List.set_cons_zero, List.set_cons_succ]
              refine take_at (v := undef) 22 52 rfl rfl (by kernel_rfl) (by kernel_rfl) (by kernel_rfl) (fun _ _ _ h => h) hHeld (Or.inr ⟨by rfl, rfl⟩) rfl ?_
              simp only [List.set_cons_zero, List.set_cons_succ]
              refine take_at (v := undef) 23 53 rfl rfl (by kernel_rfl) (by kernel_rfl) (by kernel_rfl) (fun _ _ _ h => h) hHeld (Or.inr ⟨by rfl, rfl⟩) rfl ?_
              simp only [List.set_cons_zero, List.set_cons_succ]
              refine take_at (v := ?_) 24 54 rfl rfl (by kernel_rfl) (by kernel_rfl) (by kernel_rfl) (fun _ _ _ h => h) hHeld (Or.inl ⟨by rfl, ?_⟩) rfl ?_
              rotate_left
              · intro wq hSw
                go_simp
                try with_reducible rfl
              simp only [List.set_cons_zero, List.set_cons_succ]
              refine take_at (v := ?_) 25 55 rfl rfl (by kernel_rfl) (by kernel_rfl) (by kernel_rfl) (fun _ _ _ h => h) hHeld (Or.inl ⟨by rfl, ?_⟩) rfl ?_
              rotate_left
              · intro wq hSw
                go_simp
                try with_reducible rfl
              simp only [List.set_cons_zero, List.set_cons_succ]
              refine take_at (v := undef) 26 56 rfl rfl (by kernel_rfl) (by kernel_rfl) (by kernel_rfl) (fun _ _ _ h => h) hHeld (Or.inr ⟨by rfl, rfl⟩) rfl ?_
              simp only [List.set_cons_zero, List.set_cons_succ]
              refine take_at (v := undef) 27 57 rfl rfl (by kernel_rfl) (by kernel_rfl) (by kernel_rfl) (fun _ _ _ h => h) hHeld (Or.inr ⟨by rfl, rfl⟩) rfl ?_
              simp only [List.set_cons_zero, List.set_cons_succ]
              refine take_at (v := undef) 28 58 rfl rfl (by kernel_rfl) (by kernel_rfl) (by kernel_rfl) (fun _ _ _ h => h) hHeld (Or.inr ⟨by rfl, rfl⟩) rfl ?_
              simp only [List.set_cons_zero, List.set_cons_succ]
              refine take_at (v := undef) 29 59 rfl rfl (by kernel_rfl) (by kernel_rfl) (by kernel_rfl) (fun _ _ _ h => h) hHeld (Or.inr ⟨by rfl, rfl⟩) rfl ?_
              simp only [List.set_cons_zero, List.set_cons_succ]
              refine take_at (v := ?_) 30 60 rfl rfl (by kernel_rfl) (by kernel_rfl) (by kernel_rfl) (fun _ _ _ h => h) hHeld (Or.inl ⟨by rfl, ?_⟩) rfl ?_
              rotate_left
              · intro wq hSw
                go_simp
                try with_reducible rfl
              simp only [List.set_cons_zero, List.set_cons_succ]
              refine take_at (v := ?_) 31 61 rfl rfl (by kernel_rfl) (by kernel_rfl) (by kernel_rfl) (fun _ _ _ h => h) hHeld (Or.inl ⟨by rfl, ?_⟩) rfl ?_
              rotate_left
              · intro wq hSw
                go_simp
                try with_reducible rfl
              simp only [List.set_cons_zero, List.set_cons_succ]
              refine wpAnyH_done (by kernel_rfl) ?_ _
              go_wp2_with fail
              go_meet
              case rel => exact ⟨rfl, HX.out, HY.out, HZ.out, HT.out⟩
          case rest =>
            clear hX hY hZ hT lX cX0 cX1 lY cY0 cY1 lZ cZ0 cZ1
            obtain ⟨rfl, hX, hY, hZ, hT⟩ := hcut
            by_cases hf : Am.Fits f v g u
            · have HF := Lib.hid hf
              clear hf
              have lX := hX.load_agg (P := Try.prog) (t := 39) Try.underlying39 rfl (by kernel_rfl)
              have cX0 := hX.cell_at (i := 0) (v := .int .i64 f) rfl
              have cX1 := hX.cell_at (i := 1) (v := .int .i64 v) rfl
              have lY := hY.load_agg (P := Try.prog) (t := 39) Try.underlying39 rfl (by kernel_rfl)
              have cY0 := hY.cell_at (i := 0) (v := .int .i64 g) rfl
              have cY1 := hY.cell_at (i := 1) (v := .int .i64 u) rfl
              go_upto_region 9 with (first
                | (refine wpList_store_mid rfl 39 (.tmp 10) (.tmp 66) rfl w9.heap.size 0 #[.int .i64 (f + g), .int .i64 (v + u)] rfl rfl ((Has.fresh w9 39 #[.int .i64 0, .int .i64 0]).there 0 2 (Nat.le_refl _)) (by kernel_rfl) (two_one _ _ rfl rfl) ?_)
                | (refine wpList_load_run rfl 39 (.tmp 8) rfl _ _ rfl lY ?_)
                | (refine wpList_load_run rfl 39 (.tmp 7) rfl _ _ rfl lX ?_)
                | (go_at_call 16; refine (ok.with_ok f v g u _ HF.out).mono ?_; rintro e w9 ⟨rfl, hb9⟩))
              obtain ⟨wt, hwt⟩ : ∃ x, x = (w9.alloc (.cells #[.int .i64 0, .int .i64 0] 39)).setCells w9.heap.size 0 (#[.int .i64 (f + g), .int .i64 (v + u)] : Array Value).toList := ⟨_, rfl⟩
              have hM : Has wt w9.heap.size 39 #[.int .i64 (f + g), .int .i64 (v + u)] := by rw [hwt]; exact (Has.fresh w9 39 #[.int .i64 0, .int .i64 0]).whole_cs rfl
              have hbt : Below w9.heap.size w9 wt := by rw [hwt]; exact below_setAll (Nat.le_refl _) _ 0 ((Below.refl _ _).alloc (Nat.le_refl _) _)
              rw [← hwt]
              clear hwt
              obtain ⟨gm, hgm⟩ : ∃ x, x = w9.heap.size := ⟨_, rfl⟩
              rw [← hgm] at hM ⊢
              have hk := hb9.trans (hbt.mono hb9.size)
              have HM := Lib.hid (show gm ≠ gx ∧ gm ≠ gy by have := hX.lt; have := hY.lt; have := hb9.size; omega)
              replace hX := hX.under hk hX.lt
              replace hY := hY.under hk hY.lt
              replace hT := hT.trans (hk.mono hT.size)
              clear hk hbt hb9 hgm hZ lX cX0 cX1 lY cY0 cY1
              by_cases hs : c1 ≤ 0
              · have h0 : ¬ 0 < c1 := by omega
                obtain ⟨d1, d2, d3, HD, e2, e3, hdd⟩ := between_facts HC.out.1 HF hs
                have hp : ¬ 0 < d1 := by have := HC.out.1; have := HD.out.1; omega
                have lX := hX.load_agg (P := Try.prog) (t := 39) Try.underlying39 rfl (by kernel_rfl)
                have cX0 := hX.cell_at (i := 0) (v := .int .i64 f) rfl
                have cX1 := hX.cell_at (i := 1) (v := .int .i64 v) rfl
                have lY := hY.load_agg (P := Try.prog) (t := 39) Try.underlying39 rfl (by kernel_rfl)
                have cY0 := hY.cell_at (i := 0) (v := .int .i64 g) rfl
                have cY1 := hY.cell_at (i := 1) (v := .int .i64 u) rfl
                have lM := hM.load_agg (P := Try.prog) (t := 39) Try.underlying39 rfl (by kernel_rfl)
                have cM0 := hM.cell_at (i := 0) (v := .int .i64 (f + g)) rfl
                have cM1 := hM.cell_at (i := 1) (v := .int .i64 (v + u)) rfl
                by_cases hz : d1 = 0
                · subst hz
                  clear hdd
                  go_wp2_with (first
                    | (go_at_call 20; (with_reducible refine (ok.compare (f + g) (v + u) g u _).mono ?_); rw [← HD.out.2.2]; rintro e wk ⟨rfl, hk⟩; replace hX := hX.under hk hX.lt; replace hY := hY.under hk hY.lt; replace hM := hM.under hk hM.lt; replace hT := hT.trans (hk.mono hT.size); clear lX cX0 cX1 lY cY0 cY1 lM cM0 cM1 hk; have lX := hX.load_agg (P := Try.prog) (t := 39) Try.underlying39 rfl (by kernel_rfl); have cX0 := hX.cell_at (i := 0) (v := .int .i64 f) rfl; have cX1 := hX.cell_at (i := 1) (v := .int .i64 v) rfl; have lY := hY.load_agg (P := Try.prog) (t := 39) Try.underlying39 rfl (by kernel_rfl); have cY0 := hY.cell_at (i := 0) (v := .int .i64 g) rfl; have cY1 := hY.cell_at (i := 1) (v := .int .i64 u) rfl; have lM := hM.load_agg (P := Try.prog) (t := 39) Try.underlying39 rfl (by kernel_rfl); have cM0 := hM.cell_at (i := 0) (v := .int .i64 (f + g)) rfl; have cM1 := hM.cell_at (i := 1) (v := .int .i64 (v + u)) rfl)
                    | (go_at_call 20; (with_reducible refine (ok.compare f v (f + g) (v + u) _).mono ?_); rw [← HD.out.2.1]; rintro e wk ⟨rfl, hk⟩; replace hX := hX.under hk hX.lt; replace hY := hY.under hk hY.lt; replace hM := hM.under hk hM.lt; replace hT := hT.trans (hk.mono hT.size); clear lX cX0 cX1 lY cY0 cY1 lM cM0 cM1 hk; have lX := hX.load_agg (P := Try.prog) (t := 39) Try.underlying39 rfl (by kernel_rfl); have cX0 := hX.cell_at (i := 0) (v := .int .i64 f) rfl; have cX1 := hX.cell_at (i := 1) (v := .int .i64 v) rfl; have lY := hY.load_agg (P := Try.prog) (t := 39) Try.underlying39 rfl (by kernel_rfl); have cY0 := hY.cell_at (i := 0) (v := .int .i64 g) rfl; have cY1 := hY.cell_at (i := 1) (v := .int .i64 u) rfl; have lM := hM.load_agg (P := Try.prog) (t := 39) Try.underlying39 rfl (by kernel_rfl); have cM0 := hM.cell_at (i := 0) (v := .int .i64 (f + g)) rfl; have cM1 := hM.cell_at (i := 1) (v := .int .i64 (v + u)) rfl)
                    | (go_at_call 20; (with_reducible refine (ok.compare f v g u _).mono ?_); rw [← HD.out.1]; rintro e wk ⟨rfl, hk⟩; replace hX := hX.under hk hX.lt; replace hY := hY.under hk hY.lt; replace hM := hM.under hk hM.lt; replace hT := hT.trans (hk.mono hT.size); clear lX cX0 cX1 lY cY0 cY1 lM cM0 cM1 hk; have lX := hX.load_agg (P := Try.prog) (t := 39) Try.underlying39 rfl (by kernel_rfl); have cX0 := hX.cell_at (i := 0) (v := .int .i64 f) rfl; have cX1 := hX.cell_at (i := 1) (v := .int .i64 v) rfl; have lY := hY.load_agg (P := Try.prog) (t := 39) Try.underlying39 rfl (by kernel_rfl); have cY0 := hY.cell_at (i := 0) (v := .int .i64 g) rfl; have cY1 := hY.cell_at (i := 1) (v := .int .i64 u) rfl; have lM := hM.load_agg (P := Try.prog) (t := 39) Try.underlying39 rfl (by kernel_rfl); have cM0 := hM.cell_at (i := 0) (v := .int .i64 (f + g)) rfl; have cM1 := hM.cell_at (i := 1) (v := .int .i64 (v + u)) rfl))
                  go_ret
                  exact ⟨rfl, hT⟩
                · obtain ⟨i2, i3⟩ := hdd.out hz
                  go_wp2_with (first
                    | (go_at_call 20; (with_reducible refine (ok.compare (f + g) (v + u) g u _).mono ?_); rw [← HD.out.2.2]; rintro e wk ⟨rfl, hk⟩; replace hX := hX.under hk hX.lt; replace hY := hY.under hk hY.lt; replace hM := hM.under hk hM.lt; replace hT := hT.trans (hk.mono hT.size); clear lX cX0 cX1 lY cY0 cY1 lM cM0 cM1 hk; have lX := hX.load_agg (P := Try.prog) (t := 39) Try.underlying39 rfl (by kernel_rfl); have cX0 := hX.cell_at (i := 0) (v := .int .i64 f) rfl; have cX1 := hX.cell_at (i := 1) (v := .int .i64 v) rfl; have lY := hY.load_agg (P := Try.prog) (t := 39) Try.underlying39 rfl (by kernel_rfl); have cY0 := hY.cell_at (i := 0) (v := .int .i64 g) rfl; have cY1 := hY.cell_at (i := 1) (v := .int .i64 u) rfl; have lM := hM.load_agg (P := Try.prog) (t := 39) Try.underlying39 rfl (by kernel_rfl); have cM0 := hM.cell_at (i := 0) (v := .int .i64 (f + g)) rfl; have cM1 := hM.cell_at (i := 1) (v := .int .i64 (v + u)) rfl)
                    | (go_at_call 20; (with_reducible refine (ok.compare f v (f + g) (v + u) _).mono ?_); rw [← HD.out.2.1]; rintro e wk ⟨rfl, hk⟩; replace hX := hX.under hk hX.lt; replace hY := hY.under hk hY.lt; replace hM := hM.under hk hM.lt; replace hT := hT.trans (hk.mono hT.size); clear lX cX0 cX1 lY cY0 cY1 lM cM0 cM1 hk; have lX := hX.load_agg (P := Try.prog) (t := 39) Try.underlying39 rfl (by kernel_rfl); have cX0 := hX.cell_at (i := 0) (v := .int .i64 f) rfl; have cX1 := hX.cell_at (i := 1) (v := .int .i64 v) rfl; have lY := hY.load_agg (P := Try.prog) (t := 39) Try.underlying39 rfl (by kernel_rfl); have cY0 := hY.cell_at (i := 0) (v := .int .i64 g) rfl; have cY1 := hY.cell_at (i := 1) (v := .int .i64 u) rfl; have lM := hM.load_agg (P := Try.prog) (t := 39) Try.underlying39 rfl (by kernel_rfl); have cM0 := hM.cell_at (i := 0) (v := .int .i64 (f + g)) rfl; have cM1 := hM.cell_at (i := 1) (v := .int .i64 (v + u)) rfl)
                    | (go_at_call 20; (with_reducible refine (ok.compare f v g u _).mono ?_); rw [← HD.out.1]; rintro e wk ⟨rfl, hk⟩; replace hX := hX.under hk hX.lt; replace hY := hY.under hk hY.lt; replace hM := hM.under hk hM.lt; replace hT := hT.trans (hk.mono hT.size); clear lX cX0 cX1 lY cY0 cY1 lM cM0 cM1 hk; have lX := hX.load_agg (P := Try.prog) (t := 39) Try.underlying39 rfl (by kernel_rfl); have cX0 := hX.cell_at (i := 0) (v := .int .i64 f) rfl; have cX1 := hX.cell_at (i := 1) (v := .int .i64 v) rfl; have lY := hY.load_agg (P := Try.prog) (t := 39) Try.underlying39 rfl (by kernel_rfl); have cY0 := hY.cell_at (i := 0) (v := .int .i64 g) rfl; have cY1 := hY.cell_at (i := 1) (v := .int .i64 u) rfl; have lM := hM.load_agg (P := Try.prog) (t := 39) Try.underlying39 rfl (by kernel_rfl); have cM0 := hM.cell_at (i := 0) (v := .int .i64 (f + g)) rfl; have cM1 := hM.cell_at (i := 1) (v := .int .i64 (v + u)) rfl))
                  go_ret
                  exact ⟨rfl, hT⟩
              · have h0 : 0 < c1 := by omega
                obtain ⟨d1, d2, d3, HD, e2, e3, hdd⟩ := between_facts' HC.out.1 HF h0
                have lX := hX.load_agg (P := Try.prog) (t := 39) Try.underlying39 rfl (by kernel_rfl)
                have cX0 := hX.cell_at (i := 0) (v := .int .i64 f) rfl
                have cX1 := hX.cell_at (i := 1) (v := .int .i64 v) rfl
                have lY := hY.load_agg (P := Try.prog) (t := 39) Try.underlying39 rfl (by kernel_rfl)
                have cY0 := hY.cell_at (i := 0) (v := .int .i64 g) rfl
                have cY1 := hY.cell_at (i := 1) (v := .int .i64 u) rfl
                go_upto_region 12 with (first
                  | (go_at_call 20; (with_reducible refine (ok.compare f v g u _).mono ?_); rw [← HC.out.1]; rintro e wk ⟨rfl, hk⟩; replace hX := hX.under hk hX.lt; replace hY := hY.under hk hY.lt; replace hM := hM.under hk hM.lt; replace hT := hT.trans (hk.mono hT.size); clear lX cX0 cX1 lY cY0 cY1 hk; have lX := hX.load_agg (P := Try.prog) (t := 39) Try.underlying39 rfl (by kernel_rfl); have cX0 := hX.cell_at (i := 0) (v := .int .i64 f) rfl; have cX1 := hX.cell_at (i := 1) (v := .int .i64 v) rfl; have lY := hY.load_agg (P := Try.prog) (t := 39) Try.underlying39 rfl (by kernel_rfl); have cY0 := hY.cell_at (i := 0) (v := .int .i64 g) rfl; have cY1 := hY.cell_at (i := 1) (v := .int .i64 u) rfl))
                go_upto_region 13 with (first
                  | (refine wpList_store_mid rfl 39 (.tmp 8) (.tmp 75) rfl gy 0 #[.int .i64 f, .int .i64 v] rfl rfl (hY.there 0 2 (Nat.le_refl _)) (by kernel_rfl) (two_one _ _ rfl rfl) ?_)
                  | (refine wpList_store_mid rfl 39 (.tmp 7) (.tmp 74) rfl gx 0 #[.int .i64 g, .int .i64 u] rfl rfl (hX.there 0 2 (Nat.le_refl _)) (by kernel_rfl) (two_one _ _ rfl rfl) ?_; obtain ⟨wp, hwp⟩ : ∃ x, x = wk.setCells gx 0 (#[.int .i64 g, .int .i64 u] : Array Value).toList := ⟨_, rfl⟩; rw [← hwp]; replace hX : Has wp gx 39 #[.int .i64 g, .int .i64 u] := (by rw [hwp]; exact hX.whole_cs rfl); replace hY : Has wp gy 39 #[.int .i64 g, .int .i64 u] := (by rw [hwp]; exact hY.asideAll (fun e => HNE.out.1 e.symm) _ 0); replace hM : Has wp gm 39 #[.int .i64 (f + g), .int .i64 (v + u)] := (by rw [hwp]; exact hM.asideAll HM.out.1 _ 0); replace hT : Below W.heap.size W wp := (by rw [hwp]; exact below_setAll HSZ.out.1 _ 0 hT); clear hwp))
                obtain ⟨wk, hwk⟩ : ∃ x, x = wp.setCells gy 0 (#[.int .i64 f, .int .i64 v] : Array Value).toList := ⟨_, rfl⟩
                rw [← hwk]
                replace hX : Has wk gx 39 #[.int .i64 g, .int .i64 u] := by rw [hwk]; exact hX.asideAll HNE.out.1 _ 0
                replace hY : Has wk gy 39 #[.int .i64 f, .int .i64 v] := by rw [hwk]; exact hY.whole_cs rfl
                replace hM : Has wk gm 39 #[.int .i64 (f + g), .int .i64 (v + u)] := by rw [hwk]; exact hM.asideAll HM.out.2 _ 0
                replace hT : Below W.heap.size W wk := by rw [hwk]; exact below_setAll HSZ.out.2 _ 0 hT
                clear hwk lX cX0 cX1 lY cY0 cY1
                have lX := hX.load_agg (P := Try.prog) (t := 39) Try.underlying39 rfl (by kernel_rfl)
                have cX0 := hX.cell_at (i := 0) (v := .int .i64 g) rfl
                have cX1 := hX.cell_at (i := 1) (v := .int .i64 u) rfl
                have lY := hY.load_agg (P := Try.prog) (t := 39) Try.underlying39 rfl (by kernel_rfl)
                have cY0 := hY.cell_at (i := 0) (v := .int .i64 f) rfl
                have cY1 := hY.cell_at (i := 1) (v := .int .i64 v) rfl
                have lM := hM.load_agg (P := Try.prog) (t := 39) Try.underlying39 rfl (by kernel_rfl)
                have cM0 := hM.cell_at (i := 0) (v := .int .i64 (f + g)) rfl
                have cM1 := hM.cell_at (i := 1) (v := .int .i64 (v + u)) rfl
                by_cases hz : d1 = 0
                · subst hz
                  clear hdd
                  go_wp2_with (first
                    | (go_at_call 20; (with_reducible refine (ok.compare (f + g) (v + u) f v _).mono ?_); rw [← HD.out.2.2]; rintro e wk ⟨rfl, hk⟩; replace hX := hX.under hk hX.lt; replace hY := hY.under hk hY.lt; replace hM := hM.under hk hM.lt; replace hT := hT.trans (hk.mono hT.size); clear lX cX0 cX1 lY cY0 cY1 lM cM0 cM1 hk; have lX := hX.load_agg (P := Try.prog) (t := 39) Try.underlying39 rfl (by kernel_rfl); have cX0 := hX.cell_at (i := 0) (v := .int .i64 g) rfl; have cX1 := hX.cell_at (i := 1) (v := .int .i64 u) rfl; have lY := hY.load_agg (P := Try.prog) (t := 39) Try.underlying39 rfl (by kernel_rfl); have cY0 := hY.cell_at (i := 0) (v := .int .i64 f) rfl; have cY1 := hY.cell_at (i := 1) (v := .int .i64 v) rfl; have lM := hM.load_agg (P := Try.prog) (t := 39) Try.underlying39 rfl (by kernel_rfl); have cM0 := hM.cell_at (i := 0) (v := .int .i64 (f + g)) rfl; have cM1 := hM.cell_at (i := 1) (v := .int .i64 (v + u)) rfl)
                    | (go_at_call 20; (with_reducible refine (ok.compare g u (f + g) (v + u) _).mono ?_); rw [← HD.out.2.1]; rintro e wk ⟨rfl, hk⟩; replace hX := hX.under hk hX.lt; replace hY := hY.under hk hY.lt; replace hM := hM.under hk hM.lt; replace hT := hT.trans (hk.mono hT.size); clear lX cX0 cX1 lY cY0 cY1 lM cM0 cM1 hk; have lX := hX.load_agg (P := Try.prog) (t := 39) Try.underlying39 rfl (by kernel_rfl); have cX0 := hX.cell_at (i := 0) (v := .int .i64 g) rfl; have cX1 := hX.cell_at (i := 1) (v := .int .i64 u) rfl; have lY := hY.load_agg (P := Try.prog) (t := 39) Try.underlying39 rfl (by kernel_rfl); have cY0 := hY.cell_at (i := 0) (v := .int .i64 f) rfl; have cY1 := hY.cell_at (i := 1) (v := .int .i64 v) rfl; have lM := hM.load_agg (P := Try.prog) (t := 39) Try.underlying39 rfl (by kernel_rfl); have cM0 := hM.cell_at (i := 0) (v := .int .i64 (f + g)) rfl; have cM1 := hM.cell_at (i := 1) (v := .int .i64 (v + u)) rfl)
                    | (go_at_call 20; (with_reducible refine (ok.compare g u f v _).mono ?_); rw [← HD.out.1]; rintro e wk ⟨rfl, hk⟩; replace hX := hX.under hk hX.lt; replace hY := hY.under hk hY.lt; replace hM := hM.under hk hM.lt; replace hT := hT.trans (hk.mono hT.size); clear lX cX0 cX1 lY cY0 cY1 lM cM0 cM1 hk; have lX := hX.load_agg (P := Try.prog) (t := 39) Try.underlying39 rfl (by kernel_rfl); have cX0 := hX.cell_at (i := 0) (v := .int .i64 g) rfl; have cX1 := hX.cell_at (i := 1) (v := .int .i64 u) rfl; have lY := hY.load_agg (P := Try.prog) (t := 39) Try.underlying39 rfl (by kernel_rfl); have cY0 := hY.cell_at (i := 0) (v := .int .i64 f) rfl; have cY1 := hY.cell_at (i := 1) (v := .int .i64 v) rfl; have lM := hM.load_agg (P := Try.prog) (t := 39) Try.underlying39 rfl (by kernel_rfl); have cM0 := hM.cell_at (i := 0) (v := .int .i64 (f + g)) rfl; have cM1 := hM.cell_at (i := 1) (v := .int .i64 (v + u)) rfl))
                  go_ret
                  exact ⟨rfl, hT⟩
                · obtain ⟨i2, i3⟩ := hdd.out hz
                  go_wp2_with (first
                    | (go_at_call 20; (with_reducible refine (ok.compare (f + g) (v + u) f v _).mono ?_); rw [← HD.out.2.2]; rintro e wk ⟨rfl, hk⟩; replace hX := hX.under hk hX.lt; replace hY := hY.under hk hY.lt; replace hM := hM.under hk hM.lt; replace hT := hT.trans (hk.mono hT.size); clear lX cX0 cX1 lY cY0 cY1 lM cM0 cM1 hk; have lX := hX.load_agg (P := Try.prog) (t := 39) Try.underlying39 rfl (by kernel_rfl); have cX0 := hX.cell_at (i := 0) (v := .int .i64 g) rfl; have cX1 := hX.cell_at (i := 1) (v := .int .i64 u) rfl; have lY := hY.load_agg (P := Try.prog) (t := 39) Try.underlying39 rfl (by kernel_rfl); have cY0 := hY.cell_at (i := 0) (v := .int .i64 f) rfl; have cY1 := hY.cell_at (i := 1) (v := .int .i64 v) rfl; have lM := hM.load_agg (P := Try.prog) (t := 39) Try.underlying39 rfl (by kernel_rfl); have cM0 := hM.cell_at (i := 0) (v := .int .i64 (f + g)) rfl; have cM1 := hM.cell_at (i := 1) (v := .int .i64 (v + u)) rfl)
                    | (go_at_call 20; (with_reducible refine (ok.compare g u (f + g) (v + u) _).mono ?_); rw [← HD.out.2.1]; rintro e wk ⟨rfl, hk⟩; replace hX := hX.under hk hX.lt; replace hY := hY.under hk hY.lt; replace hM := hM.under hk hM.lt; replace hT := hT.trans (hk.mono hT.size); clear lX cX0 cX1 lY cY0 cY1 lM cM0 cM1 hk; have lX := hX.load_agg (P := Try.prog) (t := 39) Try.underlying39 rfl (by kernel_rfl); have cX0 := hX.cell_at (i := 0) (v := .int .i64 g) rfl; have cX1 := hX.cell_at (i := 1) (v := .int .i64 u) rfl; have lY := hY.load_agg (P := Try.prog) (t := 39) Try.underlying39 rfl (by kernel_rfl); have cY0 := hY.cell_at (i := 0) (v := .int .i64 f) rfl; have cY1 := hY.cell_at (i := 1) (v := .int .i64 v) rfl; have lM := hM.load_agg (P := Try.prog) (t := 39) Try.underlying39 rfl (by kernel_rfl); have cM0 := hM.cell_at (i := 0) (v := .int .i64 (f + g)) rfl; have cM1 := hM.cell_at (i := 1) (v := .int .i64 (v + u)) rfl)
                    | (go_at_call 20; (with_reducible refine (ok.compare g u f v _).mono ?_); rw [← HD.out.1]; rintro e wk ⟨rfl, hk⟩; replace hX := hX.under hk hX.lt; replace hY := hY.under hk hY.lt; replace hM := hM.under hk hM.lt; replace hT := hT.trans (hk.mono hT.size); clear lX cX0 cX1 lY cY0 cY1 lM cM0 cM1 hk; have lX := hX.load_agg (P := Try.prog) (t := 39) Try.underlying39 rfl (by kernel_rfl); have cX0 := hX.cell_at (i := 0) (v := .int .i64 g) rfl; have cX1 := hX.cell_at (i := 1) (v := .int .i64 u) rfl; have lY := hY.load_agg (P := Try.prog) (t := 39) Try.underlying39 rfl (by kernel_rfl); have cY0 := hY.cell_at (i := 0) (v := .int .i64 f) rfl; have cY1 := hY.cell_at (i := 1) (v := .int .i64 v) rfl; have lM := hM.load_agg (P := Try.prog) (t := 39) Try.underlying39 rfl (by kernel_rfl); have cM0 := hM.cell_at (i := 0) (v := .int .i64 (f + g)) rfl; have cM1 := hM.cell_at (i := 1) (v := .int .i64 (v + u)) rfl))
                  go_ret
                  exact ⟨rfl, hT⟩
            · have HF := Lib.hid hf
              clear hf
              have lX := hX.load_agg (P := Try.prog) (t := 39) Try.underlying39 rfl (by kernel_rfl)
              have cX0 := hX.cell_at (i := 0) (v := .int .i64 f) rfl
              have cX1 := hX.cell_at (i := 1) (v := .int .i64 v) rfl
              have lY := hY.load_agg (P := Try.prog) (t := 39) Try.underlying39 rfl (by kernel_rfl)
              have cY0 := hY.cell_at (i := 0) (v := .int .i64 g) rfl
              have cY1 := hY.cell_at (i := 1) (v := .int .i64 u) rfl
              go_upto_region 9 with (first
                | (refine wpList_store_mid rfl 39 (.tmp 10) (.tmp 66) rfl w9.heap.size 0 #[.int .i64 0, .int .i64 0] rfl rfl ((Has.fresh w9 39 #[.int .i64 0, .int .i64 0]).there 0 2 (Nat.le_refl _)) (by kernel_rfl) (two_one _ _ rfl rfl) ?_)
                | (refine wpList_load_run rfl 39 (.tmp 8) rfl _ _ rfl lY ?_)
                | (refine wpList_load_run rfl 39 (.tmp 7) rfl _ _ rfl lX ?_)
                | (go_at_call 16; refine (ok.with_no f v g u _ HF.out).mono ?_; rintro e w9 ⟨rfl, hb9⟩))
              obtain ⟨wt, hwt⟩ : ∃ x, x = (w9.alloc (.cells #[.int .i64 0, .int .i64 0] 39)).setCells w9.heap.size 0 (#[.int .i64 0, .int .i64 0] : Array Value).toList := ⟨_, rfl⟩
              have hM : Has wt w9.heap.size 39 #[.int .i64 0, .int .i64 0] := by rw [hwt]; exact (Has.fresh w9 39 #[.int .i64 0, .int .i64 0]).whole_cs rfl
              have hbt : Below w9.heap.size w9 wt := by rw [hwt]; exact below_setAll (Nat.le_refl _) _ 0 ((Below.refl _ _).alloc (Nat.le_refl _) _)
              rw [← hwt]
              clear hwt
              obtain ⟨gm, hgm⟩ : ∃ x, x = w9.heap.size := ⟨_, rfl⟩
              rw [← hgm] at hM ⊢
              have hk := hb9.trans (hbt.mono hb9.size)
              have HM := Lib.hid (show gm ≠ gx ∧ gm ≠ gy by have := hX.lt; have := hY.lt; have := hb9.size; omega)
              replace hX := hX.under hk hX.lt
              replace hY := hY.under hk hY.lt
              replace hT := hT.trans (hk.mono hT.size)
              clear hk hbt hb9 hgm hZ lX cX0 cX1 lY cY0 cY1
              go_wp2_with fail
              go_ret
              exact ⟨rfl, hT⟩
        · have GC := Lib.hid hc
          clear ha hb hc
          have lX := hX.load_agg (P := Try.prog) (t := 39) Try.underlying39 rfl (by kernel_rfl)
          have cX0 := hX.cell_at (i := 0) (v := .int .i64 f) rfl
          have cX1 := hX.cell_at (i := 1) (v := .int .i64 v) rfl
          have lY := hY.load_agg (P := Try.prog) (t := 39) Try.underlying39 rfl (by kernel_rfl)
          have cY0 := hY.cell_at (i := 0) (v := .int .i64 g) rfl
          have cY1 := hY.cell_at (i := 1) (v := .int .i64 u) rfl
          have lZ := hZ.load_agg (P := Try.prog) (t := 39) Try.underlying39 rfl (by kernel_rfl)
          have cZ0 := hZ.cell_at (i := 0) (v := .int .i64 h) rfl
          have cZ1 := hZ.cell_at (i := 1) (v := .int .i64 k) rfl
          go_wp2_with (first
            | (go_at_call 18; (with_reducible refine (ok.right h k false _ ⟨fun e => absurd e Bool.false_ne_true, fun e => absurd e GC.out⟩).mono ?_); rintro e wk ⟨rfl, hk⟩; replace hX := hX.under hk hX.lt; replace hY := hY.under hk hY.lt; replace hZ := hZ.under hk hZ.lt; replace hT := hT.trans (hk.mono hT.size); clear lX cX0 cX1 lY cY0 cY1 lZ cZ0 cZ1 hk; have lX := hX.load_agg (P := Try.prog) (t := 39) Try.underlying39 rfl (by kernel_rfl); have cX0 := hX.cell_at (i := 0) (v := .int .i64 f) rfl; have cX1 := hX.cell_at (i := 1) (v := .int .i64 v) rfl; have lY := hY.load_agg (P := Try.prog) (t := 39) Try.underlying39 rfl (by kernel_rfl); have cY0 := hY.cell_at (i := 0) (v := .int .i64 g) rfl; have cY1 := hY.cell_at (i := 1) (v := .int .i64 u) rfl; have lZ := hZ.load_agg (P := Try.prog) (t := 39) Try.underlying39 rfl (by kernel_rfl); have cZ0 := hZ.cell_at (i := 0) (v := .int .i64 h) rfl; have cZ1 := hZ.cell_at (i := 1) (v := .int .i64 k) rfl)
            | (go_at_call 18; (with_reducible refine (ok.right g u true _ ⟨fun _ => GB.out, fun _ => rfl⟩).mono ?_); rintro e wk ⟨rfl, hk⟩; replace hX := hX.under hk hX.lt; replace hY := hY.under hk hY.lt; replace hZ := hZ.under hk hZ.lt; replace hT := hT.trans (hk.mono hT.size); clear lX cX0 cX1 lY cY0 cY1 lZ cZ0 cZ1 hk; have lX := hX.load_agg (P := Try.prog) (t := 39) Try.underlying39 rfl (by kernel_rfl); have cX0 := hX.cell_at (i := 0) (v := .int .i64 f) rfl; have cX1 := hX.cell_at (i := 1) (v := .int .i64 v) rfl; have lY := hY.load_agg (P := Try.prog) (t := 39) Try.underlying39 rfl (by kernel_rfl); have cY0 := hY.cell_at (i := 0) (v := .int .i64 g) rfl; have cY1 := hY.cell_at (i := 1) (v := .int .i64 u) rfl; have lZ := hZ.load_agg (P := Try.prog) (t := 39) Try.underlying39 rfl (by kernel_rfl); have cZ0 := hZ.cell_at (i := 0) (v := .int .i64 h) rfl; have cZ1 := hZ.cell_at (i := 1) (v := .int .i64 k) rfl)
            | (go_at_call 18; (with_reducible refine (ok.right f v true _ ⟨fun _ => GA.out, fun _ => rfl⟩).mono ?_); rintro e wk ⟨rfl, hk⟩; replace hX := hX.under hk hX.lt; replace hY := hY.under hk hY.lt; replace hZ := hZ.under hk hZ.lt; replace hT := hT.trans (hk.mono hT.size); clear lX cX0 cX1 lY cY0 cY1 lZ cZ0 cZ1 hk; have lX := hX.load_agg (P := Try.prog) (t := 39) Try.underlying39 rfl (by kernel_rfl); have cX0 := hX.cell_at (i := 0) (v := .int .i64 f) rfl; have cX1 := hX.cell_at (i := 1) (v := .int .i64 v) rfl; have lY := hY.load_agg (P := Try.prog) (t := 39) Try.underlying39 rfl (by kernel_rfl); have cY0 := hY.cell_at (i := 0) (v := .int .i64 g) rfl; have cY1 := hY.cell_at (i := 1) (v := .int .i64 u) rfl; have lZ := hZ.load_agg (P := Try.prog) (t := 39) Try.underlying39 rfl (by kernel_rfl); have cZ0 := hZ.cell_at (i := 0) (v := .int .i64 h) rfl; have cZ1 := hZ.cell_at (i := 1) (v := .int .i64 k) rfl)
            | (refine wpList_load_run rfl 39 (.tmp 7) rfl _ _ rfl lX ?_)
            | (refine wpList_load_run rfl 39 (.tmp 8) rfl _ _ rfl lY ?_)
            | (refine wpList_load_run rfl 39 (.tmp 9) rfl _ _ rfl lZ ?_))
          go_ret
          exact ⟨rfl, hT⟩
      · have GB := Lib.hid hb
        clear ha hb
        have lX := hX.load_agg (P := Try.prog) (t := 39) Try.underlying39 rfl (by kernel_rfl)
        have cX0 := hX.cell_at (i := 0) (v := .int .i64 f) rfl
        have cX1 := hX.cell_at (i := 1) (v := .int .i64 v) rfl
        have lY := hY.load_agg (P := Try.prog) (t := 39) Try.underlying39 rfl (by kernel_rfl)
        have cY0 := hY.cell_at (i := 0) (v := .int .i64 g) rfl
        have cY1 := hY.cell_at (i := 1) (v := .int .i64 u) rfl
        have lZ := hZ.load_agg (P := Try.prog) (t := 39) Try.underlying39 rfl (by kernel_rfl)
        have cZ0 := hZ.cell_at (i := 0) (v := .int .i64 h) rfl
        have cZ1 := hZ.cell_at (i := 1) (v := .int .i64 k) rfl
        go_wp2_with (first
          | (go_at_call 18; (with_reducible refine (ok.right g u false _ ⟨fun e => absurd e Bool.false_ne_true, fun e => absurd e GB.out⟩).mono ?_); rintro e wk ⟨rfl, hk⟩; replace hX := hX.under hk hX.lt; replace hY := hY.under hk hY.lt; replace hZ := hZ.under hk hZ.lt; replace hT := hT.trans (hk.mono hT.size); clear lX cX0 cX1 lY cY0 cY1 lZ cZ0 cZ1 hk; have lX := hX.load_agg (P := Try.prog) (t := 39) Try.underlying39 rfl (by kernel_rfl); have cX0 := hX.cell_at (i := 0) (v := .int .i64 f) rfl; have cX1 := hX.cell_at (i := 1) (v := .int .i64 v) rfl; have lY := hY.load_agg (P := Try.prog) (t := 39) Try.underlying39 rfl (by kernel_rfl); have cY0 := hY.cell_at (i := 0) (v := .int .i64 g) rfl; have cY1 := hY.cell_at (i := 1) (v := .int .i64 u) rfl; have lZ := hZ.load_agg (P := Try.prog) (t := 39) Try.underlying39 rfl (by kernel_rfl); have cZ0 := hZ.cell_at (i := 0) (v := .int .i64 h) rfl; have cZ1 := hZ.cell_at (i := 1) (v := .int .i64 k) rfl)
          | (go_at_call 18; (with_reducible refine (ok.right f v true _ ⟨fun _ => GA.out, fun _ => rfl⟩).mono ?_); rintro e wk ⟨rfl, hk⟩; replace hX := hX.under hk hX.lt; replace hY := hY.under hk hY.lt; replace hZ := hZ.under hk hZ.lt; replace hT := hT.trans (hk.mono hT.size); clear lX cX0 cX1 lY cY0 cY1 lZ cZ0 cZ1 hk; have lX := hX.load_agg (P := Try.prog) (t := 39) Try.underlying39 rfl (by kernel_rfl); have cX0 := hX.cell_at (i := 0) (v := .int .i64 f) rfl; have cX1 := hX.cell_at (i := 1) (v := .int .i64 v) rfl; have lY := hY.load_agg (P := Try.prog) (t := 39) Try.underlying39 rfl (by kernel_rfl); have cY0 := hY.cell_at (i := 0) (v := .int .i64 g) rfl; have cY1 := hY.cell_at (i := 1) (v := .int .i64 u) rfl; have lZ := hZ.load_agg (P := Try.prog) (t := 39) Try.underlying39 rfl (by kernel_rfl); have cZ0 := hZ.cell_at (i := 0) (v := .int .i64 h) rfl; have cZ1 := hZ.cell_at (i := 1) (v := .int .i64 k) rfl)
          | (refine wpList_load_run rfl 39 (.tmp 7) rfl _ _ rfl lX ?_)
          | (refine wpList_load_run rfl 39 (.tmp 8) rfl _ _ rfl lY ?_)
          | (refine wpList_load_run rfl 39 (.tmp 9) rfl _ _ rfl lZ ?_))
        go_ret
        exact ⟨rfl, hT⟩
    · have GA := Lib.hid ha
      clear ha
      have lX := hX.load_agg (P := Try.prog) (t := 39) Try.underlying39 rfl (by kernel_rfl)
      have cX0 := hX.cell_at (i := 0) (v := .int .i64 f) rfl
      have cX1 := hX.cell_at (i := 1) (v := .int .i64 v) rfl
      have lY := hY.load_agg (P := Try.prog) (t := 39) Try.underlying39 rfl (by kernel_rfl)
      have cY0 := hY.cell_at (i := 0) (v := .int .i64 g) rfl
      have cY1 := hY.cell_at (i := 1) (v := .int .i64 u) rfl
      have lZ := hZ.load_agg (P := Try.prog) (t := 39) Try.underlying39 rfl (by kernel_rfl)
      have cZ0 := hZ.cell_at (i := 0) (v := .int .i64 h) rfl
      have cZ1 := hZ.cell_at (i := 1) (v := .int .i64 k) rfl
      go_wp2_with (first
        | (go_at_call 18; (with_reducible refine (ok.right f v false _ ⟨fun e => absurd e Bool.false_ne_true, fun e => absurd e GA.out⟩).mono ?_); rintro e wk ⟨rfl, hk⟩; replace hX := hX.under hk hX.lt; replace hY := hY.under hk hY.lt; replace hZ := hZ.under hk hZ.lt; replace hT := hT.trans (hk.mono hT.size); clear lX cX0 cX1 lY cY0 cY1 lZ cZ0 cZ1 hk; have lX := hX.load_agg (P := Try.prog) (t := 39) Try.underlying39 rfl (by kernel_rfl); have cX0 := hX.cell_at (i := 0) (v := .int .i64 f) rfl; have cX1 := hX.cell_at (i := 1) (v := .int .i64 v) rfl; have lY := hY.load_agg (P := Try.prog) (t := 39) Try.underlying39 rfl (by kernel_rfl); have cY0 := hY.cell_at (i := 0) (v := .int .i64 g) rfl; have cY1 := hY.cell_at (i := 1) (v := .int .i64 u) rfl; have lZ := hZ.load_agg (P := Try.prog) (t := 39) Try.underlying39 rfl (by kernel_rfl); have cZ0 := hZ.cell_at (i := 0) (v := .int .i64 h) rfl; have cZ1 := hZ.cell_at (i := 1) (v := .int .i64 k) rfl)
        | (refine wpList_load_run rfl 39 (.tmp 7) rfl _ _ rfl lX ?_)
        | (refine wpList_load_run rfl 39 (.tmp 8) rfl _ _ rfl lY ?_)
        | (refine wpList_load_run rfl 39 (.tmp 9) rfl _ _ rfl lZ ?_))
      go_ret
      exact ⟨rfl, hT⟩
theorem amountOrdersWalkK (ok : AmountOk) {H : Type} {enc : TypeId × Value → H} (W : World) (base : Nat) (v0 : Value) (d0 : DataW H) (p0 : List MemPlace) (v1 : Value) (d1 : DataW H) (p1 : List MemPlace) (v2 : Value) (d2 : DataW H) (p2 : List MemPlace)
    (o0 : Value.okWide Try.prog W .any base 38 v0) (o1 : Value.okWide Try.prog W .any base 38 v1) (o2 : Value.okWide Try.prog W .any base 38 v2)
    (h0 : DataW.Trod enc Try.prog W 0 (fun _ => true) true 38 v0 d0 p0) (h1 : DataW.Trod enc Try.prog W 0 (fun _ => true) true 38 v1 d1 p1) (h2 : DataW.Trod enc Try.prog W 0 (fun _ => true) true 38 v2 d2 p2) :
    Calls Try.prog 6 #[v0, v1, v2] W fun e w' => e = .returned (.bool true) ∧ Below W.heap.size W w' := by
  obtain ⟨cs, rfl, hl, hf⟩ := arg_fields Try.underlying38 (by kernel_rfl) (by kernel_rfl) o0 h0
  obtain ⟨ds, rfl, hl2, hf2⟩ := arg_fields Try.underlying38 (by kernel_rfl) (by kernel_rfl) o1 h1
  obtain ⟨es, rfl, hl3, hf3⟩ := arg_fields Try.underlying38 (by kernel_rfl) (by kernel_rfl) o2 h2
  match cs, hl, ds, hl2, es, hl3 with
  | [b0, b1], _, [c0, c1], _, [e0, e1], _ =>
    obtain ⟨n0, y0, t0⟩ := hf 0 _ b0 rfl rfl
    obtain ⟨n1, y1, t1⟩ := hf 1 _ b1 rfl rfl
    obtain ⟨f, rfl, _⟩ := field_int Try.underlying3 t0
    obtain ⟨v, rfl, _⟩ := field_int Try.underlying3 t1
    obtain ⟨n2, y2, t2⟩ := hf2 0 _ c0 rfl rfl
    obtain ⟨n3, y3, t3⟩ := hf2 1 _ c1 rfl rfl
    obtain ⟨g, rfl, _⟩ := field_int Try.underlying3 t2
    obtain ⟨u, rfl, _⟩ := field_int Try.underlying3 t3
    obtain ⟨n4, y4, t4⟩ := hf3 0 _ e0 rfl rfl
    obtain ⟨n5, y5, t5⟩ := hf3 1 _ e1 rfl rfl
    obtain ⟨h, rfl, _⟩ := field_int Try.underlying3 t4
    obtain ⟨k, rfl, _⟩ := field_int Try.underlying3 t5
    exact ordersMain ok W f v g u h k
end Go.Proofs.Ytcbbjhcejlmmlaa
