/- what the rows list of package-level tables (as digest's DgL, over fewer texts) · TxBytes (mktxy.py) · TxBytes: the walk -/
import Derived.Test.YtpbijcchdjppmaaDoorRows
import Derived.Test.YtpbijcchdjppmaaDoorDgD
import Derived.Test.YtpbijcchdjppmaaDoorTxV
import Derived.Test.YtpbijcchdjppmaaDoorRdz
/-! what the rows list of package-level tables (as digest's DgL, over fewer texts) -/
namespace Go.Proofs.YtpbijcchdjppmaaDoor
open Go Go.RowKit Go.ChangeShapes Go.WideShapes
theorem tlaid_dg {W : World} {ps : List MemPlace} (h : DataW.LaidVars Tryd.prog W [("gossamer/digest.start", Rows.laid_gossamer_digest_start), ("gossamer/digest.constants", Rows.laid_gossamer_digest_constants)] ps) : KDg W := by
  obtain ⟨h1, q, h2⟩ := laid_tab (g := 0) (t := 104) (e := 103) (k := 8) (l := Dg.startL) h (by kernel_rfl) (by kernel_rfl) Tryd.underlying104 Tryd.underlying103 (by kernel_rfl) rfl
  obtain ⟨h3, _⟩ := laid_tab (g := 2) (t := 111) (e := 103) (k := 64) (l := Dg.kL) h2 (by kernel_rfl) (by kernel_rfl) Tryd.underlying111 Tryd.underlying103 (by kernel_rfl) rfl
  exact ⟨h3, h1⟩
theorem tlaid_dg2 {W : World} (h : laidMetH Tryd.prog [("gossamer/digest.start", Rows.laid_gossamer_digest_start), ("gossamer/digest.constants", Rows.laid_gossamer_digest_constants)] W) : KDg W := by
  rw [MakeChecks.laidMetH_plain _ _ _ (by kernel_rfl)] at h
  obtain ⟨ps, h, _⟩ := h
  exact tlaid_dg h
theorem tlaid_dg3 {W : World} (h : laidMetH Tryd.prog [("gossamer/gossamerref07.k", Rows.laid_gossamer_gossamerref07_k), ("gossamer/digest.start", Rows.laid_gossamer_digest_start), ("gossamer/digest.constants", Rows.laid_gossamer_digest_constants)] W) : KDg W ∧ Tab32 W 1 Dg.kL := by
  rw [MakeChecks.laidMetH_plain _ _ _ (by kernel_rfl)] at h
  obtain ⟨ps, h, _⟩ := h
  obtain ⟨h1, q, h2⟩ := laid_tab (g := 1) (t := 111) (e := 103) (k := 64) (l := Dg.kL) h (by kernel_rfl) (by kernel_rfl) Tryd.underlying111 Tryd.underlying103 (by kernel_rfl) rfl
  exact ⟨tlaid_dg h2, h1⟩
end Go.Proofs.YtpbijcchdjppmaaDoor

/-! TxBytes (mktxy.py) -/
namespace Go.Proofs.YtpbijcchdjppmaaDoor
open Go Go.RowKit Go.ChangeShapes Go.WideShapes
theorem yieldsIf_build_pt {ops : Array Oper} {S : World → Prop} {op : Oper} {a : Act} (hw : Region.wanted op (yielded ops a.tmps) = true) (x y : Operand) (ho : op.op = .build 36 #[(0, x), (1, y)]) (D : List (BitVec 8)) (z : Int)
    (hx : a.eval x = .agg (blist D).toArray) (hy : a.eval y = .int .i64 z) (hD : D.length = 32) : YieldsIf Tryd.prog ops S op (.agg (ptCells D z).toArray) a :=
  .inl ⟨hw, fun w _ => by
    have hr := run_build (P := Tryd.prog) w 36 #[(0, .agg (blist D).toArray), (1, .int .i64 z)] _ (built_pt D hD z)
    unfold execOp
    simp only [ho, List.map_toArray, List.map_cons, List.map_nil, hx, hy, Sem.run_bind, Sem.run_pure, Result.andThen_ok, hr]⟩
theorem Am.total_good : ∀ (l : List Int) (s : Int), (Am.total l s).2 = 0 → ∀ v, v ∈ l → Am.Good v
  | [], _, _, v, hv => by cases hv
  | z :: l, s, h, v, hv => by
    unfold Am.total at h
    split at h
    · split at h
      · rcases List.mem_cons.1 hv with rfl | hv
        · assumption
        · exact Am.total_good l _ h v hv
      · cases h
    · cases h
theorem Tx.read_good (t : Tx.T) (h : Tx.check t = 0) (hh : ∀ s, s ∈ t.sp → s.h.length = 32) (hco : ∀ c, c ∈ t.co → Tx.CoOk c) : Tx.rdOk (Tx.enc true t) ∧ Tx.rdV (Tx.enc true t) = t := by
  unfold Tx.check at h
  split at h
  · next hs =>
    split at h
    · next hb =>
      split at h
      · next ht =>
        have h1 := Tx.read_enc t hs.2.1 hs.2.2.2 (fun s hx => by
          have h2 := hb s hx
          unfold Tx.badSp at h2
          exact ⟨hh s hx, by omega, by omega, by omega⟩) (fun c hc => ⟨hco c hc, Am.total_good _ _ ht c.v (List.mem_map_of_mem hc)⟩)
        exact ⟨h1.1, by rw [Tx.rdV, if_pos h1.1, h1.2]⟩
      · next ht => exact absurd h ht
    · cases h
  · cases h
set_option maxRecDepth 100000 in
set_option maxHeartbeats 16000000 in
theorem bytesMain (a : Option Addr) (n q : Nat) (b : Option Addr) (m r : Nat) (t : Tx.T) (z : Int) (W : World) (ht : TxAt W a n q b m r t) (hK : KDg W) (hT : Tab32 W 1 Dg.kL) :
    Calls Tryd.prog 3 #[txv a n q b m r t.firm, .int .i64 z] W fun e w' => e = .returned (.bool true) ∧ Below W.heap.size W w' := by
  have HAT := Lib.hid ht
  have HKD := Lib.hid (And.intro hK hT)
  clear ht hK hT
  go_enter Tryd.func3, Tryd.ntmps3
  go_upto_region 1 with fail
  obtain ⟨W1, hW1⟩ : ∃ x, x = W.alloc (.cells #[.slice a n q, .slice b m r, .bool t.firm] 25) := ⟨_, rfl⟩
  have hT1 : Below W.heap.size W W1 := by rw [hW1]; exact (Below.refl _ W).alloc (Nat.le_refl _) _
  have hX : Has W1 W.heap.size 25 #[.slice a n q, .slice b m r, .bool t.firm] := by rw [hW1]; exact Has.fresh W _ _
  rw [← hW1]
  clear hW1
  obtain ⟨g1, hg1⟩ : ∃ g, g = W.heap.size := ⟨_, rfl⟩
  rw [← hg1]
  rw [← hg1] at hX
  clear hg1
  go_upto_region 3 with (go_at_call 5; refine (alive10 txA W1).mono ?_; rintro e w2 ⟨rfl, hb2⟩)
  have hT2 := hT1.trans (hb2.mono hT1.size)
  replace hX := hX.under hb2 hX.lt
  replace HAT := Lib.hid (HAT.out.below hT2)
  have lX := hX.load_agg (P := Tryd.prog) (t := 25) Tryd.underlying25 rfl (by kernel_rfl)
  obtain ⟨w3, hw3⟩ : ∃ x, x = w2.alloc (.cells #[.slice a n q, .slice b m r, .bool t.firm] 25) := ⟨_, rfl⟩
  have hb3 : Below w2.heap.size w2 w3 := by rw [hw3]; exact (Below.refl _ _).alloc (Nat.le_refl _) _
  have HTS := Lib.hid (show Txs w3 (some ⟨w2.heap.size, 0, none⟩) 1 [⟨a, n, q, b, m, r, t⟩] from
    ⟨recs_fresh (R := vRec) (fun _ _ => trivial) (by rw [hw3]; exact Has.fresh _ _ _) (by show 1 ≤ maxLen; unfold maxLen; omega) (fun j v hj => by rw [List.getElem?_toArray]; exact hj),
      fun x hx => by
        obtain rfl := List.mem_singleton.1 hx
        exact HAT.out.below hb3⟩)
  have HW3 := Lib.hid hw3
  clear hw3 hb2 hT1
  go_upto_if 13 with (first
    | (go_at_call 6; rw [← HW3.out]; refine (large_any _ 1 1 _ w3 HTS.out).mono ?_; rintro e w4 ⟨bl, rfl, hsm, hb4⟩)
    | (refine wpList_load_run rfl 25 (.tmp 2) rfl _ _ rfl lX ?_))
  have hb24 := hb3.trans (hb4.mono hb3.size)
  have hT4 := hT2.trans (hb24.mono hT2.size)
  clear lX hb3 hb4 HTS HW3
  cases bl with
  | true =>
    clear hsm
    go_wp2
    go_ret
    exact ⟨rfl, hT4⟩
  | false =>
    have SA := Lib.hid ((hsm rfl).2 _ List.mem_cons_self)
    clear hsm
    replace hX := hX.under hb24 hX.lt
    replace HAT := Lib.hid (HAT.out.below hb24)
    clear hb24 hT2
    have HNM := Lib.hid (show n ≤ 30 ∧ m ≤ 30 from ⟨by have := SA.out.1; have e : t.sp.length = n := HAT.out.sp.1; show n ≤ 30; rw [← e]; exact this, by have := SA.out.2.1; have e : t.co.length = m := HAT.out.co.1; show m ≤ 30; rw [← e]; exact this⟩)
    have lX := hX.load_agg (P := Tryd.prog) (t := 25) Tryd.underlying25 rfl (by kernel_rfl)
    go_upto_region 6 with (first
      | (go_at_call 7; refine (copy_any a n q b m r t w4 HAT.out (by have := HNM.out.1; omega) (by have := HNM.out.2; omega)).mono ?_; rintro e w5 ⟨a2, q2, b2, r2, rfl, hown, hb5⟩)
      | (refine wpList_load_run rfl 25 (.tmp 2) rfl _ _ rfl lX ?_))
    clear lX
    obtain ⟨w6, hw6⟩ : ∃ x, x = w5.alloc (.cells #[.slice a2 n q2, .slice b2 m r2, .bool t.firm] 25) := ⟨_, rfl⟩
    have hb6 : Below w5.heap.size w5 w6 := by rw [hw6]; exact (Below.refl _ _).alloc (Nat.le_refl _) _
    have h5 : Has w6 w5.heap.size 25 #[.slice a2 n q2, .slice b2 m r2, .bool t.firm] := by rw [hw6]; exact Has.fresh _ _ _
    rw [← hw6]
    obtain ⟨g5, hg5⟩ : ∃ g, g = w5.heap.size := ⟨_, rfl⟩
    rw [← hg5]
    rw [← hg5] at h5
    have hb46 := hb5.trans (hb6.mono hb5.size)
    have HO := Lib.hid (hown.below hb6).at
    replace hX := hX.under hb46 hX.lt
    replace HAT := Lib.hid (HAT.out.below hb46)
    have hT6 := hT4.trans (hb46.mono hT4.size)
    clear hw6 hg5 hb5 hb6 hb46 hT4 hown
    have l5 := h5.load_agg (P := Tryd.prog) (t := 25) Tryd.underlying25 rfl (by kernel_rfl)
    obtain ⟨E, hE⟩ : ∃ E, E = Tx.enc true t := ⟨_, rfl⟩
    obtain ⟨K, hK⟩ : ∃ K, K = E.length := ⟨_, rfl⟩
    obtain ⟨E0, hE0⟩ : ∃ E, E = Tx.enc false t := ⟨_, rfl⟩
    obtain ⟨K0, hK0⟩ : ∃ K, K = E0.length := ⟨_, rfl⟩
    have HEE := Lib.hid (show Tx.enc true t = E ∧ E.length = K ∧ Tx.enc false t = E0 ∧ E0.length = K0 ∧ K ≤ 200000 from ⟨hE.symm, hK.symm, hE0.symm, hK0.symm, by rw [hK, hE]; exact Tx.enc_len _ t SA.out (fun s hx => (HAT.out.sp.2.2.1 s hx).1)⟩)
    clear hE hK hE0 hK0
    go_upto_region 7 with (first
      | (go_at_call 8; refine (pbytes_any a2 n q2 b2 m r2 t t.firm rfl w6 HO.out SA.out).mono ?_; rw [HEE.out.1]; rintro e w7 ⟨v7, rfl, ho7, hb7⟩; obtain ⟨xb, cb, rfl, hcb, h0b, hyb⟩ := ho7.shape HEE.out.2.1)
      | (refine wpList_load_run rfl 25 (.tmp 5) rfl _ _ rfl l5 ?_))
    clear l5 ho7
    obtain ⟨wd, hwd⟩ : ∃ x, x = w7.drew := ⟨_, rfl⟩
    have hbd7 : Below w7.heap.size w7 wd := by rw [hwd]; exact (Below.refl _ _).drew
    have hbd := hb7.trans (hbd7.mono hb7.size)
    replace HAT := Lib.hid (HAT.out.below hbd)
    replace HO := Lib.hid (HO.out.below hbd)
    have HX := Lib.hid (hX.under hbd hX.lt)
    have H5 := Lib.hid (h5.under hbd h5.lt)
    have HYB := Lib.hid (And.intro (hyb.below hbd7) (And.intro hcb h0b))
    have hTd := hT6.trans (hbd.mono hT6.size)
    have HKB := Lib.hid (show KDg wd ∧ Tab32 wd 1 Dg.kL from ⟨HKD.out.1.below hTd, HKD.out.2.below hTd⟩)
    clear hb7 hbd7 hbd hX h5 hyb hcb h0b hT6
    obtain ⟨D, hD⟩ : ∃ D, D = Tx.idOf false t := ⟨_, rfl⟩
    obtain ⟨DW, hDW⟩ : ∃ D, D = Tx.idOf true t := ⟨_, rfl⟩
    obtain ⟨wt, hwt⟩ : ∃ w, w = Tx.weight t := ⟨_, rfl⟩
    have HDD := Lib.hid (show Tx.idOf false t = D ∧ D.length = 32 ∧ Tx.idOf true t = DW ∧ DW.length = 32 ∧ Tx.weight t = wt from ⟨hD.symm, by rw [hD]; exact Tx.idOf_len _ _, hDW.symm, by rw [hDW]; exact Tx.idOf_len _ _, hwt.symm⟩)
    have HEQ := Lib.hid (show ∀ w, (binOp .neq 36 (.agg (ptCells D z).toArray) (.agg (ptCells D z).toArray)).run Tryd.prog w = .ok (.bool false) w from fun w => (neq_point w D D z z HDD.out.2.1 HDD.out.2.1).trans (by simp))
    have hTx : ∀ wq, Below wd.heap.size wd wq → (Instr.loadAt 25 (.pointer (some ⟨g5, 0, none⟩))).run Tryd.prog wq = .ok (.agg #[.slice a2 n q2, .slice b2 m r2, .bool t.firm]) wq := fun wq hb => (H5.out.under hb H5.out.lt).load_agg (P := Tryd.prog) (t := 25) Tryd.underlying25 rfl (by kernel_rfl)
    have hTo : ∀ wq, Below wd.heap.size wd wq → (Instr.loadAt 25 (.pointer (some ⟨g1, 0, none⟩))).run Tryd.prog wq = .ok (.agg #[.slice a n q, .slice b m r, .bool t.firm]) wq := fun wq hb => (HX.out.under hb HX.out.lt).load_agg (P := Tryd.prog) (t := 25) Tryd.underlying25 rfl (by kernel_rfl)
    have HTX := Lib.hid (And.intro hTx hTo)
    clear hD hDW hwt hTx hTo
    refine wp_region_held_drew (S := Held wd) (by kernel_rfl) (by rw [hwd]; exact Held.refl _) (fun hHeld => ?_)
    rw [← hwd] at hHeld ⊢
    clear hwd
    have hC0 : Below wd.heap.size wd wd := Below.refl _ _
    refine take_at (v := ?_) 0 18 rfl rfl (by kernel_rfl) (by kernel_rfl) (by kernel_rfl) (fun _ _ _ h => h) hHeld (Or.inl ⟨by rfl, ?_⟩) rfl ?_
    rotate_left
    · intro wq hSw
      go_simp
      try with_reducible rfl
    simp only [List.set_cons_zero, List.set_cons_succ]
    refine take_at 2 20 rfl rfl (by kernel_rfl) (by kernel_rfl) (by kernel_rfl) (fun _ _ _ h => h) hHeld (yieldsIf_load_agg (by rfl) 25 (.tmp 2) rfl _ _ (by rfl) (fun wq hSw => HTX.out.2 wq (hC0.trans (hSw.mono hC0.size)))) rfl ?_
    simp only [List.set_cons_zero, List.set_cons_succ]
    refine take_at (v := ?_) 1 19 rfl rfl (by kernel_rfl) (by kernel_rfl) (by kernel_rfl) (fun _ _ _ h => h) hHeld (Or.inl ⟨by rfl, ?_⟩) rfl ?_
    rotate_left
    · intro wq hSw
      have hst := run_string (P := Tryd.prog) 29 9 5 Tryd.underlying29 Tryd.underlying5 Tryd.underlying9 (c := cb) ((HYB.out.1).below hSw)
      go_simp
      try with_reducible rfl
    simp only [List.set_cons_zero, List.set_cons_succ]
    refine wpAnyH_ready (rs := [3]) (by kernel_rfl) (by simp) ?_
    refine AllReadyH.cons rfl (fun K hK => ?_) AllReadyH.nil
    go_simp
    go_at_call 9; refine (rtbytes_any a n q b m r t wd (HAT.out.below hC0) SA.out).mono ?_; rw [HEE.out.1]; rintro e k1 ⟨v1, rfl, ho1, hk1⟩; obtain ⟨x1, c1, rfl, hc1, h01, hy1⟩ := ho1.shape HEE.out.2.1
    refine hK.out _ _ (Held.of hk1) (fun _ => ?_)
    clear hK K
    try simp only [Act.put, List.setIfInBounds_toArray, List.set_cons_zero, List.set_cons_succ]
    refine held_grow (w1 := k1) (Held.of hk1) ?_
    clear hHeld
    have hHeld : Held k1 k1 := Held.refl _
    have hC1 := hC0.trans (hk1.mono hC0.size)
    refine take_at (v := ?_) 4 22 rfl rfl (by kernel_rfl) (by kernel_rfl) (by kernel_rfl) (fun _ _ _ h => h) hHeld (Or.inl ⟨by rfl, ?_⟩) rfl ?_
    rotate_left
    · intro wq hSw
      have hst := run_string (P := Tryd.prog) 29 9 5 Tryd.underlying29 Tryd.underlying5 Tryd.underlying9 (c := c1) (hy1.below hSw)
      go_simp
      try with_reducible rfl
    simp only [List.set_cons_zero, List.set_cons_succ]
    refine take_at (v := .bool false) 5 23 rfl rfl (by kernel_rfl) (by kernel_rfl) (by kernel_rfl) (fun _ _ _ h => h) hHeld (Or.inl ⟨by rfl, ?_⟩) rfl ?_
    · intro wq hSw
      go_simp
      skip
    simp only [List.set_cons_zero, List.set_cons_succ]
    refine take_at (v := ?_) 6 24 rfl rfl (by kernel_rfl) (by kernel_rfl) (by kernel_rfl) (fun _ _ _ h => h) hHeld (Or.inl ⟨by rfl, ?_⟩) rfl ?_
    rotate_left
    · intro wq hSw
      go_simp
      try with_reducible rfl
    simp only [List.set_cons_zero, List.set_cons_succ]
    refine take_at 7 25 rfl rfl (by kernel_rfl) (by kernel_rfl) (by kernel_rfl) (fun _ _ _ h => h) hHeld (yieldsIf_load_agg (by rfl) 25 (.tmp 5) rfl _ _ (by rfl) (fun wq hSw => HTX.out.1 wq (hC1.trans (hSw.mono hC1.size)))) rfl ?_
    simp only [List.set_cons_zero, List.set_cons_succ]
    refine take_at 10 28 rfl rfl (by kernel_rfl) (by kernel_rfl) (by kernel_rfl) (fun _ _ _ h => h) hHeld (yieldsIf_load_agg (by rfl) 25 (.tmp 2) rfl _ _ (by rfl) (fun wq hSw => HTX.out.2 wq (hC1.trans (hSw.mono hC1.size)))) rfl ?_
    simp only [List.set_cons_zero, List.set_cons_succ]
    refine wpAnyH_ready (rs := [8]) (by kernel_rfl) (by simp) ?_
    refine AllReadyH.cons rfl (fun K hK => ?_) AllReadyH.nil
    go_simp
    go_at_call 10; refine (pbase_any a2 n q2 b2 m r2 t t.firm rfl k1 (HO.out.below hC1) SA.out).mono ?_; rw [HEE.out.2.2.1]; rintro e k2 ⟨v2, rfl, ho2, hk2⟩; obtain ⟨x2, c2, rfl, hc2, h02, hy2⟩ := ho2.shape HEE.out.2.2.2.1
    refine hK.out _ _ (Held.of hk2) (fun _ => ?_)
    clear hK K
    try simp only [Act.put, List.setIfInBounds_toArray, List.set_cons_zero, List.set_cons_succ]
    refine held_grow (w1 := k2) (Held.of hk2) ?_
    clear hHeld
    have hHeld : Held k2 k2 := Held.refl _
    have hC2 := hC1.trans (hk2.mono hC1.size)
    refine take_at (v := ?_) 9 27 rfl rfl (by kernel_rfl) (by kernel_rfl) (by kernel_rfl) (fun _ _ _ h => h) hHeld (Or.inl ⟨by rfl, ?_⟩) rfl ?_
    rotate_left
    · intro wq hSw
      have hst := run_string (P := Tryd.prog) 29 9 5 Tryd.underlying29 Tryd.underlying5 Tryd.underlying9 (c := c2) (hy2.below hSw)
      go_simp
      try with_reducible rfl
    simp only [List.set_cons_zero, List.set_cons_succ]
    refine wpAnyH_ready (rs := [11]) (by kernel_rfl) (by simp) ?_
    refine AllReadyH.cons rfl (fun K hK => ?_) AllReadyH.nil
    go_simp
    go_at_call 11; refine (rbase_any a n q b m r t k2 (HAT.out.below hC2) SA.out).mono ?_; rw [HEE.out.2.2.1]; rintro e k3 ⟨v3, rfl, ho3, hk3⟩; obtain ⟨x3, c3, rfl, hc3, h03, hy3⟩ := ho3.shape HEE.out.2.2.2.1
    refine hK.out _ _ (Held.of hk3) (fun _ => ?_)
    clear hK K
    try simp only [Act.put, List.setIfInBounds_toArray, List.set_cons_zero, List.set_cons_succ]
    refine held_grow (w1 := k3) (Held.of hk3) ?_
    clear hHeld
    have hHeld : Held k3 k3 := Held.refl _
    have hC3 := hC2.trans (hk3.mono hC2.size)
    refine take_at (v := ?_) 12 30 rfl rfl (by kernel_rfl) (by kernel_rfl) (by kernel_rfl) (fun _ _ _ h => h) hHeld (Or.inl ⟨by rfl, ?_⟩) rfl ?_
    rotate_left
    · intro wq hSw
      have hst := run_string (P := Tryd.prog) 29 9 5 Tryd.underlying29 Tryd.underlying5 Tryd.underlying9 (c := c3) (hy3.below hSw)
      go_simp
      try with_reducible rfl
    simp only [List.set_cons_zero, List.set_cons_succ]
    refine take_at (v := .bool false) 13 31 rfl rfl (by kernel_rfl) (by kernel_rfl) (by kernel_rfl) (fun _ _ _ h => h) hHeld (Or.inl ⟨by rfl, ?_⟩) rfl ?_
    · intro wq hSw
      go_simp
      skip
    simp only [List.set_cons_zero, List.set_cons_succ]
    refine take_at (v := ?_) 14 32 rfl rfl (by kernel_rfl) (by kernel_rfl) (by kernel_rfl) (fun _ _ _ h => h) hHeld (Or.inl ⟨by rfl, ?_⟩) rfl ?_
    rotate_left
    · intro wq hSw
      go_simp
      try with_reducible rfl
    simp only [List.set_cons_zero, List.set_cons_succ]
    refine take_at (v := ?_) 15 33 rfl rfl (by kernel_rfl) (by kernel_rfl) (by kernel_rfl) (fun _ _ _ h => h) hHeld (Or.inl ⟨by rfl, ?_⟩) rfl ?_
    rotate_left
    · intro wq hSw
      go_simp
      try with_reducible rfl
    simp only [List.set_cons_zero, List.set_cons_succ]
    refine take_at 16 34 rfl rfl (by kernel_rfl) (by kernel_rfl) (by kernel_rfl) (fun _ _ _ h => h) hHeld (yieldsIf_load_agg (by rfl) 25 (.tmp 5) rfl _ _ (by rfl) (fun wq hSw => HTX.out.1 wq (hC3.trans (hSw.mono hC3.size)))) rfl ?_
    simp only [List.set_cons_zero, List.set_cons_succ]
    refine take_at 18 36 rfl rfl (by kernel_rfl) (by kernel_rfl) (by kernel_rfl) (fun _ _ _ h => h) hHeld (yieldsIf_load_agg (by rfl) 25 (.tmp 2) rfl _ _ (by rfl) (fun wq hSw => HTX.out.2 wq (hC3.trans (hSw.mono hC3.size)))) rfl ?_
    simp only [List.set_cons_zero, List.set_cons_succ]
    refine wpAnyH_ready (rs := [17]) (by kernel_rfl) (by simp) ?_
    refine AllReadyH.cons rfl (fun K hK => ?_) AllReadyH.nil
    go_simp
    go_at_call 12; refine (pid_any a2 n q2 b2 m r2 t t.firm rfl k3 (HO.out.below hC3) SA.out (HKB.out.1.below hC3)).mono ?_; rw [HDD.out.1]; rintro e k4 ⟨rfl, hk4⟩
    refine hK.out _ _ (Held.of hk4) (fun _ => ?_)
    clear hK K
    try simp only [Act.put, List.setIfInBounds_toArray, List.set_cons_zero, List.set_cons_succ]
    refine held_grow (w1 := k4) (Held.of hk4) ?_
    clear hHeld
    have hHeld : Held k4 k4 := Held.refl _
    have hC4 := hC3.trans (hk4.mono hC3.size)
    refine wpAnyH_ready (rs := [19]) (by kernel_rfl) (by simp) ?_
    refine AllReadyH.cons rfl (fun K hK => ?_) AllReadyH.nil
    go_simp
    go_at_call 13; refine (rid_any a n q b m r t k4 (HAT.out.below hC4) SA.out (HKB.out.2.below hC4)).mono ?_; rw [HDD.out.1]; rintro e k5 ⟨rfl, hk5⟩
    refine hK.out _ _ (Held.of hk5) (fun _ => ?_)
    clear hK K
    try simp only [Act.put, List.setIfInBounds_toArray, List.set_cons_zero, List.set_cons_succ]
    refine held_grow (w1 := k5) (Held.of hk5) ?_
    clear hHeld
    have hHeld : Held k5 k5 := Held.refl _
    have hC5 := hC4.trans (hk5.mono hC4.size)
    refine take_at 20 38 rfl rfl (by kernel_rfl) (by kernel_rfl) (by kernel_rfl) (fun _ _ _ h => h) hHeld (yieldsIf_neq_same (by rfl) 32 5 32 32 (.tmp 35) (.tmp 37) rfl D (by rfl) (by rfl) (by kernel_rfl) Tryd.underlying32 Tryd.underlying5 (by kernel_rfl) HDD.out.2.1) rfl ?_
    simp only [List.set_cons_zero, List.set_cons_succ]
    refine take_at (v := ?_) 21 39 rfl rfl (by kernel_rfl) (by kernel_rfl) (by kernel_rfl) (fun _ _ _ h => h) hHeld (Or.inl ⟨by rfl, ?_⟩) rfl ?_
    rotate_left
    · intro wq hSw
      go_simp
      try with_reducible rfl
    simp only [List.set_cons_zero, List.set_cons_succ]
    refine take_at (v := ?_) 22 40 rfl rfl (by kernel_rfl) (by kernel_rfl) (by kernel_rfl) (fun _ _ _ h => h) hHeld (Or.inl ⟨by rfl, ?_⟩) rfl ?_
    rotate_left
    · intro wq hSw
      go_simp
      try with_reducible rfl
    simp only [List.set_cons_zero, List.set_cons_succ]
    refine take_at 23 41 rfl rfl (by kernel_rfl) (by kernel_rfl) (by kernel_rfl) (fun _ _ _ h => h) hHeld (yieldsIf_load_agg (by rfl) 25 (.tmp 5) rfl _ _ (by rfl) (fun wq hSw => HTX.out.1 wq (hC5.trans (hSw.mono hC5.size)))) rfl ?_
    simp only [List.set_cons_zero, List.set_cons_succ]
    refine take_at 25 43 rfl rfl (by kernel_rfl) (by kernel_rfl) (by kernel_rfl) (fun _ _ _ h => h) hHeld (yieldsIf_load_agg (by rfl) 25 (.tmp 2) rfl _ _ (by rfl) (fun wq hSw => HTX.out.2 wq (hC5.trans (hSw.mono hC5.size)))) rfl ?_
    simp only [List.set_cons_zero, List.set_cons_succ]
    refine wpAnyH_ready (rs := [24]) (by kernel_rfl) (by simp) ?_
    refine AllReadyH.cons rfl (fun K hK => ?_) AllReadyH.nil
    go_simp
    go_at_call 14; refine (pwide_any a2 n q2 b2 m r2 t t.firm rfl k5 (HO.out.below hC5) SA.out (HKB.out.1.below hC5)).mono ?_; rw [HDD.out.2.2.1]; rintro e k6 ⟨rfl, hk6⟩
    refine hK.out _ _ (Held.of hk6) (fun _ => ?_)
    clear hK K
    try simp only [Act.put, List.setIfInBounds_toArray, List.set_cons_zero, List.set_cons_succ]
    refine held_grow (w1 := k6) (Held.of hk6) ?_
    clear hHeld
    have hHeld : Held k6 k6 := Held.refl _
    have hC6 := hC5.trans (hk6.mono hC5.size)
    refine wpAnyH_ready (rs := [26]) (by kernel_rfl) (by simp) ?_
    refine AllReadyH.cons rfl (fun K hK => ?_) AllReadyH.nil
    go_simp
    go_at_call 15; refine (rwide_any a n q b m r t k6 (HAT.out.below hC6) SA.out (HKB.out.2.below hC6)).mono ?_; rw [HDD.out.2.2.1]; rintro e k7 ⟨rfl, hk7⟩
    refine hK.out _ _ (Held.of hk7) (fun _ => ?_)
    clear hK K
    try simp only [Act.put, List.setIfInBounds_toArray, List.set_cons_zero, List.set_cons_succ]
    refine held_grow (w1 := k7) (Held.of hk7) ?_
    clear hHeld
    have hHeld : Held k7 k7 := Held.refl _
    have hC7 := hC6.trans (hk7.mono hC6.size)
    refine take_at 27 45 rfl rfl (by kernel_rfl) (by kernel_rfl) (by kernel_rfl) (fun _ _ _ h => h) hHeld (yieldsIf_neq_same (by rfl) 32 5 32 32 (.tmp 42) (.tmp 44) rfl DW (by rfl) (by rfl) (by kernel_rfl) Tryd.underlying32 Tryd.underlying5 (by kernel_rfl) HDD.out.2.2.2.1) rfl ?_
    simp only [List.set_cons_zero, List.set_cons_succ]
    refine take_at (v := ?_) 28 46 rfl rfl (by kernel_rfl) (by kernel_rfl) (by kernel_rfl) (fun _ _ _ h => h) hHeld (Or.inl ⟨by rfl, ?_⟩) rfl ?_
    rotate_left
    · intro wq hSw
      go_simp
      try with_reducible rfl
    simp only [List.set_cons_zero, List.set_cons_succ]
    refine take_at (v := ?_) 29 47 rfl rfl (by kernel_rfl) (by kernel_rfl) (by kernel_rfl) (fun _ _ _ h => h) hHeld (Or.inl ⟨by rfl, ?_⟩) rfl ?_
    rotate_left
    · intro wq hSw
      go_simp
      try with_reducible rfl
    simp only [List.set_cons_zero, List.set_cons_succ]
    refine take_at 30 48 rfl rfl (by kernel_rfl) (by kernel_rfl) (by kernel_rfl) (fun _ _ _ h => h) hHeld (yieldsIf_load_agg (by rfl) 25 (.tmp 5) rfl _ _ (by rfl) (fun wq hSw => HTX.out.1 wq (hC7.trans (hSw.mono hC7.size)))) rfl ?_
    simp only [List.set_cons_zero, List.set_cons_succ]
    refine take_at 32 50 rfl rfl (by kernel_rfl) (by kernel_rfl) (by kernel_rfl) (fun _ _ _ h => h) hHeld (yieldsIf_load_agg (by rfl) 25 (.tmp 2) rfl _ _ (by rfl) (fun wq hSw => HTX.out.2 wq (hC7.trans (hSw.mono hC7.size)))) rfl ?_
    simp only [List.set_cons_zero, List.set_cons_succ]
    refine wpAnyH_ready (rs := [31]) (by kernel_rfl) (by simp) ?_
    refine AllReadyH.cons rfl (fun K hK => ?_) AllReadyH.nil
    go_simp
    go_at_call 16; refine (pweight_any a2 n q2 b2 m r2 t t.firm rfl k7 (HO.out.below hC7) SA.out).mono ?_; rw [HDD.out.2.2.2.2]; rintro e k8 ⟨rfl, hk8⟩
    refine hK.out _ _ (Held.of hk8) (fun _ => ?_)
    clear hK K
    try simp only [Act.put, List.setIfInBounds_toArray, List.set_cons_zero, List.set_cons_succ]
    refine held_grow (w1 := k8) (Held.of hk8) ?_
    clear hHeld
    have hHeld : Held k8 k8 := Held.refl _
    have hC8 := hC7.trans (hk8.mono hC7.size)
    refine wpAnyH_ready (rs := [33]) (by kernel_rfl) (by simp) ?_
    refine AllReadyH.cons rfl (fun K hK => ?_) AllReadyH.nil
    go_simp
    go_at_call 17; refine (rweight_any a n q b m r t k8 (HAT.out.below hC8) SA.out).mono ?_; rw [HDD.out.2.2.2.2]; rintro e k9 ⟨rfl, hk9⟩
    refine hK.out _ _ (Held.of hk9) (fun _ => ?_)
    clear hK K
    try simp only [Act.put, List.setIfInBounds_toArray, List.set_cons_zero, List.set_cons_succ]
    refine held_grow (w1 := k9) (Held.of hk9) ?_
    clear hHeld
    have hHeld : Held k9 k9 := Held.refl _
    have hC9 := hC8.trans (hk9.mono hC8.size)
    refine take_at (v := .bool false) 34 52 rfl rfl (by kernel_rfl) (by kernel_rfl) (by kernel_rfl) (fun _ _ _ h => h) hHeld (Or.inl ⟨by rfl, ?_⟩) rfl ?_
    · intro wq hSw
      go_simp
      skip
    simp only [List.set_cons_zero, List.set_cons_succ]
    refine take_at (v := ?_) 35 53 rfl rfl (by kernel_rfl) (by kernel_rfl) (by kernel_rfl) (fun _ _ _ h => h) hHeld (Or.inl ⟨by rfl, ?_⟩) rfl ?_
    rotate_left
    · intro wq hSw
      go_simp
      try with_reducible rfl
    simp only [List.set_cons_zero, List.set_cons_succ]
    refine take_at (v := ?_) 36 54 rfl rfl (by kernel_rfl) (by kernel_rfl) (by kernel_rfl) (fun _ _ _ h => h) hHeld (Or.inl ⟨by rfl, ?_⟩) rfl ?_
    rotate_left
    · intro wq hSw
      go_simp
      try with_reducible rfl
    simp only [List.set_cons_zero, List.set_cons_succ]
    refine take_at 37 55 rfl rfl (by kernel_rfl) (by kernel_rfl) (by kernel_rfl) (fun _ _ _ h => h) hHeld (yieldsIf_load_agg (by rfl) 25 (.tmp 5) rfl _ _ (by rfl) (fun wq hSw => HTX.out.1 wq (hC9.trans (hSw.mono hC9.size)))) rfl ?_
    simp only [List.set_cons_zero, List.set_cons_succ]
    refine take_at (v := ?_) 38 56 rfl rfl (by kernel_rfl) (by kernel_rfl) (by kernel_rfl) (fun _ _ _ h => h) hHeld (Or.inl ⟨by rfl, ?_⟩) rfl ?_
    rotate_left
    · intro wq hSw
      go_simp
      try with_reducible rfl
    simp only [List.set_cons_zero, List.set_cons_succ]
    refine take_at 40 58 rfl rfl (by kernel_rfl) (by kernel_rfl) (by kernel_rfl) (fun _ _ _ h => h) hHeld (yieldsIf_load_agg (by rfl) 25 (.tmp 2) rfl _ _ (by rfl) (fun wq hSw => HTX.out.2 wq (hC9.trans (hSw.mono hC9.size)))) rfl ?_
    simp only [List.set_cons_zero, List.set_cons_succ]
    refine take_at (v := ?_) 42 60 rfl rfl (by kernel_rfl) (by kernel_rfl) (by kernel_rfl) (fun _ _ _ h => h) hHeld (Or.inl ⟨by rfl, ?_⟩) rfl ?_
    rotate_left
    · intro wq hSw
      go_simp
      try with_reducible rfl
    simp only [List.set_cons_zero, List.set_cons_succ]
    refine wpAnyH_ready (rs := [39]) (by kernel_rfl) (by simp) ?_
    refine AllReadyH.cons rfl (fun K hK => ?_) AllReadyH.nil
    go_simp
    go_at_call 18; refine (ppoint_any a2 n q2 b2 m r2 t t.firm rfl z k9 (HO.out.below hC9) SA.out (HKB.out.1.below hC9)).mono ?_; rw [HDD.out.1]; rintro e k10 ⟨rfl, hk10⟩
    refine hK.out _ _ (Held.of hk10) (fun _ => ?_)
    clear hK K
    try simp only [Act.put, List.setIfInBounds_toArray, List.set_cons_zero, List.set_cons_succ]
    refine held_grow (w1 := k10) (Held.of hk10) ?_
    clear hHeld
    have hHeld : Held k10 k10 := Held.refl _
    have hC10 := hC9.trans (hk10.mono hC9.size)
    refine wpAnyH_ready (rs := [41]) (by kernel_rfl) (by simp) ?_
    refine AllReadyH.cons rfl (fun K hK => ?_) AllReadyH.nil
    go_simp
    go_at_call 13; refine (rid_any a n q b m r t k10 (HAT.out.below hC10) SA.out (HKB.out.2.below hC10)).mono ?_; rw [HDD.out.1]; rintro e k11 ⟨rfl, hk11⟩
    refine hK.out _ _ (Held.of hk11) (fun _ => ?_)
    clear hK K
    try simp only [Act.put, List.setIfInBounds_toArray, List.set_cons_zero, List.set_cons_succ]
    refine held_grow (w1 := k11) (Held.of hk11) ?_
    clear hHeld
    have hHeld : Held k11 k11 := Held.refl _
    have hC11 := hC10.trans (hk11.mono hC10.size)
    refine take_at (v := .agg (ptCells D z).toArray) 43 61 rfl rfl (by kernel_rfl) (by kernel_rfl) (by kernel_rfl) (fun _ _ _ h => h) hHeld (yieldsIf_build_pt (by rfl) (.tmp 59) (.tmp 60) rfl D z (by rfl) (by rfl) HDD.out.2.1) rfl ?_
    simp only [List.set_cons_zero, List.set_cons_succ]
    refine take_at (v := .bool false) 44 62 rfl rfl (by kernel_rfl) (by kernel_rfl) (by kernel_rfl) (fun _ _ _ h => h) hHeld (yieldsIf_bin (by rfl) .neq 36 (.tmp 57) (.tmp 61) _ rfl (ptCells D z).toArray (ptCells D z).toArray (by rfl) (by rfl) (by kernel_rfl) _ HEQ.out) rfl ?_
    simp only [List.set_cons_zero, List.set_cons_succ]
    refine take_at (v := ?_) 45 63 rfl rfl (by kernel_rfl) (by kernel_rfl) (by kernel_rfl) (fun _ _ _ h => h) hHeld (Or.inl ⟨by rfl, ?_⟩) rfl ?_
    rotate_left
    · intro wq hSw
      go_simp
      try with_reducible rfl
    simp only [List.set_cons_zero, List.set_cons_succ]
    refine wpAnyH_done (by kernel_rfl) ?_ _
    obtain ⟨w8, hw8⟩ : ∃ x, x = k11 := ⟨_, rfl⟩
    have hC : Below wd.heap.size wd w8 := by rw [hw8]; exact hC11
    rw [← hw8]
    clear hw8 hHeld hC0 hC1 hC2 hC3 hC4 hC5 hC6 hC7 hC8 hC9 hC10 hC11 hk1 hk2 hk3 hk4 hk5 hk6 hk7 hk8 hk9 hk10 hk11 ho1 hc1 h01 hy1 ho2 hc2 h02 hy2 ho3 hc3 h03 hy3
    have hT8 := hTd.trans (hC.mono hTd.size)
    have lo := HTX.out.1 w8 hC
    have lt := HTX.out.2 w8 hC
    replace HAT := Lib.hid (HAT.out.below hC)
    replace HO := Lib.hid (HO.out.below hC)
    obtain ⟨ch, hch⟩ : ∃ c, c = Tx.check t := ⟨_, rfl⟩
    have HCH := Lib.hid hch
    clear hch
    by_cases hc0 : ch = 0
    · subst hc0
      have HRG := Lib.hid (Tx.read_good t HCH.out.symm (fun s hx => (HAT.out.sp.2.2.1 s hx).1) (fun c hx => HAT.out.co.2.2.1 c hx))
      rw [HEE.out.1] at HRG
      go_upto_region 12 with (first
        | (go_at_call 21; refine (pread_any xb K cb E w9 ((HYB.out.1.below hC).below hk9) HYB.out.2.2 (by rw [HEE.out.2.1]; have := HEE.out.2.2.2.2; omega)).mono ?_; rintro e wA ⟨a3, n3, q3, b3, m3, r3, rfl, hown, hkA⟩; rw [HRG.out.2] at hown ⊢; rw [if_pos HRG.out.1])
        | (go_at_call 19; refine (rcheck_any a n q b m r t w8 HAT.out).mono ?_; rw [← HCH.out]; rintro e w9 ⟨rfl, hk9⟩)
        | (refine wpList_load_run rfl 25 (.tmp 2) rfl _ _ rfl lt ?_))
      clear lo lt
      have hA := hk9.trans (hkA.mono hk9.size)
      obtain ⟨wB, hwB⟩ : ∃ x, x = wA.alloc (.cells #[.slice a3 n3 q3, .slice b3 m3 r3, .bool t.firm] 25) := ⟨_, rfl⟩
      have hbB : Below wA.heap.size wA wB := by rw [hwB]; exact (Below.refl _ _).alloc (Nat.le_refl _) _
      have h7 : Has wB wA.heap.size 25 #[.slice a3 n3 q3, .slice b3 m3 r3, .bool t.firm] := by rw [hwB]; exact Has.fresh _ _ _
      rw [← hwB]
      obtain ⟨g7, hg7⟩ : ∃ g, g = wA.heap.size := ⟨_, rfl⟩
      rw [← hg7]
      rw [← hg7] at h7
      clear hwB hg7
      have hB8 := hA.trans (hbB.mono hA.size)
      have hCB := hC.trans (hB8.mono hC.size)
      have HK3 := Lib.hid (hown.at.below hbB)
      have c70 : wB.cell? ⟨g7, 0, none⟩ = some (.slice a3 n3 q3) := h7.cell_at rfl
      have c71 : wB.cell? ⟨g7, 1, none⟩ = some (.slice b3 m3 r3) := h7.cell_at rfl
      have c72 : wB.cell? ⟨g7, 2, none⟩ = some (.bool t.firm) := h7.cell_at rfl
      have hXB := HX.out.under hCB HX.out.lt
      have c10 : wB.cell? ⟨g1, 0, none⟩ = some (.slice a n q) := hXB.cell_at rfl
      have c11 : wB.cell? ⟨g1, 1, none⟩ = some (.slice b m r) := hXB.cell_at rfl
      have c12 : wB.cell? ⟨g1, 2, none⟩ = some (.bool t.firm) := hXB.cell_at rfl
      clear h7 hXB
      go_wp2_with (first
        | (go_at_call 20; refine (txeq_any a2 n q2 b2 m r2 t a n q b m r t wC (HO.out.below hBC) (HAT.out.below hBC)).mono ?_; rw [decide_eq_true rfl]; rintro e wD ⟨rfl, hbD⟩)
        | (go_at_call 20; refine (txeq_any a3 n3 q3 b3 m3 r3 t a n q b m r t wB HK3.out (HAT.out.below hB8)).mono ?_; rw [decide_eq_true rfl]; rintro e wC ⟨rfl, hbC⟩; have hBC := hB8.trans (hbC.mono hB8.size); have hCC := hC.trans (hBC.mono hC.size); have hXC := HX.out.under hCC HX.out.lt; have h5C := H5.out.under hCC H5.out.lt; have e10 : wC.cell? ⟨g1, 0, none⟩ = some (.slice a n q) := hXC.cell_at rfl; have e11 : wC.cell? ⟨g1, 1, none⟩ = some (.slice b m r) := hXC.cell_at rfl; have e12 : wC.cell? ⟨g1, 2, none⟩ = some (.bool t.firm) := hXC.cell_at rfl; have e50 : wC.cell? ⟨g5, 0, none⟩ = some (.slice a2 n q2) := h5C.cell_at rfl; have e51 : wC.cell? ⟨g5, 1, none⟩ = some (.slice b2 m r2) := h5C.cell_at rfl; have e52 : wC.cell? ⟨g5, 2, none⟩ = some (.bool t.firm) := h5C.cell_at rfl; clear hXC h5C))
      go_ret
      exact ⟨rfl, hT8.trans ((hBC.trans (hbD.mono hBC.size)).mono hT8.size)⟩
    · have hcn : (ch != 0) = true := by simpa using hc0
      have HC0 := Lib.hid hc0
      clear hc0
      go_wp2_with (first
        | (go_at_call 20; refine (txeq_any a2 n q2 b2 m r2 t a n q b m r t w9 (HO.out.below hk9) (HAT.out.below hk9)).mono ?_; rw [decide_eq_true rfl]; rintro e wA ⟨rfl, hkA⟩)
        | (go_at_call 19; refine (rcheck_any a n q b m r t w8 HAT.out).mono ?_; rw [← HCH.out]; rintro e w9 ⟨rfl, hk9⟩; have hC9 := hC.trans (hk9.mono hC.size); have lo2 := HTX.out.1 w9 hC9; have lt2 := HTX.out.2 w9 hC9)
        | (refine wpList_load_run rfl 25 (.tmp 2) rfl _ _ rfl lt ?_)
        | (refine wpList_load_run rfl 25 (.tmp 5) rfl _ _ rfl lo2 ?_)
        | (refine wpList_load_run rfl 25 (.tmp 2) rfl _ _ rfl lt2 ?_))
      go_ret
      exact ⟨rfl, hT8.trans ((hk9.trans (hkA.mono hk9.size)).mono hT8.size)⟩
end Go.Proofs.YtpbijcchdjppmaaDoor

/-! TxBytes: the walk -/
namespace Go.Proofs.YtpbijcchdjppmaaDoor
open Go Go.RowKit Go.ChangeShapes Go.WideShapes
theorem arg_int_tx {H : Type} {enc : TypeId × Value → H} {P : Program} {W : World} {base : Nat} {v : Value} {d : DataW H} {p : List MemPlace} {t : TypeId} (ht : P.underlying t = some (.int .i64)) (o : Value.okWide P W .any base t v) (h : DataW.Trod enc P W 0 (fun _ => true) true t v d p) :
    ∃ z : Int, v = .int .i64 z ∧ (-9223372036854775808 ≤ z ∧ z < 9223372036854775808) := by
  obtain ⟨a, rfl, rfl, rfl, wa⟩ := open_int ht o h
  have := bounds_i64 wa
  exact ⟨a, rfl, by omega⟩
set_option maxRecDepth 100000 in
theorem txBytesWalk {H : Type} {enc : TypeId × Value → H} (W : World) (base : Nat) (v0 : Value) (d0 : DataW H) (p0 : List MemPlace) (v1 : Value) (d1 : DataW H) (p1 : List MemPlace)
    (o0 : Value.okWide Tryd.prog W .any base 25 v0) (o1 : Value.okWide Tryd.prog W .any base 3 v1)
    (h0 : DataW.Trod enc Tryd.prog W 0 (fun _ => true) true 25 v0 d0 p0) (h1 : DataW.Trod enc Tryd.prog W 0 (fun _ => true) true 3 v1 d1 p1) (hL : laidMetH Tryd.prog Rows.txBytesRow.laid W) :
    Calls Tryd.prog 3 #[v0, v1] W fun e w' => e = .returned (.bool true) ∧ Below W.heap.size W w' := by
  obtain ⟨a, n, q, b, m, r, t, rfl, ht⟩ := arg_tx o0 h0
  obtain ⟨z, rfl, _⟩ := arg_int_tx Tryd.underlying3 o1 h1
  exact bytesMain a n q b m r t z W ht (tlaid_dg3 hL).1 (tlaid_dg3 hL).2
end Go.Proofs.YtpbijcchdjppmaaDoor
