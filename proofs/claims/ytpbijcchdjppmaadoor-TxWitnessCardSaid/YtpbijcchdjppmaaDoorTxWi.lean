/- TxWitness (mktxw.py) -/
import Derived.Test.YtpbijcchdjppmaaDoorTxV
namespace Go.Proofs.YtpbijcchdjppmaaDoor
open Go Go.RowKit Go.ChangeShapes Go.WideShapes
set_option maxRecDepth 100000 in
set_option maxHeartbeats 16000000 in
theorem witnessMain (a : Option Addr) (n q : Nat) (b : Option Addr) (m r : Nat) (t : Tx.T) (z : Int) (key : List (BitVec 8)) (sl : BitVec 64) (W : World) (ht : TxAt W a n q b m r t) (hkm : key.length ≤ 9223372036854775807) (hK : KDg W) :
    Calls Tryd.prog 4 #[.agg #[.slice a n q, .slice b m r, .bool t.firm, .int .i64 z, .string (strB key), .int .u64 (nb64 sl)]] W fun e w' => e = .returned (.bool true) ∧ Below W.heap.size W w' := by
  have HAT := Lib.hid ht
  have HKD := Lib.hid hK
  have hsz := strB_size key
  obtain ⟨kl, hkl⟩ : ∃ k, k = key.length := ⟨_, rfl⟩
  rw [← hkl] at hsz hkm
  have HKL := Lib.hid hkl
  have hnmx : n ≤ 9223372036854775807 := ht.sp.2.1
  clear ht hK hkl
  go_enter Tryd.func4, Tryd.ntmps4
  go_upto_region 1 with fail
  obtain ⟨W1, hW1⟩ : ∃ x, x = W.alloc (.cells #[.slice a n q, .slice b m r, .bool t.firm, .int .i64 z, .string (strB key), .int .u64 (nb64 sl)] 46) := ⟨_, rfl⟩
  have hT1 : Below W.heap.size W W1 := by rw [hW1]; exact (Below.refl _ W).alloc (Nat.le_refl _) _
  have hX : Has W1 W.heap.size 46 #[.slice a n q, .slice b m r, .bool t.firm, .int .i64 z, .string (strB key), .int .u64 (nb64 sl)] := by rw [hW1]; exact Has.fresh W _ _
  rw [← hW1]
  clear hW1
  obtain ⟨g1, hg1⟩ : ∃ g, g = W.heap.size := ⟨_, rfl⟩
  rw [← hg1]
  rw [← hg1] at hX
  have HG1 := Lib.hid hg1
  clear hg1
  go_upto_region 3 with (go_at_call 5; refine (alive10 txA W1).mono ?_; rintro e w2 ⟨rfl, hb2⟩)
  have hT2 := hT1.trans (hb2.mono hT1.size)
  replace hX := hX.under hb2 hX.lt
  replace HAT := Lib.hid (HAT.out.below hT2)
  have lX := oth_tx hX
  obtain ⟨w3, hw3⟩ : ∃ x, x = w2.alloc (.cells #[.slice a n q, .slice b m r, .bool t.firm] 25) := ⟨_, rfl⟩
  have hb3 : Below w2.heap.size w2 w3 := by rw [hw3]; exact (Below.refl _ _).alloc (Nat.le_refl _) _
  have HTS := Lib.hid (show Txs w3 (some ⟨w2.heap.size, 0, none⟩) 1 [⟨a, n, q, b, m, r, t⟩] from
    ⟨recs_fresh (R := vRec) (fun _ _ => trivial) (by rw [hw3]; exact Has.fresh _ _ _) (by show 1 ≤ maxLen; unfold maxLen; omega) (fun j v hj => by rw [List.getElem?_toArray]; exact hj),
      fun x hx => by
        obtain rfl := List.mem_singleton.1 hx
        exact HAT.out.below hb3⟩)
  have HW3 := Lib.hid hw3
  have HX := Lib.hid hX
  clear hw3 hb2 hT1 hX
  go_upto_region 5 with (first
    | (go_at_call 6; rw [← HW3.out]; refine (large_any _ 1 1 _ w3 HTS.out).mono ?_; rintro e w4 ⟨bl, rfl, hsm, hb4⟩; have HSM := Lib.hid hsm; clear hsm; have hb24 := hb3.trans (hb4.mono hb3.size); have hX4 := HX.out.under hb24 HX.out.lt; have c4 : w4.cell? ⟨g1, 4, none⟩ = some (.string (strB key)) := hX4.cell_at rfl; have c0 : w4.cell? ⟨g1, 0, none⟩ = some (.slice a n q) := hX4.cell_at rfl)
    | (refine wpList_load_run rfl 25 (.tmp 8) rfl _ _ rfl lX ?_))
  all_goals try (go_ret; exact ⟨rfl, hT2.trans (hb24.mono hT2.size)⟩)
  have hblf : bl = false := by first | rfl | assumption | simp_all
  have hn5 : ((n : Int) == 0) = false := And.right (a := (kl : Int) ≤ 300) (by assumption)
  have hn0 : 0 < n := by
    rcases Nat.eq_zero_or_pos n with h | h
    · rw [h] at hn5
      cases hn5
    · exact h
  have HN0 := Lib.hid (show 0 < n ∧ kl ≤ 300 from ⟨hn0, by omega⟩)
  clear hn0 hn5
  have SA := Lib.hid ((HSM.out hblf).2 _ List.mem_cons_self)
  replace HX := Lib.hid hX4
  have HAT4 := Lib.hid (HAT.out.below hb24)
  replace HAT := Lib.hid (HAT.out.below hb24)
  have HT4 := Lib.hid (hT2.trans (hb24.mono hT2.size))
  have hT4 := hT2.trans (hb24.mono hT2.size)
  have HX4 := Lib.hid (show g1 < w4.heap.size from hX4.lt)
  clear hb24 hT2 lX hb3 HTS HW3 hb4 HSM hX4 c4 c0
  have HNM := Lib.hid (show n ≤ 30 ∧ m ≤ 30 ∧ kl ≤ 300 from ⟨by have := SA.out.1; have e : t.sp.length = n := HAT.out.sp.1; show n ≤ 30; rw [← e]; exact this, by have := SA.out.2.1; have e : t.co.length = m := HAT.out.co.1; show m ≤ 30; rw [← e]; exact this, HN0.out.2⟩)
  have lX := oth_tx HX.out
  go_upto_region 6 with (first
    | (go_at_call 7; refine (copy_any a n q b m r t w4 HAT.out (by have := HNM.out.1; omega) (by have := HNM.out.2.1; omega)).mono ?_; rintro e w5 ⟨a2, q2, b2, r2, rfl, hown, hb5⟩)
    | (refine wpList_load_run rfl 25 (.tmp 25) rfl _ _ rfl lX ?_))
  clear lX
  obtain ⟨w6, hw6⟩ : ∃ x, x = w5.alloc (.cells #[.slice a2 n q2, .slice b2 m r2, .bool t.firm] 25) := ⟨_, rfl⟩
  have hb6 : Below w5.heap.size w5 w6 := by rw [hw6]; exact (Below.refl _ _).alloc (Nat.le_refl _) _
  have h3 : Has w6 w5.heap.size 25 #[.slice a2 n q2, .slice b2 m r2, .bool t.firm] := by rw [hw6]; exact Has.fresh _ _ _
  rw [← hw6]
  obtain ⟨g3, hg3⟩ : ∃ g, g = w5.heap.size := ⟨_, rfl⟩
  rw [← hg3]
  rw [← hg3] at h3
  have hb46 := hb5.trans (hb6.mono hb5.size)
  obtain ⟨gs, cur, rfl, hgs, hcur, hcs⟩ := (hown.sp.rowed).open HN0.out.1
  have HOW := Lib.hid (hown.below hb6)
  have HCU := Lib.hid (hcur.under hb6 hcur.lt)
  have HGS := Lib.hid (show w4.heap.size ≤ gs ∧ gs ≠ g3 ∧ n * 35 ≤ cur.size from ⟨hgs, by have := hcur.lt; omega, hcs⟩)
  replace HX := Lib.hid (HX.out.under hb46 HX.out.lt)
  replace HAT := Lib.hid (HAT.out.below hb46)
  have HT6 := Lib.hid (hT4.trans (hb46.mono hT4.size))
  have HB46 := Lib.hid hb46
  clear hw6 hb6 hb5 hb46 hown hcur hg3 hgs hcs hT4
  have H3 := Lib.hid h3
  have d0 : w6.cell? ⟨g3, 0, none⟩ = some (.slice (some ⟨gs, 0, none⟩) n q2) := h3.cell_at rfl
  have c3 : w6.cell? ⟨g1, 3, none⟩ = some (.int .i64 z) := HX.out.cell_at rfl
  have hzu := int_to_u64 z
  obtain ⟨x, hx⟩ : ∃ x, x = BitVec.ofInt 64 z := ⟨_, rfl⟩
  rw [← hx] at hzu
  clear h3 hx
  have hn0 : ¬ n = 0 := by have := HN0.out.1; omega
  obtain ⟨k, hk⟩ : ∃ k, k = x.toNat % n := ⟨_, rfl⟩
  have hkn : k < n := by rw [hk]; exact Nat.mod_lt _ HN0.out.1
  have hwk : IntKind.i64.wrap ((nb64 x).tmod (n : Int)) = (k : Int) := by
    have e : (nb64 x).tmod (n : Int) = ((x.toNat % n : Nat) : Int) := by rw [nb64, Int.tmod_eq_emod_of_nonneg (by omega)]; rfl
    rw [e, ← hk]
    exact IntWalk.i64_in _ (by have := HNM.out.1; omega)
  clear hk
  go_upto_region 7 with fail
  clear hwk hzu c3 d0 hn0
  have hki : (k : Int) < (n : Int) := by omega
  have hk0 : (0 : Int) ≤ (k : Int) := by omega
  obtain ⟨s, hs⟩ := HOW.out.at.sp.get hkn
  have HS := Lib.hid hs
  clear hs
  obtain ⟨ws, hws⟩ : ∃ x, x = w6.drew := ⟨_, rfl⟩
  have hbs : Below w6.heap.size w6 ws := by rw [hws]; exact (Below.refl _ _).drew
  have HXs := Lib.hid (HX.out.under hbs HX.out.lt)
  have H3s := Lib.hid (H3.out.under hbs H3.out.lt)
  have HCs := Lib.hid (HCU.out.under hbs HCU.out.lt)
  have HOs := Lib.hid (HOW.out.below hbs)
  have HNE := Lib.hid (show g1 ≠ gs ∧ g3 ≠ gs from ⟨by have e1 := HGS.out.1; have e2 := HG1.out; have e3 := HX4.out; omega, HGS.out.2.1.symm⟩)
  refine wp_region_held_drew (S := HeldM (fun j => j = gs) ws) (by kernel_rfl) (by rw [hws]; exact HeldM.refl _ _) (fun hHeld => ?_)
  rw [← hws] at hHeld ⊢
  clear hws
  refine take_at (v := ?_) 0 37 rfl rfl (by kernel_rfl) (by kernel_rfl) (by kernel_rfl) (fun _ _ _ h => h) hHeld (Or.inl ⟨by rfl, ?_⟩) rfl ?_
  rotate_left
  · intro wq hSw
    go_simp
    try with_reducible rfl
  simp only [List.set_cons_zero, List.set_cons_succ]
  refine take_at (v := ?_) 1 38 rfl rfl (by kernel_rfl) (by kernel_rfl) (by kernel_rfl) (fun _ _ _ h => h) hHeld (Or.inl ⟨by rfl, ?_⟩) rfl ?_
  rotate_left
  · intro wq hSw
    have hst := (H3s.out.moved hSw.out (fun e => HNE.out.2 e)).cell_at (i := 0) rfl
    go_simp
    try with_reducible rfl
  simp only [List.set_cons_zero, List.set_cons_succ]
  refine take_at (v := ?_) 2 39 rfl rfl (by kernel_rfl) (by kernel_rfl) (by kernel_rfl) (fun _ _ _ h => h) hHeld (Or.inl ⟨by rfl, ?_⟩) rfl ?_
  rotate_left
  · intro wq hSw
    go_simp
    try with_reducible rfl
  simp only [List.set_cons_zero, List.set_cons_succ]
  refine take_at (v := ?_) 3 40 rfl rfl (by kernel_rfl) (by kernel_rfl) (by kernel_rfl) (fun _ _ _ h => h) hHeld (Or.inl ⟨by rfl, ?_⟩) rfl ?_
  rotate_left
  · intro wq hSw
    go_simp
    try with_reducible rfl
  simp only [List.set_cons_zero, List.set_cons_succ]
  refine take_at (v := ?_) 4 41 rfl rfl (by kernel_rfl) (by kernel_rfl) (by kernel_rfl) (fun _ _ _ h => h) hHeld (Or.inl ⟨by rfl, ?_⟩) rfl ?_
  rotate_left
  · intro wq hSw
    have hst := (H3s.out.moved hSw.out (fun e => HNE.out.2 e)).cell_at (i := 0) rfl
    go_simp
    try with_reducible rfl
  simp only [List.set_cons_zero, List.set_cons_succ]
  refine take_at (v := ?_) 5 42 rfl rfl (by kernel_rfl) (by kernel_rfl) (by kernel_rfl) (fun _ _ _ h => h) hHeld (Or.inl ⟨by rfl, ?_⟩) rfl ?_
  rotate_left
  · intro wq hSw
    go_simp
    try with_reducible rfl
  simp only [List.set_cons_zero, List.set_cons_succ]
  refine take_at (v := ?_) 6 43 rfl rfl (by kernel_rfl) (by kernel_rfl) (by kernel_rfl) (fun _ _ _ h => h) hHeld (Or.inl ⟨by rfl, ?_⟩) rfl ?_
  rotate_left
  · intro wq hSw
    go_simp
    try with_reducible rfl
  simp only [List.set_cons_zero, List.set_cons_succ]
  refine take_at (v := ?_) 7 44 rfl rfl (by kernel_rfl) (by kernel_rfl) (by kernel_rfl) (fun _ _ _ h => h) hHeld (Or.inl ⟨by rfl, ?_⟩) rfl ?_
  rotate_left
  · intro wq hSw
    have hst := (HXs.out.moved hSw.out (fun e => HNE.out.1 e)).cell_at (i := 4) rfl
    go_simp
    try with_reducible rfl
  simp only [List.set_cons_zero, List.set_cons_succ]
  refine take_at (v := ?_) 8 45 rfl rfl (by kernel_rfl) (by kernel_rfl) (by kernel_rfl) (fun _ _ _ h => h) hHeld (Or.inl ⟨by rfl, ?_⟩) rfl ?_
  rotate_left
  · intro wq hSw
    go_simp
    try with_reducible rfl
  simp only [List.set_cons_zero, List.set_cons_succ]
  refine take_at (v := ?_) 9 46 rfl rfl (by kernel_rfl) (by kernel_rfl) (by kernel_rfl) (fun _ _ _ h => h) hHeld (Or.inl ⟨by rfl, ?_⟩) rfl ?_
  rotate_left
  · intro wq hSw
    have hst := (HXs.out.moved hSw.out (fun e => HNE.out.1 e)).cell_at (i := 5) rfl
    go_simp
    try with_reducible rfl
  simp only [List.set_cons_zero, List.set_cons_succ]
  refine take_at (v := ?_) 10 47 rfl rfl (by kernel_rfl) (by kernel_rfl) (by kernel_rfl) (fun _ _ _ h => h) hHeld (Or.inl ⟨by rfl, ?_⟩) rfl ?_
  rotate_left
  · intro wq hSw
    go_simp
    try with_reducible rfl
  simp only [List.set_cons_zero, List.set_cons_succ]
  refine take_at (v := ?_) 11 48 rfl rfl (by kernel_rfl) (by kernel_rfl) (by kernel_rfl) (fun _ _ _ h => h) hHeld (Or.inl ⟨by rfl, ?_⟩) rfl ?_
  rotate_left
  · intro wq hSw
    go_simp
    try with_reducible rfl
  simp only [List.set_cons_zero, List.set_cons_succ]
  obtain ⟨v33, hv33⟩ : ∃ v, cur[k * 35 + 33]? = some v := ⟨cur[k * 35 + 33]'(by have := HGS.out.2.2; omega), Array.getElem?_eq_getElem _⟩
  have q33 : ws.cell? ⟨gs, k * 35 + 33, none⟩ = some v33 := HCs.out.cell_at hv33
  have l33 := HCs.out.loose (k * 35 + 33)
  clear hv33
  refine wpAnyH_ready (rs := [12]) (by kernel_rfl) (by simp) ?_
  refine AllReadyH.cons rfl (fun K hK => ?_) AllReadyH.nil
  go_simp
  obtain ⟨wa, hwa⟩ : ∃ x, x = ws.setCell ⟨gs, k * 35 + 33, none⟩ (.string (strB key)) := ⟨_, rfl⟩
  rw [← hwa]
  have hma : Moved (fun j => j = gs) ws wa := by rw [hwa]; exact Moved.put (F := fun j => j = gs) (Moved.refl _ _) (.inl rfl) _ _
  refine hK.out _ _ (HeldM.of hma) (fun _ => ?_)
  clear hK K
  refine heldM_grow (w1 := wa) hma ?_
  clear hHeld
  have hHeld : HeldM (fun j => j = gs) wa wa := HeldM.refl _ _
  have Hwa := Lib.hid hwa
  clear hwa
  clear q33 l33
  refine take_at (v := ?_) 13 49 rfl rfl (by kernel_rfl) (by kernel_rfl) (by kernel_rfl) (fun _ _ _ h => h) hHeld (Or.inl ⟨by rfl, ?_⟩) rfl ?_
  rotate_left
  · intro wq hSw
    go_simp
    try with_reducible rfl
  simp only [List.set_cons_zero, List.set_cons_succ]
  refine take_at (v := ?_) 14 50 rfl rfl (by kernel_rfl) (by kernel_rfl) (by kernel_rfl) (fun _ _ _ h => h) hHeld (Or.inl ⟨by rfl, ?_⟩) rfl ?_
  rotate_left
  · intro wq hSw
    go_simp
    try with_reducible rfl
  simp only [List.set_cons_zero, List.set_cons_succ]
  have hca : Has wa gs 49 (cur.setIfInBounds (k * 35 + 33) (.string (strB key))) := by rw [Hwa.out]; exact HCs.out.put _ _
  obtain ⟨v34, hv34⟩ : ∃ v, (cur.setIfInBounds (k * 35 + 33) (.string (strB key)))[k * 35 + 34]? = some v := ⟨(cur.setIfInBounds (k * 35 + 33) (.string (strB key)))[k * 35 + 34]'(by rw [Array.size_setIfInBounds]; have := HGS.out.2.2; omega), Array.getElem?_eq_getElem _⟩
  have q34 : wa.cell? ⟨gs, k * 35 + 34, none⟩ = some v34 := hca.cell_at hv34
  have l34 := hca.loose (k * 35 + 34)
  clear hv34
  refine wpAnyH_ready (rs := [15]) (by kernel_rfl) (by simp) ?_
  refine AllReadyH.cons rfl (fun K hK => ?_) AllReadyH.nil
  go_simp
  obtain ⟨wb, hwb⟩ : ∃ x, x = wa.setCell ⟨gs, k * 35 + 34, none⟩ (.int .u64 (nb64 sl)) := ⟨_, rfl⟩
  rw [← hwb]
  have hmb : Moved (fun j => j = gs) wa wb := by rw [hwb]; exact Moved.put (F := fun j => j = gs) (Moved.refl _ _) (.inl rfl) _ _
  refine hK.out _ _ (HeldM.of hmb) (fun _ => ?_)
  clear hK K
  refine heldM_grow (w1 := wb) hmb ?_
  clear hHeld
  have hHeld : HeldM (fun j => j = gs) wb wb := HeldM.refl _ _
  have Hwb := Lib.hid hwb
  clear hwb
  clear q34 l34
  refine wpAnyH_done (by kernel_rfl) ?_ _
  have hmab : Moved (fun j => j = gs) ws wb := hma.trans hmb (fun _ e => .inl e)
  have hkl300 : key.length ≤ 300 := by rw [← HKL.out]; exact HN0.out.2
  obtain ⟨u, hu⟩ : ∃ u, u = Tx.tw t k (Tx.sw s key sl) := ⟨_, rfl⟩
  have hOs := HOs.out.at
  have HOB := Lib.hid (show TxAt wb (some ⟨gs, 0, none⟩) n q2 b2 m r2 u from ⟨
    by rw [hu]; exact recs_wit hOs.sp HCs.out HS.out key sl hkl300 (by rw [Hwb.out, Hwa.out]),
    by
      rw [hu]
      refine hOs.co.moved hmab (fun hm y hy e => ?_)
      obtain ⟨gc, cc, hgc, _, hcc, _⟩ := (HOs.out.co.rowed).open hm
      rw [hgc] at hy
      injection hy with hy
      subst hy
      exact Has.ne_type hcc HCs.out (by decide) e,
    hOs.nq, hOs.mr, hOs.q0, hOs.r0⟩)
  have HFU := Lib.hid (show t.firm = u.firm by rw [hu]; rfl)
  have HSU := Lib.hid (show Tx.Small u by rw [hu]; exact Tx.wit_small SA.out k s key sl hkl300)
  have HUE := Lib.hid (show Tx.enc false u = Tx.enc false t ∧ (Tx.enc true u = Tx.enc true t ↔ u = t) by rw [hu]; exact ⟨Tx.base_wit HS.out key sl, Tx.bytes_wit HS.out key sl⟩)
  have hBs6 : Below w4.heap.size w4 ws := HB46.out.trans (hbs.mono HB46.out.size)
  have hB4b : Below w4.heap.size w4 wb := by
    rw [Hwb.out, Hwa.out]
    exact (hBs6.setCell (p := ⟨gs, _, none⟩) HGS.out.1 _).setCell (p := ⟨gs, _, none⟩) HGS.out.1 _
  have HATB := Lib.hid (HAT4.out.below hB4b)
  have HXB := Lib.hid (HXs.out.moved hmab (fun e => HNE.out.1 e))
  have H3B := Lib.hid (H3s.out.moved hmab (fun e => HNE.out.2 e))
  have hTB := HT4.out.trans (hB4b.mono HT4.out.size)
  have HKB := Lib.hid (HKD.out.below hTB)
  clear Hwa Hwb hu hOs hma hmb hmab hHeld hca hB4b hBs6 hbs
  go_upto_region 8 with fail

  obtain ⟨wd, hwd⟩ : ∃ x, x = wb.drew := ⟨_, rfl⟩
  have hbd : Below wb.heap.size wb wd := by rw [hwd]; exact (Below.refl _ _).drew
  replace HATB := Lib.hid (HATB.out.below hbd)
  replace HOB := Lib.hid (HOB.out.below hbd)
  replace HXB := Lib.hid (HXB.out.under hbd HXB.out.lt)
  replace H3B := Lib.hid (H3B.out.under hbd H3B.out.lt)
  replace HKB := Lib.hid (HKB.out.below hbd)
  replace hTB := hTB.trans (hbd.mono hTB.size)
  obtain ⟨D, hD⟩ : ∃ D, D = Tx.idOf false t := ⟨_, rfl⟩
  have HDD := Lib.hid (show Tx.idOf false u = D ∧ Tx.idOf false t = D ∧ D.length = 32 from ⟨by rw [hD, Tx.idOf, Tx.idOf, HUE.out.1], hD.symm, by rw [hD]; exact Tx.idOf_len _ _⟩)
  obtain ⟨E, hE⟩ : ∃ E, E = Tx.enc false t := ⟨_, rfl⟩
  obtain ⟨K, hK⟩ : ∃ K, K = E.length := ⟨_, rfl⟩
  have HEE := Lib.hid (show Tx.enc false u = E ∧ Tx.enc false t = E ∧ E.length = K from ⟨by rw [hE, HUE.out.1], hE.symm, hK.symm⟩)
  have hTx : ∀ wq, Below wd.heap.size wd wq → (Instr.loadAt 25 (.pointer (some ⟨g3, 0, none⟩))).run Tryd.prog wq = .ok (.agg #[.slice (some ⟨gs, 0, none⟩) n q2, .slice b2 m r2, .bool t.firm]) wq := fun wq hb => (H3B.out.under hb H3B.out.lt).load_agg (P := Tryd.prog) (t := 25) Tryd.underlying25 rfl (by kernel_rfl)
  have hTo : ∀ wq, Below wd.heap.size wd wq → (Instr.loadAt 25 (.pointer (some ⟨g1, 0, none⟩))).run Tryd.prog wq = .ok (.agg #[.slice a n q, .slice b m r, .bool t.firm]) wq := fun wq hb => oth_tx (HXB.out.under hb HXB.out.lt)
  have HTX := Lib.hid (And.intro hTx hTo)
  clear hD hE hK hTx hTo hbd
  refine wp_region_held_drew (S := Held wd) (by kernel_rfl) (by rw [hwd]; exact Held.refl _) (fun hHeld => ?_)
  rw [← hwd] at hHeld ⊢
  clear hwd
  refine take_at 0 51 rfl rfl (by kernel_rfl) (by kernel_rfl) (by kernel_rfl) (fun _ _ _ h => h) hHeld (yieldsIf_load_agg (by rfl) 25 (.tmp 3) rfl _ _ (by rfl) (fun wq hSw => HTX.out.1 wq (hSw))) rfl ?_
  simp only [List.set_cons_zero, List.set_cons_succ]
  refine take_at (v := ?_) 2 53 rfl rfl (by kernel_rfl) (by kernel_rfl) (by kernel_rfl) (fun _ _ _ h => h) hHeld (Or.inl ⟨by rfl, ?_⟩) rfl ?_
  rotate_left
  · intro wq hSw
    go_simp
    try with_reducible rfl
  simp only [List.set_cons_zero, List.set_cons_succ]
  refine take_at 3 54 rfl rfl (by kernel_rfl) (by kernel_rfl) (by kernel_rfl) (fun _ _ _ h => h) hHeld (yieldsIf_load_agg (by rfl) 25 (.tmp 53) rfl _ _ (by rfl) (fun wq hSw => HTX.out.2 wq (hSw))) rfl ?_
  simp only [List.set_cons_zero, List.set_cons_succ]
  refine wpAnyH_ready (rs := [1]) (by kernel_rfl) (by simp) ?_
  refine AllReadyH.cons rfl (fun K hK => ?_) AllReadyH.nil
  go_simp
  go_at_call 12; refine (pid_any (some ⟨gs, 0, none⟩) n q2 b2 m r2 u t.firm HFU.out wd HOB.out HSU.out HKB.out).mono ?_; rw [HDD.out.1]; rintro e k1 ⟨rfl, hk1⟩
  refine hK.out _ _ (Held.of hk1) (fun _ => ?_)
  clear hK K
  try simp only [Act.put, List.setIfInBounds_toArray, List.set_cons_zero, List.set_cons_succ]
  refine held_grow (w1 := k1) (Held.of hk1) ?_
  clear hHeld
  have hHeld : Held k1 k1 := Held.refl _
  refine wpAnyH_ready (rs := [4]) (by kernel_rfl) (by simp) ?_
  refine AllReadyH.cons rfl (fun K hK => ?_) AllReadyH.nil
  go_simp
  go_at_call 12; refine (pid_any a n q b m r t t.firm rfl k1 (HATB.out.below hk1) SA.out (HKB.out.below hk1)).mono ?_; rw [HDD.out.2.1]; rintro e k2 ⟨rfl, hk2⟩
  refine hK.out _ _ (Held.of hk2) (fun _ => ?_)
  clear hK K
  try simp only [Act.put, List.setIfInBounds_toArray, List.set_cons_zero, List.set_cons_succ]
  refine held_grow (w1 := k2) (Held.of hk2) ?_
  clear hHeld
  have hHeld : Held k2 k2 := Held.refl _
  have hC2 := hk1.trans (hk2.mono hk1.size)
  refine take_at 5 56 rfl rfl (by kernel_rfl) (by kernel_rfl) (by kernel_rfl) (fun _ _ _ h => h) hHeld (yieldsIf_neq_same (by rfl) 32 5 32 32 (.tmp 52) (.tmp 55) rfl D (by rfl) (by rfl) (by kernel_rfl) Tryd.underlying32 Tryd.underlying5 (by kernel_rfl) HDD.out.2.2) rfl ?_
  simp only [List.set_cons_zero, List.set_cons_succ]
  refine take_at (v := ?_) 6 57 rfl rfl (by kernel_rfl) (by kernel_rfl) (by kernel_rfl) (fun _ _ _ h => h) hHeld (Or.inl ⟨by rfl, ?_⟩) rfl ?_
  rotate_left
  · intro wq hSw
    go_simp
    try with_reducible rfl
  simp only [List.set_cons_zero, List.set_cons_succ]
  refine take_at 7 58 rfl rfl (by kernel_rfl) (by kernel_rfl) (by kernel_rfl) (fun _ _ _ h => h) hHeld (yieldsIf_load_agg (by rfl) 25 (.tmp 3) rfl _ _ (by rfl) (fun wq hSw => HTX.out.1 wq (hC2.trans (hSw.mono hC2.size)))) rfl ?_
  simp only [List.set_cons_zero, List.set_cons_succ]
  refine take_at (v := ?_) 10 61 rfl rfl (by kernel_rfl) (by kernel_rfl) (by kernel_rfl) (fun _ _ _ h => h) hHeld (Or.inl ⟨by rfl, ?_⟩) rfl ?_
  rotate_left
  · intro wq hSw
    go_simp
    try with_reducible rfl
  simp only [List.set_cons_zero, List.set_cons_succ]
  refine take_at 11 62 rfl rfl (by kernel_rfl) (by kernel_rfl) (by kernel_rfl) (fun _ _ _ h => h) hHeld (yieldsIf_load_agg (by rfl) 25 (.tmp 61) rfl _ _ (by rfl) (fun wq hSw => HTX.out.2 wq (hC2.trans (hSw.mono hC2.size)))) rfl ?_
  simp only [List.set_cons_zero, List.set_cons_succ]
  refine wpAnyH_ready (rs := [8]) (by kernel_rfl) (by simp) ?_
  refine AllReadyH.cons rfl (fun K hK => ?_) AllReadyH.nil
  go_simp
  go_at_call 10; refine (pbase_any (some ⟨gs, 0, none⟩) n q2 b2 m r2 u t.firm HFU.out k2 (HOB.out.below hC2) HSU.out).mono ?_; rw [HEE.out.1]; rintro e k3 ⟨v3, rfl, ho3, hk3⟩; obtain ⟨x3, c3, rfl, hc3, h03, hy3⟩ := ho3.shape HEE.out.2.2
  refine hK.out _ _ (Held.of hk3) (fun _ => ?_)
  clear hK K
  try simp only [Act.put, List.setIfInBounds_toArray, List.set_cons_zero, List.set_cons_succ]
  refine held_grow (w1 := k3) (Held.of hk3) ?_
  clear hHeld
  have hHeld : Held k3 k3 := Held.refl _
  have hC3 := hC2.trans (hk3.mono hC2.size)
  refine take_at (v := ?_) 9 60 rfl rfl (by kernel_rfl) (by kernel_rfl) (by kernel_rfl) (fun _ _ _ h => h) hHeld (Or.inl ⟨by rfl, ?_⟩) rfl ?_
  rotate_left
  · intro wq hSw
    have hst := run_string (P := Tryd.prog) 29 9 5 Tryd.underlying29 Tryd.underlying5 Tryd.underlying9 (c := c3) (hy3.below hSw)
    go_simp
    try with_reducible rfl
  simp only [List.set_cons_zero, List.set_cons_succ]
  refine wpAnyH_ready (rs := [12]) (by kernel_rfl) (by simp) ?_
  refine AllReadyH.cons rfl (fun K hK => ?_) AllReadyH.nil
  go_simp
  go_at_call 10; refine (pbase_any a n q b m r t t.firm rfl k3 (HATB.out.below hC3) SA.out).mono ?_; rw [HEE.out.2.1]; rintro e k4 ⟨v4, rfl, ho4, hk4⟩; obtain ⟨x4, c4, rfl, hc4, h04, hy4⟩ := ho4.shape HEE.out.2.2
  refine hK.out _ _ (Held.of hk4) (fun _ => ?_)
  clear hK K
  try simp only [Act.put, List.setIfInBounds_toArray, List.set_cons_zero, List.set_cons_succ]
  refine held_grow (w1 := k4) (Held.of hk4) ?_
  clear hHeld
  have hHeld : Held k4 k4 := Held.refl _
  have hC4 := hC3.trans (hk4.mono hC3.size)
  refine take_at (v := ?_) 13 64 rfl rfl (by kernel_rfl) (by kernel_rfl) (by kernel_rfl) (fun _ _ _ h => h) hHeld (Or.inl ⟨by rfl, ?_⟩) rfl ?_
  rotate_left
  · intro wq hSw
    have hst := run_string (P := Tryd.prog) 29 9 5 Tryd.underlying29 Tryd.underlying5 Tryd.underlying9 (c := c4) (hy4.below hSw)
    go_simp
    try with_reducible rfl
  simp only [List.set_cons_zero, List.set_cons_succ]
  refine take_at (v := .bool false) 14 65 rfl rfl (by kernel_rfl) (by kernel_rfl) (by kernel_rfl) (fun _ _ _ h => h) hHeld (Or.inl ⟨by rfl, ?_⟩) rfl ?_
  · intro wq hSw
    go_simp
    skip
  simp only [List.set_cons_zero, List.set_cons_succ]
  refine take_at (v := ?_) 15 66 rfl rfl (by kernel_rfl) (by kernel_rfl) (by kernel_rfl) (fun _ _ _ h => h) hHeld (Or.inl ⟨by rfl, ?_⟩) rfl ?_
  rotate_left
  · intro wq hSw
    go_simp
    try with_reducible rfl
  simp only [List.set_cons_zero, List.set_cons_succ]
  refine wpAnyH_done (by kernel_rfl) ?_ _
  clear hHeld ho3 ho4 hy3 hy4 hk1 hk2 hk3 hk4 hC2 hC3
  have lX := HTX.out.1 k4 hC4
  have lO := HTX.out.2 k4 hC4
  have HTQ := Lib.hid (show Calls Tryd.prog 20 #[txv (some ⟨gs, 0, none⟩) n q2 b2 m r2 t.firm, txv a n q b m r t.firm] k4 (fun e w' => e = .returned (.bool (decide (u = t))) ∧ Below k4.heap.size k4 w') by
    have h := txeq_any (some ⟨gs, 0, none⟩) n q2 b2 m r2 u a n q b m r t k4 (HOB.out.below hC4) (HATB.out.below hC4)
    rw [← HFU.out] at h
    exact h)
  go_upto_region 11 with (first
    | (go_at_call 20; refine HTQ.out.mono ?_; rintro e k5 ⟨rfl, hk5⟩)
    | (refine wpList_load_run rfl 25 (.tmp 3) rfl _ _ rfl lX ?_)
    | (refine wpList_load_run rfl 25 (.tmp 68) rfl _ _ rfl lO ?_))
  clear lX lO
  have hC5 := hC4.trans (hk5.mono hC4.size)
  obtain ⟨E2, hE2⟩ : ∃ E, E = Tx.enc true u := ⟨_, rfl⟩
  obtain ⟨E3, hE3⟩ : ∃ E, E = Tx.enc true t := ⟨_, rfl⟩
  obtain ⟨K2, hK2⟩ : ∃ K, K = E2.length := ⟨_, rfl⟩
  obtain ⟨K3, hK3⟩ : ∃ K, K = E3.length := ⟨_, rfl⟩
  have HE2 := Lib.hid (show Tx.enc true u = E2 ∧ Tx.enc true t = E3 ∧ E2.length = K2 ∧ E3.length = K3 from ⟨hE2.symm, hE3.symm, hK2.symm, hK3.symm⟩)
  have HEQ := Lib.hid (show E2 = E3 ↔ u = t by rw [hE2, hE3]; exact HUE.out.2)
  clear hE2 hE3 hK2 hK3
  obtain ⟨we, hwe⟩ : ∃ x, x = k5.drew := ⟨_, rfl⟩
  have hbe : Below k5.heap.size k5 we := by rw [hwe]; exact (Below.refl _ _).drew
  have hC6 := hC5.trans (hbe.mono hC5.size)
  have HC6 := Lib.hid hC6
  clear hbe hC4 hk5 hC5 hC6
  by_cases hut : u = t
  · have hee : E2 = E3 := HEQ.out.2 hut
    rw [decide_eq_true hut]
    obtain ⟨WD, hWD⟩ : ∃ D, D = Tx.idOf true t := ⟨_, rfl⟩
    have HWD := Lib.hid (show Tx.idOf true u = WD ∧ Tx.idOf true t = WD ∧ WD.length = 32 from ⟨by rw [hWD, hut], hWD.symm, by rw [hWD]; exact Tx.idOf_len _ _⟩)
    clear hWD hut
    have HST := Lib.hid (show ((strB E2).toList == (strB E3).toList) = true by rw [strB_beq]; exact decide_eq_true hee)
    clear hee
    refine wp_region_held_drew (S := Held we) (by kernel_rfl) (by rw [hwe]; exact Held.refl _) (fun hHeld => ?_)
    rw [← hwe] at hHeld ⊢
    clear hwe
    have hC6 := HC6.out
    refine take_at 0 71 rfl rfl (by kernel_rfl) (by kernel_rfl) (by kernel_rfl) (fun _ _ _ h => h) hHeld (yieldsIf_load_agg (by rfl) 25 (.tmp 3) rfl _ _ (by rfl) (fun wq hSw => HTX.out.1 wq (hC6.trans (hSw.mono hC6.size)))) rfl ?_
    simp only [List.set_cons_zero, List.set_cons_succ]
    refine take_at (v := ?_) 3 74 rfl rfl (by kernel_rfl) (by kernel_rfl) (by kernel_rfl) (fun _ _ _ h => h) hHeld (Or.inl ⟨by rfl, ?_⟩) rfl ?_
    rotate_left
    · intro wq hSw
      go_simp
      try with_reducible rfl
    simp only [List.set_cons_zero, List.set_cons_succ]
    refine take_at 4 75 rfl rfl (by kernel_rfl) (by kernel_rfl) (by kernel_rfl) (fun _ _ _ h => h) hHeld (yieldsIf_load_agg (by rfl) 25 (.tmp 74) rfl _ _ (by rfl) (fun wq hSw => HTX.out.2 wq (hC6.trans (hSw.mono hC6.size)))) rfl ?_
    simp only [List.set_cons_zero, List.set_cons_succ]
    refine take_at (v := ?_) 8 79 rfl rfl (by kernel_rfl) (by kernel_rfl) (by kernel_rfl) (fun _ _ _ h => h) hHeld (Or.inl ⟨by rfl, ?_⟩) rfl ?_
    rotate_left
    · intro wq hSw
      go_simp
      try with_reducible rfl
    simp only [List.set_cons_zero, List.set_cons_succ]
    refine wpAnyH_ready (rs := [1]) (by kernel_rfl) (by simp) ?_
    refine AllReadyH.cons rfl (fun K hK => ?_) AllReadyH.nil
    go_simp
    go_at_call 8; refine (pbytes_any (some ⟨gs, 0, none⟩) n q2 b2 m r2 u t.firm HFU.out we (HOB.out.below hC6) HSU.out).mono ?_; rw [HE2.out.1]; rintro e k6 ⟨v6, rfl, ho6, hk6⟩; obtain ⟨x6, c6, rfl, hc6, h06, hy6⟩ := ho6.shape HE2.out.2.2.1
    refine hK.out _ _ (Held.of hk6) (fun _ => ?_)
    clear hK K
    try simp only [Act.put, List.setIfInBounds_toArray, List.set_cons_zero, List.set_cons_succ]
    refine held_grow (w1 := k6) (Held.of hk6) ?_
    clear hHeld
    have hHeld : Held k6 k6 := Held.refl _
    have hC7 := hC6.trans (hk6.mono hC6.size)
    refine take_at (v := ?_) 2 73 rfl rfl (by kernel_rfl) (by kernel_rfl) (by kernel_rfl) (fun _ _ _ h => h) hHeld (Or.inl ⟨by rfl, ?_⟩) rfl ?_
    rotate_left
    · intro wq hSw
      have hst := run_string (P := Tryd.prog) 29 9 5 Tryd.underlying29 Tryd.underlying5 Tryd.underlying9 (c := c6) (hy6.below hSw)
      go_simp
      try with_reducible rfl
    simp only [List.set_cons_zero, List.set_cons_succ]
    refine wpAnyH_ready (rs := [5]) (by kernel_rfl) (by simp) ?_
    refine AllReadyH.cons rfl (fun K hK => ?_) AllReadyH.nil
    go_simp
    go_at_call 8; refine (pbytes_any a n q b m r t t.firm rfl k6 (HATB.out.below hC7) SA.out).mono ?_; rw [HE2.out.2.1]; rintro e k7 ⟨v7, rfl, ho7, hk7⟩; obtain ⟨x7, c7, rfl, hc7, h07, hy7⟩ := ho7.shape HE2.out.2.2.2
    refine hK.out _ _ (Held.of hk7) (fun _ => ?_)
    clear hK K
    try simp only [Act.put, List.setIfInBounds_toArray, List.set_cons_zero, List.set_cons_succ]
    refine held_grow (w1 := k7) (Held.of hk7) ?_
    clear hHeld
    have hHeld : Held k7 k7 := Held.refl _
    have hC8 := hC7.trans (hk7.mono hC7.size)
    refine take_at (v := ?_) 6 77 rfl rfl (by kernel_rfl) (by kernel_rfl) (by kernel_rfl) (fun _ _ _ h => h) hHeld (Or.inl ⟨by rfl, ?_⟩) rfl ?_
    rotate_left
    · intro wq hSw
      have hst := run_string (P := Tryd.prog) 29 9 5 Tryd.underlying29 Tryd.underlying5 Tryd.underlying9 (c := c7) (hy7.below hSw)
      go_simp
      try with_reducible rfl
    simp only [List.set_cons_zero, List.set_cons_succ]
    refine take_at (v := .bool true) 7 78 rfl rfl (by kernel_rfl) (by kernel_rfl) (by kernel_rfl) (fun _ _ _ h => h) hHeld (Or.inl ⟨by rfl, ?_⟩) rfl ?_
    · intro wq hSw
      have hst := HST.out
      go_simp
      skip
    simp only [List.set_cons_zero, List.set_cons_succ]
    refine take_at (v := ?_) 9 80 rfl rfl (by kernel_rfl) (by kernel_rfl) (by kernel_rfl) (fun _ _ _ h => h) hHeld (Or.inl ⟨by rfl, ?_⟩) rfl ?_
    rotate_left
    · intro wq hSw
      go_simp
      try with_reducible rfl
    simp only [List.set_cons_zero, List.set_cons_succ]
    refine take_at (v := ?_) 10 81 rfl rfl (by kernel_rfl) (by kernel_rfl) (by kernel_rfl) (fun _ _ _ h => h) hHeld (Or.inl ⟨by rfl, ?_⟩) rfl ?_
    rotate_left
    · intro wq hSw
      go_simp
      try with_reducible rfl
    simp only [List.set_cons_zero, List.set_cons_succ]
    refine take_at (v := ?_) 11 82 rfl rfl (by kernel_rfl) (by kernel_rfl) (by kernel_rfl) (fun _ _ _ h => h) hHeld (Or.inl ⟨by rfl, ?_⟩) rfl ?_
    rotate_left
    · intro wq hSw
      go_simp
      try with_reducible rfl
    simp only [List.set_cons_zero, List.set_cons_succ]
    refine take_at (v := ?_) 12 83 rfl rfl (by kernel_rfl) (by kernel_rfl) (by kernel_rfl) (fun _ _ _ h => h) hHeld (Or.inl ⟨by rfl, ?_⟩) rfl ?_
    rotate_left
    · intro wq hSw
      go_simp
      try with_reducible rfl
    simp only [List.set_cons_zero, List.set_cons_succ]
    refine take_at (v := ?_) 13 84 rfl rfl (by kernel_rfl) (by kernel_rfl) (by kernel_rfl) (fun _ _ _ h => h) hHeld (Or.inl ⟨by rfl, ?_⟩) rfl ?_
    rotate_left
    · intro wq hSw
      go_simp
      try with_reducible rfl
    simp only [List.set_cons_zero, List.set_cons_succ]
    refine take_at 14 85 rfl rfl (by kernel_rfl) (by kernel_rfl) (by kernel_rfl) (fun _ _ _ h => h) hHeld (yieldsIf_load_agg (by rfl) 25 (.tmp 3) rfl _ _ (by rfl) (fun wq hSw => HTX.out.1 wq (hC8.trans (hSw.mono hC8.size)))) rfl ?_
    simp only [List.set_cons_zero, List.set_cons_succ]
    refine take_at (v := ?_) 16 87 rfl rfl (by kernel_rfl) (by kernel_rfl) (by kernel_rfl) (fun _ _ _ h => h) hHeld (Or.inl ⟨by rfl, ?_⟩) rfl ?_
    rotate_left
    · intro wq hSw
      go_simp
      try with_reducible rfl
    simp only [List.set_cons_zero, List.set_cons_succ]
    refine take_at 17 88 rfl rfl (by kernel_rfl) (by kernel_rfl) (by kernel_rfl) (fun _ _ _ h => h) hHeld (yieldsIf_load_agg (by rfl) 25 (.tmp 87) rfl _ _ (by rfl) (fun wq hSw => HTX.out.2 wq (hC8.trans (hSw.mono hC8.size)))) rfl ?_
    simp only [List.set_cons_zero, List.set_cons_succ]
    refine wpAnyH_ready (rs := [15]) (by kernel_rfl) (by simp) ?_
    refine AllReadyH.cons rfl (fun K hK => ?_) AllReadyH.nil
    go_simp
    go_at_call 14; refine (pwide_any (some ⟨gs, 0, none⟩) n q2 b2 m r2 u t.firm HFU.out k7 (HOB.out.below hC8) HSU.out (HKB.out.below hC8)).mono ?_; rw [HWD.out.1]; rintro e k8 ⟨rfl, hk8⟩
    refine hK.out _ _ (Held.of hk8) (fun _ => ?_)
    clear hK K
    try simp only [Act.put, List.setIfInBounds_toArray, List.set_cons_zero, List.set_cons_succ]
    refine held_grow (w1 := k8) (Held.of hk8) ?_
    clear hHeld
    have hHeld : Held k8 k8 := Held.refl _
    have hC9 := hC8.trans (hk8.mono hC8.size)
    refine wpAnyH_ready (rs := [18]) (by kernel_rfl) (by simp) ?_
    refine AllReadyH.cons rfl (fun K hK => ?_) AllReadyH.nil
    go_simp
    go_at_call 14; refine (pwide_any a n q b m r t t.firm rfl k8 (HATB.out.below hC9) SA.out (HKB.out.below hC9)).mono ?_; rw [HWD.out.2.1]; rintro e k9 ⟨rfl, hk9⟩
    refine hK.out _ _ (Held.of hk9) (fun _ => ?_)
    clear hK K
    try simp only [Act.put, List.setIfInBounds_toArray, List.set_cons_zero, List.set_cons_succ]
    refine held_grow (w1 := k9) (Held.of hk9) ?_
    clear hHeld
    have hHeld : Held k9 k9 := Held.refl _
    have hCE := hC9.trans (hk9.mono hC9.size)
    refine take_at 19 90 rfl rfl (by kernel_rfl) (by kernel_rfl) (by kernel_rfl) (fun _ _ _ h => h) hHeld (yieldsIf_eql_same (by rfl) 32 5 32 32 (.tmp 86) (.tmp 89) rfl WD (by rfl) (by rfl) (by kernel_rfl) Tryd.underlying32 Tryd.underlying5 (by kernel_rfl) HWD.out.2.2) rfl ?_
    simp only [List.set_cons_zero, List.set_cons_succ]
    refine take_at (v := ?_) 20 91 rfl rfl (by kernel_rfl) (by kernel_rfl) (by kernel_rfl) (fun _ _ _ h => h) hHeld (Or.inl ⟨by rfl, ?_⟩) rfl ?_
    rotate_left
    · intro wq hSw
      go_simp
      try with_reducible rfl
    simp only [List.set_cons_zero, List.set_cons_succ]
    refine take_at (v := ?_) 21 92 rfl rfl (by kernel_rfl) (by kernel_rfl) (by kernel_rfl) (fun _ _ _ h => h) hHeld (Or.inl ⟨by rfl, ?_⟩) rfl ?_
    rotate_left
    · intro wq hSw
      go_simp
      try with_reducible rfl
    simp only [List.set_cons_zero, List.set_cons_succ]
    refine take_at (v := ?_) 22 2 rfl rfl (by kernel_rfl) (by kernel_rfl) (by kernel_rfl) (fun _ _ _ h => h) hHeld (Or.inl ⟨by rfl, ?_⟩) rfl ?_
    rotate_left
    · intro wq hSw
      go_simp
      try with_reducible rfl
    simp only [List.set_cons_zero, List.set_cons_succ]
    refine wpAnyH_done (by kernel_rfl) ?_ _
    go_wp2
    go_ret
    exact ⟨rfl, hTB.trans (hCE.mono hTB.size)⟩
  · have hee : ¬ E2 = E3 := fun e => hut (HEQ.out.1 e)
    rw [decide_eq_false hut]
    have HST := Lib.hid (show ((strB E2).toList == (strB E3).toList) = false by rw [strB_beq]; exact decide_eq_false hee)
    clear hee hut
    refine wp_region_held_drew (S := Held we) (by kernel_rfl) (by rw [hwe]; exact Held.refl _) (fun hHeld => ?_)
    rw [← hwe] at hHeld ⊢
    clear hwe
    have hC6 := HC6.out
    refine take_at 0 71 rfl rfl (by kernel_rfl) (by kernel_rfl) (by kernel_rfl) (fun _ _ _ h => h) hHeld (yieldsIf_load_agg (by rfl) 25 (.tmp 3) rfl _ _ (by rfl) (fun wq hSw => HTX.out.1 wq (hC6.trans (hSw.mono hC6.size)))) rfl ?_
    simp only [List.set_cons_zero, List.set_cons_succ]
    refine take_at (v := ?_) 3 74 rfl rfl (by kernel_rfl) (by kernel_rfl) (by kernel_rfl) (fun _ _ _ h => h) hHeld (Or.inl ⟨by rfl, ?_⟩) rfl ?_
    rotate_left
    · intro wq hSw
      go_simp
      try with_reducible rfl
    simp only [List.set_cons_zero, List.set_cons_succ]
    refine take_at 4 75 rfl rfl (by kernel_rfl) (by kernel_rfl) (by kernel_rfl) (fun _ _ _ h => h) hHeld (yieldsIf_load_agg (by rfl) 25 (.tmp 74) rfl _ _ (by rfl) (fun wq hSw => HTX.out.2 wq (hC6.trans (hSw.mono hC6.size)))) rfl ?_
    simp only [List.set_cons_zero, List.set_cons_succ]
    refine take_at (v := ?_) 8 79 rfl rfl (by kernel_rfl) (by kernel_rfl) (by kernel_rfl) (fun _ _ _ h => h) hHeld (Or.inl ⟨by rfl, ?_⟩) rfl ?_
    rotate_left
    · intro wq hSw
      go_simp
      try with_reducible rfl
    simp only [List.set_cons_zero, List.set_cons_succ]
    refine wpAnyH_ready (rs := [1]) (by kernel_rfl) (by simp) ?_
    refine AllReadyH.cons rfl (fun K hK => ?_) AllReadyH.nil
    go_simp
    go_at_call 8; refine (pbytes_any (some ⟨gs, 0, none⟩) n q2 b2 m r2 u t.firm HFU.out we (HOB.out.below hC6) HSU.out).mono ?_; rw [HE2.out.1]; rintro e k6 ⟨v6, rfl, ho6, hk6⟩; obtain ⟨x6, c6, rfl, hc6, h06, hy6⟩ := ho6.shape HE2.out.2.2.1
    refine hK.out _ _ (Held.of hk6) (fun _ => ?_)
    clear hK K
    try simp only [Act.put, List.setIfInBounds_toArray, List.set_cons_zero, List.set_cons_succ]
    refine held_grow (w1 := k6) (Held.of hk6) ?_
    clear hHeld
    have hHeld : Held k6 k6 := Held.refl _
    have hC7 := hC6.trans (hk6.mono hC6.size)
    refine take_at (v := ?_) 2 73 rfl rfl (by kernel_rfl) (by kernel_rfl) (by kernel_rfl) (fun _ _ _ h => h) hHeld (Or.inl ⟨by rfl, ?_⟩) rfl ?_
    rotate_left
    · intro wq hSw
      have hst := run_string (P := Tryd.prog) 29 9 5 Tryd.underlying29 Tryd.underlying5 Tryd.underlying9 (c := c6) (hy6.below hSw)
      go_simp
      try with_reducible rfl
    simp only [List.set_cons_zero, List.set_cons_succ]
    refine wpAnyH_ready (rs := [5]) (by kernel_rfl) (by simp) ?_
    refine AllReadyH.cons rfl (fun K hK => ?_) AllReadyH.nil
    go_simp
    go_at_call 8; refine (pbytes_any a n q b m r t t.firm rfl k6 (HATB.out.below hC7) SA.out).mono ?_; rw [HE2.out.2.1]; rintro e k7 ⟨v7, rfl, ho7, hk7⟩; obtain ⟨x7, c7, rfl, hc7, h07, hy7⟩ := ho7.shape HE2.out.2.2.2
    refine hK.out _ _ (Held.of hk7) (fun _ => ?_)
    clear hK K
    try simp only [Act.put, List.setIfInBounds_toArray, List.set_cons_zero, List.set_cons_succ]
    refine held_grow (w1 := k7) (Held.of hk7) ?_
    clear hHeld
    have hHeld : Held k7 k7 := Held.refl _
    have hC8 := hC7.trans (hk7.mono hC7.size)
    refine take_at (v := ?_) 6 77 rfl rfl (by kernel_rfl) (by kernel_rfl) (by kernel_rfl) (fun _ _ _ h => h) hHeld (Or.inl ⟨by rfl, ?_⟩) rfl ?_
    rotate_left
    · intro wq hSw
      have hst := run_string (P := Tryd.prog) 29 9 5 Tryd.underlying29 Tryd.underlying5 Tryd.underlying9 (c := c7) (hy7.below hSw)
      go_simp
      try with_reducible rfl
    simp only [List.set_cons_zero, List.set_cons_succ]
    refine take_at (v := .bool false) 7 78 rfl rfl (by kernel_rfl) (by kernel_rfl) (by kernel_rfl) (fun _ _ _ h => h) hHeld (Or.inl ⟨by rfl, ?_⟩) rfl ?_
    · intro wq hSw
      have hst := HST.out
      go_simp
      skip
    simp only [List.set_cons_zero, List.set_cons_succ]
    refine take_at (v := ?_) 9 80 rfl rfl (by kernel_rfl) (by kernel_rfl) (by kernel_rfl) (fun _ _ _ h => h) hHeld (Or.inl ⟨by rfl, ?_⟩) rfl ?_
    rotate_left
    · intro wq hSw
      go_simp
      try with_reducible rfl
    simp only [List.set_cons_zero, List.set_cons_succ]
    refine take_at (v := ?_) 10 81 rfl rfl (by kernel_rfl) (by kernel_rfl) (by kernel_rfl) (fun _ _ _ h => h) hHeld (Or.inl ⟨by rfl, ?_⟩) rfl ?_
    rotate_left
    · intro wq hSw
      go_simp
      try with_reducible rfl
    simp only [List.set_cons_zero, List.set_cons_succ]
    refine take_at (v := ?_) 11 82 rfl rfl (by kernel_rfl) (by kernel_rfl) (by kernel_rfl) (fun _ _ _ h => h) hHeld (Or.inl ⟨by rfl, ?_⟩) rfl ?_
    rotate_left
    · intro wq hSw
      go_simp
      try with_reducible rfl
    simp only [List.set_cons_zero, List.set_cons_succ]
    refine take_at (v := ?_) 12 83 rfl rfl (by kernel_rfl) (by kernel_rfl) (by kernel_rfl) (fun _ _ _ h => h) hHeld (Or.inl ⟨by rfl, ?_⟩) rfl ?_
    rotate_left
    · intro wq hSw
      go_simp
      try with_reducible rfl
    simp only [List.set_cons_zero, List.set_cons_succ]
    refine take_at (v := ?_) 13 84 rfl rfl (by kernel_rfl) (by kernel_rfl) (by kernel_rfl) (fun _ _ _ h => h) hHeld (Or.inl ⟨by rfl, ?_⟩) rfl ?_
    rotate_left
    · intro wq hSw
      go_simp
      try with_reducible rfl
    simp only [List.set_cons_zero, List.set_cons_succ]
    refine take_at (v := undef) 14 85 rfl rfl (by kernel_rfl) (by kernel_rfl) (by kernel_rfl) (fun _ _ _ h => h) hHeld (Or.inr ⟨by rfl, rfl⟩) rfl ?_
    simp only [List.set_cons_zero, List.set_cons_succ]
    refine take_at (v := undef) 15 86 rfl rfl (by kernel_rfl) (by kernel_rfl) (by kernel_rfl) (fun _ _ _ h => h) hHeld (Or.inr ⟨by rfl, rfl⟩) rfl ?_
    simp only [List.set_cons_zero, List.set_cons_succ]
    refine take_at (v := undef) 16 87 rfl rfl (by kernel_rfl) (by kernel_rfl) (by kernel_rfl) (fun _ _ _ h => h) hHeld (Or.inr ⟨by rfl, rfl⟩) rfl ?_
    simp only [List.set_cons_zero, List.set_cons_succ]
    refine take_at (v := undef) 17 88 rfl rfl (by kernel_rfl) (by kernel_rfl) (by kernel_rfl) (fun _ _ _ h => h) hHeld (Or.inr ⟨by rfl, rfl⟩) rfl ?_
    simp only [List.set_cons_zero, List.set_cons_succ]
    refine take_at (v := undef) 18 89 rfl rfl (by kernel_rfl) (by kernel_rfl) (by kernel_rfl) (fun _ _ _ h => h) hHeld (Or.inr ⟨by rfl, rfl⟩) rfl ?_
    simp only [List.set_cons_zero, List.set_cons_succ]
    refine take_at (v := undef) 19 90 rfl rfl (by kernel_rfl) (by kernel_rfl) (by kernel_rfl) (fun _ _ _ h => h) hHeld (Or.inr ⟨by rfl, rfl⟩) rfl ?_
    simp only [List.set_cons_zero, List.set_cons_succ]
    have hCE := hC8
    refine take_at (v := ?_) 20 91 rfl rfl (by kernel_rfl) (by kernel_rfl) (by kernel_rfl) (fun _ _ _ h => h) hHeld (Or.inl ⟨by rfl, ?_⟩) rfl ?_
    rotate_left
    · intro wq hSw
      go_simp
      try with_reducible rfl
    simp only [List.set_cons_zero, List.set_cons_succ]
    refine take_at (v := ?_) 21 92 rfl rfl (by kernel_rfl) (by kernel_rfl) (by kernel_rfl) (fun _ _ _ h => h) hHeld (Or.inl ⟨by rfl, ?_⟩) rfl ?_
    rotate_left
    · intro wq hSw
      go_simp
      try with_reducible rfl
    simp only [List.set_cons_zero, List.set_cons_succ]
    refine take_at (v := ?_) 22 2 rfl rfl (by kernel_rfl) (by kernel_rfl) (by kernel_rfl) (fun _ _ _ h => h) hHeld (Or.inl ⟨by rfl, ?_⟩) rfl ?_
    rotate_left
    · intro wq hSw
      go_simp
      try with_reducible rfl
    simp only [List.set_cons_zero, List.set_cons_succ]
    refine wpAnyH_done (by kernel_rfl) ?_ _
    go_wp2
    go_ret
    exact ⟨rfl, hTB.trans (hCE.mono hTB.size)⟩
end Go.Proofs.YtpbijcchdjppmaaDoor
