/- locks and seals: what they are; the reference's Lock, Seal · the reference's Opens (mklko.py) · slices of strings -/
import Derived.Test.YtagjolbpmhbifaaGreatDoorLz
import Derived.Test.YtagjolbpmhbifaaGreatDoorTxz
import Derived.Test.YtagjolbpmhbifaaGreatDoorDgS
import Derived.Test.YtagjolbpmhbifaaGreatDoorPkr
/-! locks and seals: what they are; the reference's Lock, Seal -/
namespace Go.Proofs.YtagjolbpmhbifaaGreatDoor
open Go Go.RowKit Go.ChangeShapes Go.WideShapes
namespace Lk
def lockOf (key : List (BitVec 8)) : BitVec 64 := Dg.top (Dg.sum key) 8
def sealOf (key id : List (BitVec 8)) : BitVec 64 := Dg.top (Dg.sum (key ++ id)) 8
/-- does a spend open a coin? -/
def opens (s : Tx.Sp) (c : Tx.Co) (id : List (BitVec 8)) : Bool := decide (lockOf s.key = c.lock ∧ sealOf s.key id = s.sl)
end Lk
set_option maxRecDepth 100000 in
set_option maxHeartbeats 4000000 in
theorem rlock_any (key : List (BitVec 8)) (w : World) (hk : key.length ≤ 10000) (hT : Tab32 w 2 Dg.kL) :
    Calls Tryz.prog 120 #[.string (strB key)] w fun e w' => e = .returned (.int .u64 (nb64 (Lk.lockOf key))) ∧ Below w.heap.size w w' := by
  obtain ⟨k, hkl⟩ : ∃ k, k = key.length := ⟨_, rfl⟩
  obtain ⟨W1, hW1⟩ : ∃ x, x = Lib.bytesWorld w 5 (strB key) := ⟨_, rfl⟩
  have hb1 : Below w.heap.size w W1 := by rw [hW1]; exact conv_below w _ _
  have hrow := conv_row w 5 key (by omega)
  rw [← hW1] at hrow
  have hrun := Lib.run_convert_string_bytes (P := Tryz.prog) w 9 116 5 (strB key) Tryz.underlying9 Tryz.underlying116 Tryz.underlying5
  rw [← hW1, strB_size] at hrun
  obtain ⟨v, hv⟩ : ∃ v : Value, v = .slice (some ⟨w.heap.size, 0, none⟩) key.length (grownCap w key.length 0 5) := ⟨_, rfl⟩
  rw [← hv] at hrun hrow
  obtain ⟨g, c, rfl, hc, _, hB⟩ := hrow.shape hkl.symm
  have HB := Lib.hid hB
  have HR := Lib.hid hrun
  have HK := Lib.hid (show k ≤ 10000 by omega)
  have HT := Lib.hid (hT.below hb1)
  have HX := Lib.hid (show Lk.lockOf key = Dg.top (Dg.sum key) 8 from rfl)
  clear hrow hrun hv hB hT hkl hW1
  go_enter Tryz.func120, Tryz.ntmps120
  go_wp2_with (first
    | (go_at_call 140; refine (rword_any (Dg.sum key) (Dg.sum_len key) w2).mono ?_; rintro e w3 ⟨rfl, hb3⟩)
    | (go_at_call 99; refine (rsum_any (some ⟨g, 0, none⟩) k c key W1 HB.out (by have := HK.out; omega) (fun e => by cases e) HT.out).mono ?_; rintro e w2 ⟨rfl, hb2⟩)
    | (refine wpList_convert_run rfl 9 116 (.tmp 3) rfl _ _ rfl HR.out ?_))
  go_ret
  exact ⟨by rw [HX.out]; rfl, hb1.trans ((hb2.trans (hb3.mono hb2.size)).mono hb1.size)⟩
set_option maxRecDepth 100000 in
set_option maxHeartbeats 4000000 in
theorem rseal_any (key id : List (BitVec 8)) (w : World) (hk : key.length ≤ 10000) (hid : id.length = 32) (hT : Tab32 w 2 Dg.kL) :
    Calls Tryz.prog 121 #[.string (strB key), .agg (blist id).toArray] w fun e w' => e = .returned (.int .u64 (nb64 (Lk.sealOf key id))) ∧ Below w.heap.size w w' := by
  obtain ⟨W0, hW0⟩ : ∃ x, x = w.alloc (.cells (blist id).toArray 30) := ⟨_, rfl⟩
  have hb0 : Below w.heap.size w W0 := by rw [hW0]; exact (Below.refl _ w).alloc (Nat.le_refl _) _
  have hX : Has W0 w.heap.size 30 (blist id).toArray := by rw [hW0]; exact Has.fresh _ _ _
  have HW := Lib.hid hW0
  obtain ⟨k, hkl⟩ : ∃ k, k = key.length := ⟨_, rfl⟩
  obtain ⟨W1, hW1⟩ : ∃ x, x = Lib.bytesWorld W0 5 (strB key) := ⟨_, rfl⟩
  have hb1 : Below W0.heap.size W0 W1 := by rw [hW1]; exact conv_below W0 _ _
  have hrow := conv_row W0 5 key (by omega)
  rw [← hW1] at hrow
  have hrun := Lib.run_convert_string_bytes (P := Tryz.prog) W0 9 116 5 (strB key) Tryz.underlying9 Tryz.underlying116 Tryz.underlying5
  rw [← hW1, strB_size] at hrun
  obtain ⟨v, hv⟩ : ∃ v : Value, v = .slice (some ⟨W0.heap.size, 0, none⟩) key.length (grownCap W0 key.length 0 5) := ⟨_, rfl⟩
  rw [← hv] at hrun hrow
  have lH : (Instr.loadAt 30 (.pointer (some ⟨w.heap.size, 0, none⟩))).run Tryz.prog W1 = .ok (.agg (blist id).toArray) W1 := (hX.under hb1 hX.lt).load_agg (P := Tryz.prog) (t := 30) Tryz.underlying30 rfl (size_hash' hid)
  have hB1 := hb0.trans (hb1.mono hb0.size)
  have HRow := Lib.hid hrow
  have HR := Lib.hid hrun
  have HK := Lib.hid (And.intro hk hid)
  have HT := Lib.hid (hT.below hb0)
  have HX := Lib.hid (show Lk.sealOf key id = Dg.top (Dg.sum (key ++ id)) 8 ∧ key.length = k from ⟨rfl, hkl.symm⟩)
  have hlo : W0.heap.size ≤ W1.heap.size := hb1.size
  clear hrow hrun hv hT hkl hW1 hX hW0 hk
  go_enter Tryz.func121, Tryz.ntmps121
  go_upto_region 1 with fail
  rw [← HW.out]
  go_wp2_with (first
    | (go_at_call 140; refine (rword_any (Dg.sum (key ++ id)) (Dg.sum_len _) w5).mono ?_; rintro e w6 ⟨rfl, hb6⟩)
    | (go_at_call 99; refine (rsum_any (some y4) (key.length + 32) c4 (key ++ id) w4 hy4 (by have := HK.out.1; omega) (fun e => by cases e) (HT.out.below h04)).mono ?_; rintro e w5 ⟨rfl, hb5⟩)
    | (at_builtin; refine wpList_append_conv rfl (.tmp 6) (.tmp 8) 116 5 rfl Tryz.underlying116 info_byte rfl (HRow.out.below hb2) (Nat.le_trans hlo hb2.size) ad2 32 c2 id rfl hy2 (by have := HK.out.1; omega) ?_; intro y4 c4 w4 hy4 hc4 hb4; have h04 := (hb1.trans (hb2.mono hb1.size)).trans hb4)
    | (go_at_call 124; refine (rhash_any id HK.out.2 W1).mono ?_; rintro e w2 ⟨v2, rfl, ho2, hb2⟩; obtain ⟨o2, c2, rfl, hc2, h02, hy2⟩ := ho2.shape HK.out.2; obtain ⟨ad2, ho2e, _⟩ := hy2.2.2 0 (by omega); subst ho2e)
    | (refine wpList_load_run rfl 30 (.tmp 3) rfl _ _ rfl lH ?_)
    | (refine wpList_convert_run rfl 9 116 (.tmp 5) rfl _ _ rfl HR.out ?_))
  go_ret
  have h06 := h04.trans ((hb5.trans (hb6.mono hb5.size)).mono h04.size)
  exact ⟨by rw [HX.out.1]; rfl, hb0.trans (h06.mono hb0.size)⟩
end Go.Proofs.YtagjolbpmhbifaaGreatDoor

/-! the reference's Opens (mklko.py) -/
namespace Go.Proofs.YtagjolbpmhbifaaGreatDoor
open Go Go.RowKit Go.ChangeShapes Go.WideShapes
theorem nb64_ne {x y : BitVec 64} (h : ¬ x = y) : (nb64 x == nb64 y) = false := by
  rw [beq_eq_false_iff_ne]
  intro e
  exact h (BitVec.eq_of_toNat_eq (by have e2 : (x.toNat : Int) = (y.toNat : Int) := e; omega))
set_option maxRecDepth 100000 in
set_option maxHeartbeats 8000000 in
theorem ropens_any (s : Tx.Sp) (c : Tx.Co) (id : List (BitVec 8)) (w : World) (hok : Tx.SpOk s) (hk : s.key.length ≤ 10000) (hid : id.length = 32) (hT : Tab32 w 2 Dg.kL) :
    Calls Tryz.prog 98 #[.agg (spCells s).toArray, .agg (coCells c).toArray, .agg (blist id).toArray] w fun e w' => e = .returned (.bool (Lk.opens s c id)) ∧ Below w.heap.size w w' := by
  obtain ⟨W1, hW1⟩ : ∃ x, x = ((w.alloc (.cells (spCells s).toArray 75)).alloc (.cells (coCells c).toArray 35)).alloc (.cells (blist id).toArray 30) := ⟨_, rfl⟩
  have hb1 : Below w.heap.size w W1 := by
    rw [hW1]
    exact (((Below.refl _ w).alloc (Nat.le_refl _) _).alloc (by simp) _).alloc (by simp; omega) _
  have hS : Has W1 w.heap.size 75 (spCells s).toArray := by rw [hW1]; exact ((Has.fresh w _ _).past _).past _
  have hC : Has W1 (w.heap.size + 1) 35 (coCells c).toArray := by rw [hW1]; exact (Has.fresh_at _ _ _ (by simp)).past _
  have hH : Has W1 (w.heap.size + 1 + 1) 30 (blist id).toArray := by rw [hW1]; exact Has.fresh_at _ _ _ (by simp)
  have HW := Lib.hid hW1
  have HT := Lib.hid (hT.below hb1)
  have HK := Lib.hid (And.intro hk (And.intro hid hok))
  obtain ⟨r, hr⟩ : ∃ r, r = Lk.opens s c id := ⟨_, rfl⟩
  rw [← hr]
  have HR := Lib.hid hr
  clear hW1 hT hk hid hok hr
  go_enter Tryz.func98, Tryz.ntmps98
  go_upto_region 1 with fail
  rw [← HW.out]
  obtain ⟨g3, hg3⟩ : ∃ g, g = w.heap.size := ⟨_, rfl⟩
  rw [← hg3]
  rw [← hg3] at hS hC hH
  clear hg3
  obtain ⟨ws, hws⟩ : ∃ x, x = W1.drew := ⟨_, rfl⟩
  have hbs : Below W1.heap.size W1 ws := by rw [hws]; exact (Below.refl _ _).drew
  have HSs := Lib.hid (hS.under hbs hS.lt)
  have HCs := Lib.hid (hC.under hbs hC.lt)
  have HHs := Lib.hid (hH.under hbs hH.lt)
  have HTs := Lib.hid (HT.out.below hbs)
  have hBs := hb1.trans (hbs.mono hb1.size)
  obtain ⟨lk, hlk⟩ : ∃ x, x = Lk.lockOf s.key := ⟨_, rfl⟩
  obtain ⟨sl, hsl⟩ : ∃ x, x = Lk.sealOf s.key id := ⟨_, rfl⟩
  have HL := Lib.hid (And.intro hlk hsl)
  clear hlk hsl hS hC hH hbs
  refine wp_region_held_drew (S := Held ws) (by kernel_rfl) (by rw [hws]; exact Held.refl _) (fun hHeld => ?_)
  rw [← hws] at hHeld ⊢
  clear hws
  refine take_at (v := ?_) 0 7 rfl rfl (by kernel_rfl) (by kernel_rfl) (by kernel_rfl) (fun _ _ _ h => h) hHeld (Or.inl ⟨by rfl, ?_⟩) rfl ?_
  rotate_left
  · intro wq hSw
    go_simp
    try with_reducible rfl
  simp only [List.set_cons_zero, List.set_cons_succ]
  refine take_at (v := ?_) 1 8 rfl rfl (by kernel_rfl) (by kernel_rfl) (by kernel_rfl) (fun _ _ _ h => h) hHeld (Or.inl ⟨by rfl, ?_⟩) rfl ?_
  rotate_left
  · intro wq hSw
    have hst := Has.spKey (HSs.out.under hSw HSs.out.lt) HK.out.2.2.1
    go_simp
    try with_reducible rfl
  simp only [List.set_cons_zero, List.set_cons_succ]
  refine take_at (v := ?_) 3 10 rfl rfl (by kernel_rfl) (by kernel_rfl) (by kernel_rfl) (fun _ _ _ h => h) hHeld (Or.inl ⟨by rfl, ?_⟩) rfl ?_
  rotate_left
  · intro wq hSw
    go_simp
    try with_reducible rfl
  simp only [List.set_cons_zero, List.set_cons_succ]
  refine take_at (v := ?_) 4 11 rfl rfl (by kernel_rfl) (by kernel_rfl) (by kernel_rfl) (fun _ _ _ h => h) hHeld (Or.inl ⟨by rfl, ?_⟩) rfl ?_
  rotate_left
  · intro wq hSw
    have hst := (show wq.cell? ⟨g3 + 1, 1, none⟩ = some (.int .u64 (nb64 c.lock)) from (HCs.out.under hSw HCs.out.lt).cell_at (i := 1) rfl)
    go_simp
    try with_reducible rfl
  simp only [List.set_cons_zero, List.set_cons_succ]
  refine wpAnyH_ready (rs := [2]) (by kernel_rfl) (by simp) ?_
  refine AllReadyH.cons rfl (fun K hK => ?_) AllReadyH.nil
  go_simp
  go_at_call 120; refine (rlock_any s.key ws HK.out.1 HTs.out).mono ?_; rw [← HL.out.1]; rintro e k1 ⟨rfl, hk1⟩
  refine hK.out _ _ (Held.of hk1) (fun _ => ?_)
  clear hK K
  try simp only [Act.put, List.setIfInBounds_toArray, List.set_cons_zero, List.set_cons_succ]
  refine held_grow (w1 := k1) (Held.of hk1) ?_
  clear hHeld
  have hHeld : Held k1 k1 := Held.refl _
  by_cases h1 : lk = c.lock
  · subst h1
    refine take_at (v := .bool true) 5 12 rfl rfl (by kernel_rfl) (by kernel_rfl) (by kernel_rfl) (fun _ _ _ h => h) hHeld (Or.inl ⟨by rfl, ?_⟩) rfl ?_
    · intro wq hSw
      go_simp
      skip
    simp only [List.set_cons_zero, List.set_cons_succ]
    refine take_at (v := ?_) 6 13 rfl rfl (by kernel_rfl) (by kernel_rfl) (by kernel_rfl) (fun _ _ _ h => h) hHeld (Or.inl ⟨by rfl, ?_⟩) rfl ?_
    rotate_left
    · intro wq hSw
      go_simp
      try with_reducible rfl
    simp only [List.set_cons_zero, List.set_cons_succ]
    refine take_at (v := ?_) 7 14 rfl rfl (by kernel_rfl) (by kernel_rfl) (by kernel_rfl) (fun _ _ _ h => h) hHeld (Or.inl ⟨by rfl, ?_⟩) rfl ?_
    rotate_left
    · intro wq hSw
      go_simp
      try with_reducible rfl
    simp only [List.set_cons_zero, List.set_cons_succ]
    refine take_at (v := ?_) 8 15 rfl rfl (by kernel_rfl) (by kernel_rfl) (by kernel_rfl) (fun _ _ _ h => h) hHeld (Or.inl ⟨by rfl, ?_⟩) rfl ?_
    rotate_left
    · intro wq hSw
      have hst := Has.spKey (HSs.out.under (hk1.trans (hSw.mono hk1.size)) HSs.out.lt) HK.out.2.2.1
      go_simp
      try with_reducible rfl
    simp only [List.set_cons_zero, List.set_cons_succ]
    refine take_at 9 16 rfl rfl (by kernel_rfl) (by kernel_rfl) (by kernel_rfl) (fun _ _ _ h => h) hHeld (yieldsIf_load_agg (by rfl) 30 (.tmp 5) rfl _ _ (by rfl) (fun wq hSw => (HHs.out.under (hk1.trans (hSw.mono hk1.size)) HHs.out.lt).load_agg (P := Tryz.prog) (t := 30) Tryz.underlying30 rfl (size_hash' HK.out.2.1))) rfl ?_
    simp only [List.set_cons_zero, List.set_cons_succ]
    refine take_at (v := ?_) 11 18 rfl rfl (by kernel_rfl) (by kernel_rfl) (by kernel_rfl) (fun _ _ _ h => h) hHeld (Or.inl ⟨by rfl, ?_⟩) rfl ?_
    rotate_left
    · intro wq hSw
      go_simp
      try with_reducible rfl
    simp only [List.set_cons_zero, List.set_cons_succ]
    refine take_at (v := ?_) 12 19 rfl rfl (by kernel_rfl) (by kernel_rfl) (by kernel_rfl) (fun _ _ _ h => h) hHeld (Or.inl ⟨by rfl, ?_⟩) rfl ?_
    rotate_left
    · intro wq hSw
      have hst := Has.spSeal (HSs.out.under (hk1.trans (hSw.mono hk1.size)) HSs.out.lt) HK.out.2.2.1
      go_simp
      try with_reducible rfl
    simp only [List.set_cons_zero, List.set_cons_succ]
    refine wpAnyH_ready (rs := [10]) (by kernel_rfl) (by simp) ?_
    refine AllReadyH.cons rfl (fun K hK => ?_) AllReadyH.nil
    go_simp
    go_at_call 121; refine (rseal_any s.key id k1 HK.out.1 HK.out.2.1 (HTs.out.below hk1)).mono ?_; rw [← HL.out.2]; rintro e k2 ⟨rfl, hk2⟩
    refine hK.out _ _ (Held.of hk2) (fun _ => ?_)
    clear hK K
    try simp only [Act.put, List.setIfInBounds_toArray, List.set_cons_zero, List.set_cons_succ]
    refine held_grow (w1 := k2) (Held.of hk2) ?_
    clear hHeld
    have hHeld : Held k2 k2 := Held.refl _
    by_cases h2 : sl = s.sl
    · have HE := Lib.hid (show r = true by rw [HR.out, Lk.opens, decide_eq_true_iff, ← HL.out.1, ← HL.out.2]; exact ⟨rfl, h2⟩)
      subst h2
      refine take_at (v := .bool true) 13 20 rfl rfl (by kernel_rfl) (by kernel_rfl) (by kernel_rfl) (fun _ _ _ h => h) hHeld (Or.inl ⟨by rfl, ?_⟩) rfl ?_
      · intro wq hSw
        go_simp
        skip
      simp only [List.set_cons_zero, List.set_cons_succ]
      refine take_at (v := ?_) 14 21 rfl rfl (by kernel_rfl) (by kernel_rfl) (by kernel_rfl) (fun _ _ _ h => h) hHeld (Or.inl ⟨by rfl, ?_⟩) rfl ?_
      rotate_left
      · intro wq hSw
        go_simp
        try with_reducible rfl
      simp only [List.set_cons_zero, List.set_cons_succ]
      refine take_at (v := ?_) 15 6 rfl rfl (by kernel_rfl) (by kernel_rfl) (by kernel_rfl) (fun _ _ _ h => h) hHeld (Or.inl ⟨by rfl, ?_⟩) rfl ?_
      rotate_left
      · intro wq hSw
        go_simp
        try with_reducible rfl
      simp only [List.set_cons_zero, List.set_cons_succ]
      refine wpAnyH_done (by kernel_rfl) ?_ _
      go_wp2
      go_ret
      exact ⟨by rw [HE.out]; rfl, hBs.trans ((hk1.trans (hk2.mono hk1.size)).mono hBs.size)⟩
    · have HE := Lib.hid (show r = false by rw [HR.out, Lk.opens, decide_eq_false_iff_not, ← HL.out.1, ← HL.out.2]; exact fun e => h2 e.2)
      have HQ := Lib.hid (show (nb64 sl == nb64 s.sl) = false from nb64_ne h2)
      clear h2
      refine take_at (v := .bool false) 13 20 rfl rfl (by kernel_rfl) (by kernel_rfl) (by kernel_rfl) (fun _ _ _ h => h) hHeld (Or.inl ⟨by rfl, ?_⟩) rfl ?_
      · intro wq hSw
        have hst := HQ.out
        go_simp
        skip
      simp only [List.set_cons_zero, List.set_cons_succ]
      refine take_at (v := ?_) 14 21 rfl rfl (by kernel_rfl) (by kernel_rfl) (by kernel_rfl) (fun _ _ _ h => h) hHeld (Or.inl ⟨by rfl, ?_⟩) rfl ?_
      rotate_left
      · intro wq hSw
        go_simp
        try with_reducible rfl
      simp only [List.set_cons_zero, List.set_cons_succ]
      refine take_at (v := ?_) 15 6 rfl rfl (by kernel_rfl) (by kernel_rfl) (by kernel_rfl) (fun _ _ _ h => h) hHeld (Or.inl ⟨by rfl, ?_⟩) rfl ?_
      rotate_left
      · intro wq hSw
        go_simp
        try with_reducible rfl
      simp only [List.set_cons_zero, List.set_cons_succ]
      refine wpAnyH_done (by kernel_rfl) ?_ _
      go_wp2
      go_ret
      exact ⟨by rw [HE.out]; rfl, hBs.trans ((hk1.trans (hk2.mono hk1.size)).mono hBs.size)⟩
  · have HE := Lib.hid (show r = false by rw [HR.out, Lk.opens, decide_eq_false_iff_not, ← HL.out.1, ← HL.out.2]; exact fun e => h1 e.1)
    have HQ := Lib.hid (show (nb64 lk == nb64 c.lock) = false from nb64_ne h1)
    clear h1
    refine take_at (v := .bool false) 5 12 rfl rfl (by kernel_rfl) (by kernel_rfl) (by kernel_rfl) (fun _ _ _ h => h) hHeld (Or.inl ⟨by rfl, ?_⟩) rfl ?_
    · intro wq hSw
      have hst := HQ.out
      go_simp
      skip
    simp only [List.set_cons_zero, List.set_cons_succ]
    refine take_at (v := ?_) 6 13 rfl rfl (by kernel_rfl) (by kernel_rfl) (by kernel_rfl) (fun _ _ _ h => h) hHeld (Or.inl ⟨by rfl, ?_⟩) rfl ?_
    rotate_left
    · intro wq hSw
      go_simp
      try with_reducible rfl
    simp only [List.set_cons_zero, List.set_cons_succ]
    refine take_at (v := undef) 7 14 rfl rfl (by kernel_rfl) (by kernel_rfl) (by kernel_rfl) (fun _ _ _ h => h) hHeld (Or.inr ⟨by rfl, rfl⟩) rfl ?_
    simp only [List.set_cons_zero, List.set_cons_succ]
    refine take_at (v := undef) 8 15 rfl rfl (by kernel_rfl) (by kernel_rfl) (by kernel_rfl) (fun _ _ _ h => h) hHeld (Or.inr ⟨by rfl, rfl⟩) rfl ?_
    simp only [List.set_cons_zero, List.set_cons_succ]
    refine take_at (v := undef) 9 16 rfl rfl (by kernel_rfl) (by kernel_rfl) (by kernel_rfl) (fun _ _ _ h => h) hHeld (Or.inr ⟨by rfl, rfl⟩) rfl ?_
    simp only [List.set_cons_zero, List.set_cons_succ]
    refine take_at (v := undef) 10 17 rfl rfl (by kernel_rfl) (by kernel_rfl) (by kernel_rfl) (fun _ _ _ h => h) hHeld (Or.inr ⟨by rfl, rfl⟩) rfl ?_
    simp only [List.set_cons_zero, List.set_cons_succ]
    refine take_at (v := undef) 11 18 rfl rfl (by kernel_rfl) (by kernel_rfl) (by kernel_rfl) (fun _ _ _ h => h) hHeld (Or.inr ⟨by rfl, rfl⟩) rfl ?_
    simp only [List.set_cons_zero, List.set_cons_succ]
    refine take_at (v := undef) 12 19 rfl rfl (by kernel_rfl) (by kernel_rfl) (by kernel_rfl) (fun _ _ _ h => h) hHeld (Or.inr ⟨by rfl, rfl⟩) rfl ?_
    simp only [List.set_cons_zero, List.set_cons_succ]
    refine take_at (v := undef) 13 20 rfl rfl (by kernel_rfl) (by kernel_rfl) (by kernel_rfl) (fun _ _ _ h => h) hHeld (Or.inr ⟨by rfl, rfl⟩) rfl ?_
    simp only [List.set_cons_zero, List.set_cons_succ]
    refine take_at (v := ?_) 14 21 rfl rfl (by kernel_rfl) (by kernel_rfl) (by kernel_rfl) (fun _ _ _ h => h) hHeld (Or.inl ⟨by rfl, ?_⟩) rfl ?_
    rotate_left
    · intro wq hSw
      go_simp
      try with_reducible rfl
    simp only [List.set_cons_zero, List.set_cons_succ]
    refine take_at (v := ?_) 15 6 rfl rfl (by kernel_rfl) (by kernel_rfl) (by kernel_rfl) (fun _ _ _ h => h) hHeld (Or.inl ⟨by rfl, ?_⟩) rfl ?_
    rotate_left
    · intro wq hSw
      go_simp
      try with_reducible rfl
    simp only [List.set_cons_zero, List.set_cons_succ]
    refine wpAnyH_done (by kernel_rfl) ?_ _
    go_wp2
    go_ret
    exact ⟨by rw [HE.out]; rfl, hBs.trans ((hk1).mono hBs.size)⟩
end Go.Proofs.YtagjolbpmhbifaaGreatDoor

/-! slices of strings -/
namespace Go.Proofs.YtagjolbpmhbifaaGreatDoor
open Go Go.RowKit Go.ChangeShapes Go.WideShapes
/-- a string as a record of one cell -/
def strRec : Rec (List (BitVec 8)) where
  k := 1
  cells l := [.string (strB l)]
  ok l := l.length ≤ maxLen
  pos := by omega
  len _ _ := rfl
  one l v hv := by
    simp at hv
    subst hv
    rfl
section
variable {H : Type} {enc : TypeId × Value → H} {w : World} {base : Nat} {spare : Nat → Bool} {held : Bool}
theorem open_str {fuel : Nat} {cs : List Value} {x : DataW H × List MemPlace} (h : DataW.trod enc Tryz.prog w base spare held fuel 9 cs = some x) : ∃ l : List (BitVec 8), cs = [.string (strB l)] ∧ l.length ≤ maxLen := by
  obtain ⟨s, e1, _, b1⟩ := DataW.trod_string Tryz.underlying9 h
  obtain ⟨l, rfl⟩ := str_of s
  exact ⟨l, e1, by rw [strB_size] at b1; exact b1⟩
end
theorem strs_at {w : World} {x : Addr} {n i : Nat} {L : List (List (BitVec 8))} {l : List (BitVec 8)} (h : Recs strRec w (some x) n L) (hi : L[i]? = some l) : w.cell? (x.add i) = some (.string (strB l)) := by
  have e := h.field (R := strRec) (j := 0) hi rfl
  have e2 : i * strRec.k + 0 = i := by show i * 1 + 0 = i; omega
  rwa [e2] at e
section
variable {H : Type} {enc : TypeId × Value → H} {W : World} {base : Nat} {v : Value} {d : DataW H} {p : List MemPlace}
set_option maxRecDepth 100000 in
theorem arg_strs (o : Value.okWide Tryz.prog W .any base 117 v) (h : DataW.Trod enc Tryz.prog W 0 (fun _ => true) true 117 v d p) :
    ∃ (a : Option Addr) (n c : Nat) (L : List (List (BitVec 8))), v = .slice a n c ∧ Recs strRec W a n L ∧ n ≤ c ∧ (a = none → c = 0) := by
  obtain ⟨a, n, c, rfl⟩ := okWide_slice Tryz.underlying117 o
  obtain ⟨fuel, hf⟩ := h
  obtain ⟨a', n', c', L, e, hL, hnc, h0⟩ := open_recs (R := strRec) Tryz.underlying117 (by kernel_rfl) open_str hf
  have e2 : Value.slice a n c = Value.slice a' n' c' := by
    have e3 : (Value.slice a n c).cells.toList = [Value.slice a n c] := rfl
    first
      | exact e
      | (rw [e3] at e; exact (List.cons.inj e).1)
  injection e2 with e4 e5 e6
  subst e4
  subst e5
  subst e6
  exact ⟨a, n, c, L, rfl, hL, hnc, h0⟩
set_option maxRecDepth 100000 in
/-- an argument that is a slice of coins -/
theorem arg_coins (o : Value.okWide Tryz.prog W .any base 37 v) (h : DataW.Trod enc Tryz.prog W 0 (fun _ => true) true 37 v d p) :
    ∃ (a : Option Addr) (n c : Nat) (L : List Tx.Co), v = .slice a n c ∧ Recs coRec W a n L ∧ n ≤ c ∧ (a = none → c = 0) := by
  obtain ⟨a, n, c, rfl⟩ := okWide_slice Tryz.underlying37 o
  obtain ⟨fuel, hf⟩ := h
  obtain ⟨a', n', c', L, e, hL, hnc, h0⟩ := open_recs (R := coRec) Tryz.underlying37 (by kernel_rfl) open_coin hf
  have e2 : Value.slice a n c = Value.slice a' n' c' := by
    have e3 : (Value.slice a n c).cells.toList = [Value.slice a n c] := rfl
    first
      | exact e
      | (rw [e3] at e; exact (List.cons.inj e).1)
  injection e2 with e4 e5 e6
  subst e4
  subst e5
  subst e6
  exact ⟨a, n, c, L, rfl, hL, hnc, h0⟩
end
end Go.Proofs.YtagjolbpmhbifaaGreatDoor
