/- package lock: Opens, where it asks Lock, then Seal (out of XLkO) -/
import Derived.Test.YtagjolbpmhbifaaGreatDoorLky
import Derived.Test.YtagjolbpmhbifaaGreatDoorLkr
import Derived.Test.YtagjolbpmhbifaaGreatDoorTxz
import Derived.Test.YtagjolbpmhbifaaGreatDoorLz
namespace Go.Proofs.YtagjolbpmhbifaaGreatDoor
open Go Go.RowKit Go.ChangeShapes Go.WideShapes
set_option maxRecDepth 100000 in
set_option maxHeartbeats 8000000 in
theorem popens_any (s : Tx.Sp) (c : Tx.Co) (id : List (BitVec 8)) (w : World) (hok : Tx.SpOk s) (hk : s.key.length ≤ 10000) (hid : id.length = 32) (hT : KDg w) :
    Calls Tryz.prog 65 #[.agg (spCells s).toArray, .agg (coCells c).toArray, .agg (blist id).toArray] w fun e w' => e = .returned (.bool (Lk.opens s c id)) ∧ Below w.heap.size w w' := by
  obtain ⟨W1, hW1⟩ : ∃ x, x = ((w.alloc (.cells (spCells s).toArray 75)).alloc (.cells (coCells c).toArray 35)).alloc (.cells (blist id).toArray 30) := ⟨_, rfl⟩
  have hb1 : Below w.heap.size w W1 := by
    rw [hW1]
    exact (((Below.refl _ w).alloc (Nat.le_refl _) _).alloc (by simp) _).alloc (by simp; omega) _
  have hS : Has W1 w.heap.size 75 (spCells s).toArray := by rw [hW1]; exact ((Has.fresh w _ _).past _).past _
  have hC : Has W1 (w.heap.size + 1) 35 (coCells c).toArray := by rw [hW1]; exact (Has.fresh_at _ _ _ (by simp)).past _
  have hH : Has W1 (w.heap.size + 1 + 1) 30 (blist id).toArray := by rw [hW1]; exact Has.fresh_at _ _ _ (by simp)
  have HW := Lib.hid hW1
  have HT := Lib.hid (hT.below hb1)
  have HK := Lib.hid (And.intro hk (And.intro hid hok))
  obtain ⟨r, hr⟩ : ∃ r, r = Lk.opens s c id := ⟨_, rfl⟩
  rw [← hr]
  have HR := Lib.hid hr
  clear hW1 hT hk hid hok hr
  go_enter Tryz.func65, Tryz.ntmps65
  go_upto_region 1 with fail
  rw [← HW.out]
  obtain ⟨g3, hg3⟩ : ∃ g, g = w.heap.size := ⟨_, rfl⟩
  rw [← hg3]
  rw [← hg3] at hS hC hH
  clear hg3
  obtain ⟨ws, hws⟩ : ∃ x, x = W1.drew := ⟨_, rfl⟩
  have hbs : Below W1.heap.size W1 ws := by rw [hws]; exact (Below.refl _ _).drew
  have HSs := Lib.hid (hS.under hbs hS.lt)
  have HCs := Lib.hid (hC.under hbs hC.lt)
  have HHs := Lib.hid (hH.under hbs hH.lt)
  have HTs := Lib.hid (HT.out.below hbs)
  have hBs := hb1.trans (hbs.mono hb1.size)
  obtain ⟨lk, hlk⟩ : ∃ x, x = Lk.lockOf s.key := ⟨_, rfl⟩
  obtain ⟨sl, hsl⟩ : ∃ x, x = Lk.sealOf s.key id := ⟨_, rfl⟩
  have HL := Lib.hid (And.intro hlk hsl)
  clear hlk hsl hS hC hH hbs
  refine wp_region_held_drew (S := Held ws) (by kernel_rfl) (by rw [hws]; exact Held.refl _) (fun hHeld => ?_)
  rw [← hws] at hHeld ⊢
  clear hws
  refine take_at (v := ?_) 0 7 rfl rfl (by kernel_rfl) (by kernel_rfl) (by kernel_rfl) (fun _ _ _ h => h) hHeld (Or.inl ⟨by rfl, ?_⟩) rfl ?_
  rotate_left
  · intro wq hSw
    go_simp
    try with_reducible rfl
  simp only [List.set_cons_zero, List.set_cons_succ]
  refine take_at (v := ?_) 1 8 rfl rfl (by kernel_rfl) (by kernel_rfl) (by kernel_rfl) (fun _ _ _ h => h) hHeld (Or.inl ⟨by rfl, ?_⟩) rfl ?_
  rotate_left
  · intro wq hSw
    have hst := Has.spKey (HSs.out.under hSw HSs.out.lt) HK.out.2.2.1
    go_simp
    try with_reducible rfl
  simp only [List.set_cons_zero, List.set_cons_succ]
  refine take_at (v := ?_) 3 10 rfl rfl (by kernel_rfl) (by kernel_rfl) (by kernel_rfl) (fun _ _ _ h => h) hHeld (Or.inl ⟨by rfl, ?_⟩) rfl ?_
  rotate_left
  · intro wq hSw
    go_simp
    try with_reducible rfl
  simp only [List.set_cons_zero, List.set_cons_succ]
  refine take_at (v := ?_) 4 11 rfl rfl (by kernel_rfl) (by kernel_rfl) (by kernel_rfl) (fun _ _ _ h => h) hHeld (Or.inl ⟨by rfl, ?_⟩) rfl ?_
  rotate_left
  · intro wq hSw
    have hst := (show wq.cell? ⟨g3 + 1, 1, none⟩ = some (.int .u64 (nb64 c.lock)) from (HCs.out.under hSw HCs.out.lt).cell_at (i := 1) rfl)
    go_simp
    try with_reducible rfl
  simp only [List.set_cons_zero, List.set_cons_succ]
  refine wpAnyH_ready (rs := [2]) (by kernel_rfl) (by simp) ?_
  refine AllReadyH.cons rfl (fun K hK => ?_) AllReadyH.nil
  go_simp
  go_at_call 24; refine (plock_any s.key ws HTs.out HK.out.1).mono ?_; rw [← HL.out.1]; rintro e k1 ⟨rfl, hk1⟩
  refine hK.out _ _ (Held.of hk1) (fun _ => ?_)
  clear hK K
  try simp only [Act.put, List.setIfInBounds_toArray, List.set_cons_zero, List.set_cons_succ]
  refine held_grow (w1 := k1) (Held.of hk1) ?_
  clear hHeld
  have hHeld : Held k1 k1 := Held.refl _
  by_cases h1 : lk = c.lock
  · subst h1
    refine take_at (v := .bool true) 5 12 rfl rfl (by kernel_rfl) (by kernel_rfl) (by kernel_rfl) (fun _ _ _ h => h) hHeld (Or.inl ⟨by rfl, ?_⟩) rfl ?_
    · intro wq hSw
      go_simp
      skip
    simp only [List.set_cons_zero, List.set_cons_succ]
    refine take_at (v := ?_) 6 13 rfl rfl (by kernel_rfl) (by kernel_rfl) (by kernel_rfl) (fun _ _ _ h => h) hHeld (Or.inl ⟨by rfl, ?_⟩) rfl ?_
    rotate_left
    · intro wq hSw
      go_simp
      try with_reducible rfl
    simp only [List.set_cons_zero, List.set_cons_succ]
    refine take_at (v := ?_) 7 14 rfl rfl (by kernel_rfl) (by kernel_rfl) (by kernel_rfl) (fun _ _ _ h => h) hHeld (Or.inl ⟨by rfl, ?_⟩) rfl ?_
    rotate_left
    · intro wq hSw
      go_simp
      try with_reducible rfl
    simp only [List.set_cons_zero, List.set_cons_succ]
    refine take_at (v := ?_) 8 15 rfl rfl (by kernel_rfl) (by kernel_rfl) (by kernel_rfl) (fun _ _ _ h => h) hHeld (Or.inl ⟨by rfl, ?_⟩) rfl ?_
    rotate_left
    · intro wq hSw
      have hst := Has.spKey (HSs.out.under (hk1.trans (hSw.mono hk1.size)) HSs.out.lt) HK.out.2.2.1
      go_simp
      try with_reducible rfl
    simp only [List.set_cons_zero, List.set_cons_succ]
    refine take_at 9 16 rfl rfl (by kernel_rfl) (by kernel_rfl) (by kernel_rfl) (fun _ _ _ h => h) hHeld (yieldsIf_load_agg (by rfl) 30 (.tmp 5) rfl _ _ (by rfl) (fun wq hSw => (HHs.out.under (hk1.trans (hSw.mono hk1.size)) HHs.out.lt).load_agg (P := Tryz.prog) (t := 30) Tryz.underlying30 rfl (size_hash' HK.out.2.1))) rfl ?_
    simp only [List.set_cons_zero, List.set_cons_succ]
    refine take_at (v := ?_) 11 18 rfl rfl (by kernel_rfl) (by kernel_rfl) (by kernel_rfl) (fun _ _ _ h => h) hHeld (Or.inl ⟨by rfl, ?_⟩) rfl ?_
    rotate_left
    · intro wq hSw
      go_simp
      try with_reducible rfl
    simp only [List.set_cons_zero, List.set_cons_succ]
    refine take_at (v := ?_) 12 19 rfl rfl (by kernel_rfl) (by kernel_rfl) (by kernel_rfl) (fun _ _ _ h => h) hHeld (Or.inl ⟨by rfl, ?_⟩) rfl ?_
    rotate_left
    · intro wq hSw
      have hst := Has.spSeal (HSs.out.under (hk1.trans (hSw.mono hk1.size)) HSs.out.lt) HK.out.2.2.1
      go_simp
      try with_reducible rfl
    simp only [List.set_cons_zero, List.set_cons_succ]
    refine wpAnyH_ready (rs := [10]) (by kernel_rfl) (by simp) ?_
    refine AllReadyH.cons rfl (fun K hK => ?_) AllReadyH.nil
    go_simp
    go_at_call 59; refine (pseal_any s.key id k1 (HTs.out.below hk1) HK.out.1 HK.out.2.1).mono ?_; rw [← HL.out.2]; rintro e k2 ⟨rfl, hk2⟩
    refine hK.out _ _ (Held.of hk2) (fun _ => ?_)
    clear hK K
    try simp only [Act.put, List.setIfInBounds_toArray, List.set_cons_zero, List.set_cons_succ]
    refine held_grow (w1 := k2) (Held.of hk2) ?_
    clear hHeld
    have hHeld : Held k2 k2 := Held.refl _
    by_cases h2 : sl = s.sl
    · have HE := Lib.hid (show r = true by rw [HR.out, Lk.opens, decide_eq_true_iff, ← HL.out.1, ← HL.out.2]; exact ⟨rfl, h2⟩)
      subst h2
      refine take_at (v := .bool true) 13 20 rfl rfl (by kernel_rfl) (by kernel_rfl) (by kernel_rfl) (fun _ _ _ h => h) hHeld (Or.inl ⟨by rfl, ?_⟩) rfl ?_
      · intro wq hSw
        go_simp
        skip
      simp only [List.set_cons_zero, List.set_cons_succ]
      refine take_at (v := ?_) 14 21 rfl rfl (by kernel_rfl) (by kernel_rfl) (by kernel_rfl) (fun _ _ _ h => h) hHeld (Or.inl ⟨by rfl, ?_⟩) rfl ?_
      rotate_left
      · intro wq hSw
        go_simp
        try with_reducible rfl
      simp only [List.set_cons_zero, List.set_cons_succ]
      refine take_at (v := ?_) 15 6 rfl rfl (by kernel_rfl) (by kernel_rfl) (by kernel_rfl) (fun _ _ _ h => h) hHeld (Or.inl ⟨by rfl, ?_⟩) rfl ?_
      rotate_left
      · intro wq hSw
        go_simp
        try with_reducible rfl
      simp only [List.set_cons_zero, List.set_cons_succ]
      refine wpAnyH_done (by kernel_rfl) ?_ _
      go_wp2
      go_ret
      exact ⟨by rw [HE.out]; rfl, hBs.trans ((hk1.trans (hk2.mono hk1.size)).mono hBs.size)⟩
    · have HE := Lib.hid (show r = false by rw [HR.out, Lk.opens, decide_eq_false_iff_not, ← HL.out.1, ← HL.out.2]; exact fun e => h2 e.2)
      have HQ := Lib.hid (show (nb64 sl == nb64 s.sl) = false from nb64_ne h2)
      clear h2
      refine take_at (v := .bool false) 13 20 rfl rfl (by kernel_rfl) (by kernel_rfl) (by kernel_rfl) (fun _ _ _ h => h) hHeld (Or.inl ⟨by rfl, ?_⟩) rfl ?_
      · intro wq hSw
        have hst := HQ.out
        go_simp
        skip
      simp only [List.set_cons_zero, List.set_cons_succ]
      refine take_at (v := ?_) 14 21 rfl rfl (by kernel_rfl) (by kernel_rfl) (by kernel_rfl) (fun _ _ _ h => h) hHeld (Or.inl ⟨by rfl, ?_⟩) rfl ?_
      rotate_left
      · intro wq hSw
        go_simp
        try with_reducible rfl
      simp only [List.set_cons_zero, List.set_cons_succ]
      refine take_at (v := ?_) 15 6 rfl rfl (by kernel_rfl) (by kernel_rfl) (by kernel_rfl) (fun _ _ _ h => h) hHeld (Or.inl ⟨by rfl, ?_⟩) rfl ?_
      rotate_left
      · intro wq hSw
        go_simp
        try with_reducible rfl
      simp only [List.set_cons_zero, List.set_cons_succ]
      refine wpAnyH_done (by kernel_rfl) ?_ _
      go_wp2
      go_ret
      exact ⟨by rw [HE.out]; rfl, hBs.trans ((hk1.trans (hk2.mono hk1.size)).mono hBs.size)⟩
  · have HE := Lib.hid (show r = false by rw [HR.out, Lk.opens, decide_eq_false_iff_not, ← HL.out.1, ← HL.out.2]; exact fun e => h1 e.1)
    have HQ := Lib.hid (show (nb64 lk == nb64 c.lock) = false from nb64_ne h1)
    clear h1
    refine take_at (v := .bool false) 5 12 rfl rfl (by kernel_rfl) (by kernel_rfl) (by kernel_rfl) (fun _ _ _ h => h) hHeld (Or.inl ⟨by rfl, ?_⟩) rfl ?_
    · intro wq hSw
      have hst := HQ.out
      go_simp
      skip
    simp only [List.set_cons_zero, List.set_cons_succ]
    refine take_at (v := ?_) 6 13 rfl rfl (by kernel_rfl) (by kernel_rfl) (by kernel_rfl) (fun _ _ _ h => h) hHeld (Or.inl ⟨by rfl, ?_⟩) rfl ?_
    rotate_left
    · intro wq hSw
      go_simp
      try with_reducible rfl
    simp only [List.set_cons_zero, List.set_cons_succ]
    refine take_at (v := undef) 7 14 rfl rfl (by kernel_rfl) (by kernel_rfl) (by kernel_rfl) (fun _ _ _ h => h) hHeld (Or.inr ⟨by rfl, rfl⟩) rfl ?_
    simp only [List.set_cons_zero, List.set_cons_succ]
    refine take_at (v := undef) 8 15 rfl rfl (by kernel_rfl) (by kernel_rfl) (by kernel_rfl) (fun _ _ _ h => h) hHeld (Or.inr ⟨by rfl, rfl⟩) rfl ?_
    simp only [List.set_cons_zero, List.set_cons_succ]
    refine take_at (v := undef) 9 16 rfl rfl (by kernel_rfl) (by kernel_rfl) (by kernel_rfl) (fun _ _ _ h => h) hHeld (Or.inr ⟨by rfl, rfl⟩) rfl ?_
    simp only [List.set_cons_zero, List.set_cons_succ]
    refine take_at (v := undef) 10 17 rfl rfl (by kernel_rfl) (by kernel_rfl) (by kernel_rfl) (fun _ _ _ h => h) hHeld (Or.inr ⟨by rfl, rfl⟩) rfl ?_
    simp only [List.set_cons_zero, List.set_cons_succ]
    refine take_at (v := undef) 11 18 rfl rfl (by kernel_rfl) (by kernel_rfl) (by kernel_rfl) (fun _ _ _ h => h) hHeld (Or.inr ⟨by rfl, rfl⟩) rfl ?_
    simp only [List.set_cons_zero, List.set_cons_succ]
    refine take_at (v := undef) 12 19 rfl rfl (by kernel_rfl) (by kernel_rfl) (by kernel_rfl) (fun _ _ _ h => h) hHeld (Or.inr ⟨by rfl, rfl⟩) rfl ?_
    simp only [List.set_cons_zero, List.set_cons_succ]
    refine take_at (v := undef) 13 20 rfl rfl (by kernel_rfl) (by kernel_rfl) (by kernel_rfl) (fun _ _ _ h => h) hHeld (Or.inr ⟨by rfl, rfl⟩) rfl ?_
    simp only [List.set_cons_zero, List.set_cons_succ]
    refine take_at (v := ?_) 14 21 rfl rfl (by kernel_rfl) (by kernel_rfl) (by kernel_rfl) (fun _ _ _ h => h) hHeld (Or.inl ⟨by rfl, ?_⟩) rfl ?_
    rotate_left
    · intro wq hSw
      go_simp
      try with_reducible rfl
    simp only [List.set_cons_zero, List.set_cons_succ]
    refine take_at (v := ?_) 15 6 rfl rfl (by kernel_rfl) (by kernel_rfl) (by kernel_rfl) (fun _ _ _ h => h) hHeld (Or.inl ⟨by rfl, ?_⟩) rfl ?_
    rotate_left
    · intro wq hSw
      go_simp
      try with_reducible rfl
    simp only [List.set_cons_zero, List.set_cons_succ]
    refine wpAnyH_done (by kernel_rfl) ?_ _
    go_wp2
    go_ret
    exact ⟨by rw [HE.out]; rfl, hBs.trans ((hk1).mono hBs.size)⟩
theorem lockA : LockA KDg where
  stay := fun h hb => h.below hb
  lock := fun key w hK hk => plock_any key w hK hk
  sealed := fun key id w hK hk hid => pseal_any key id w hK hk hid
  opens := fun s c id w hK hok hk hid => popens_any s c id w hok hk hid hK
end Go.Proofs.YtagjolbpmhbifaaGreatDoor
