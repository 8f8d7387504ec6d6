/- TxChecks over the premise (mktxl.py) -/
import Derived.Test.YtpbijcchdjppmaaTxK
namespace Go.Proofs.Ytpbijcchdjppmaa
open Go Go.RowKit Go.ChangeShapes Go.WideShapes
set_option maxRecDepth 100000 in
set_option maxHeartbeats 16000000 in
theorem checksMain (ok : TxOk) (a : Option Addr) (n q : Nat) (b : Option Addr) (m r : Nat) (t : Tx.T) (a' : Option Addr) (n' q' : Nat) (b' : Option Addr) (m' r' : Nat) (u : Tx.T) (W : World) (ht : TxAt W a n q b m r t) (hu : TxAt W a' n' q' b' m' r' u) :
    Calls Try.prog 3 #[txv a n q b m r t.firm, txv a' n' q' b' m' r' u.firm] W fun e w' => e = .returned (.bool true) ∧ Below W.heap.size W w' := by
  have HAT := Lib.hid ht
  have HBT := Lib.hid hu
  clear ht hu
  go_enter Try.func3, Try.ntmps3
  go_upto_region 1 with fail
  obtain ⟨W1, hW1⟩ : ∃ x, x = (W.alloc (.cells #[.slice a n q, .slice b m r, .bool t.firm] 25)).alloc (.cells #[.slice a' n' q', .slice b' m' r', .bool u.firm] 25) := ⟨_, rfl⟩
  have hT1 : Below W.heap.size W W1 := by
    rw [hW1]
    exact ((Below.refl _ W).alloc (Nat.le_refl _) _).alloc (by simp) _
  have hX : Has W1 W.heap.size 25 #[.slice a n q, .slice b m r, .bool t.firm] := by rw [hW1]; exact (Has.fresh W _ _).past _
  have hY : Has W1 (W.heap.size + 1) 25 #[.slice a' n' q', .slice b' m' r', .bool u.firm] := by rw [hW1]; exact Has.fresh_at _ _ _ (by simp)
  rw [← hW1]
  clear hW1
  obtain ⟨g1, hg1⟩ : ∃ g, g = W.heap.size := ⟨_, rfl⟩
  obtain ⟨g2, hg2⟩ : ∃ g, g = W.heap.size + 1 := ⟨_, rfl⟩
  rw [← hg2, ← hg1]
  rw [← hg1] at hX
  rw [← hg2] at hY
  clear hg1 hg2
  go_upto_region 3 with (go_at_call 6; refine (alive10 ok.al W1).mono ?_; rintro e w2 ⟨rfl, hb2⟩)
  have hT2 := hT1.trans (hb2.mono hT1.size)
  replace hX := hX.under hb2 hX.lt
  replace hY := hY.under hb2 hY.lt
  replace HAT := Lib.hid (HAT.out.below hT2)
  replace HBT := Lib.hid (HBT.out.below hT2)
  have lX := hX.load_agg (P := Try.prog) (t := 25) Try.underlying25 rfl (by kernel_rfl)
  have lY := hY.load_agg (P := Try.prog) (t := 25) Try.underlying25 rfl (by kernel_rfl)
  obtain ⟨w3, hw3⟩ : ∃ x, x = w2.alloc (.cells #[.slice a n q, .slice b m r, .bool t.firm, .slice a' n' q', .slice b' m' r', .bool u.firm] 25) := ⟨_, rfl⟩
  have hb3 : Below w2.heap.size w2 w3 := by rw [hw3]; exact (Below.refl _ _).alloc (Nat.le_refl _) _
  have HTS := Lib.hid (show Txs w3 (some ⟨w2.heap.size, 0, none⟩) 2 [⟨a, n, q, b, m, r, t⟩, ⟨a', n', q', b', m', r', u⟩] from
    ⟨recs_fresh (R := vRec) (fun _ _ => trivial) (by rw [hw3]; exact Has.fresh _ _ _) (by show 2 ≤ maxLen; unfold maxLen; omega) (fun j v hj => by rw [List.getElem?_toArray]; exact hj),
      fun x hx => by
        rcases List.mem_cons.1 hx with rfl | hx
        · exact HAT.out.below hb3
        · obtain rfl := List.mem_singleton.1 hx
          exact HBT.out.below hb3⟩)
  have HW3 := Lib.hid hw3
  clear hw3 hb2 hT1
  go_upto_if 14 with (first
    | (go_at_call 7; rw [← HW3.out]; refine (large_any _ 2 2 _ w3 HTS.out).mono ?_; rintro e w4 ⟨bl, rfl, hsm, hb4⟩)
    | (refine wpList_load_run rfl 25 (.tmp 3) rfl _ _ rfl lY ?_)
    | (refine wpList_load_run rfl 25 (.tmp 2) rfl _ _ rfl lX ?_))
  have hb24 := hb3.trans (hb4.mono hb3.size)
  have hT4 := hT2.trans (hb24.mono hT2.size)
  clear lX lY hb3 hb4 HTS HW3
  cases bl with
  | true =>
    clear hsm
    go_wp2
    go_ret
    exact ⟨rfl, hT4⟩
  | false =>
    have hS := (hsm rfl).2
    have SA := Lib.hid (hS _ List.mem_cons_self)
    have SB := Lib.hid (hS _ (List.mem_cons_of_mem _ List.mem_cons_self))
    clear hsm hS
    replace hX := hX.under hb24 hX.lt
    replace hY := hY.under hb24 hY.lt
    replace HAT := Lib.hid (HAT.out.below hb24)
    replace HBT := Lib.hid (HBT.out.below hb24)
    clear hb24 hT2
    obtain ⟨sm, hsm⟩ : ∃ x, x = (Am.total (Tx.vals t.co) 0).1 := ⟨_, rfl⟩
    obtain ⟨er, her⟩ : ∃ x, x = (Am.total (Tx.vals t.co) 0).2 := ⟨_, rfl⟩
    obtain ⟨z, hz⟩ : ∃ x, x = Tx.check t := ⟨_, rfl⟩
    obtain ⟨d, hd⟩ : ∃ x, x = decide (t = u) := ⟨_, rfl⟩
    have HV := Lib.hid (And.intro hsm (And.intro her (And.intro hz hd)))
    clear hsm her hz hd
    have lX := hX.load_agg (P := Try.prog) (t := 25) Try.underlying25 rfl (by kernel_rfl)
    go_upto_region 6 with (first
      | (go_at_call 8; refine (ok.out a n q b m r t w4 HAT.out SA.out).mono ?_; rw [← HV.out.1, ← HV.out.2.1]; rintro e w5 ⟨rfl, hb5⟩)
      | (refine wpList_load_run rfl 25 (.tmp 2) rfl _ _ rfl lX ?_))
    clear lX
    replace hX := hX.under hb5 hX.lt
    replace hY := hY.under hb5 hY.lt
    replace HAT := Lib.hid (HAT.out.below hb5)
    replace HBT := Lib.hid (HBT.out.below hb5)
    have hT5 := hT4.trans (hb5.mono hT4.size)
    clear hb5 hT4
    have lX := hX.load_agg (P := Try.prog) (t := 25) Try.underlying25 rfl (by kernel_rfl)
    go_upto_region 7 with (first
      | (go_at_call 9; refine (rout_any a n q b m r t w5 HAT.out (by have := SA.out.2.1; have e : t.co.length = m := HAT.out.co.1; omega)).mono ?_; rw [← HV.out.1, ← HV.out.2.1]; rintro e w6 ⟨rfl, hb6⟩)
      | (refine wpList_load_run rfl 25 (.tmp 2) rfl _ _ rfl lX ?_))
    clear lX
    obtain ⟨ws, hws⟩ : ∃ x, x = w6.drew := ⟨_, rfl⟩
    have hbs : Below w5.heap.size w5 ws := by rw [hws]; exact hb6.drew
    have HX := Lib.hid (hX.under hbs hX.lt)
    have HY := Lib.hid (hY.under hbs hY.lt)
    replace HAT := Lib.hid (HAT.out.below hbs)
    replace HBT := Lib.hid (HBT.out.below hbs)
    have HT := Lib.hid (hT5.trans (hbs.mono hT5.size))
    refine wp_region_held_drew (S := Held ws) (by kernel_rfl) (by rw [hws]; exact Held.refl _) (fun hHeld => ?_)
    rw [← hws] at hHeld ⊢
    clear hws hbs hb6 hX hY hT5
    refine take_at 0 25 rfl rfl (by kernel_rfl) (by kernel_rfl) (by kernel_rfl) (fun _ _ _ h => h) hHeld (yieldsIf_load_agg (by rfl) 25 (.tmp 2) rfl _ _ (by rfl) (fun wq hSw => (HX.out.under hSw HX.out.lt).load_agg (P := Try.prog) (t := 25) Try.underlying25 rfl (by kernel_rfl))) rfl ?_
    simp only [List.set_cons_zero, List.set_cons_succ]
    refine take_at 3 28 rfl rfl (by kernel_rfl) (by kernel_rfl) (by kernel_rfl) (fun _ _ _ h => h) hHeld (yieldsIf_load_agg (by rfl) 25 (.tmp 2) rfl _ _ (by rfl) (fun wq hSw => (HX.out.under hSw HX.out.lt).load_agg (P := Try.prog) (t := 25) Try.underlying25 rfl (by kernel_rfl))) rfl ?_
    simp only [List.set_cons_zero, List.set_cons_succ]
    refine wpAnyH_ready (rs := [1]) (by kernel_rfl) (by simp) ?_
    refine AllReadyH.cons rfl (fun K hK => ?_) AllReadyH.nil
    go_simp
    go_at_call 11; refine (ok.al.check a n q b m r t ws HAT.out SA.out).mono ?_; rw [← HV.out.2.2.1]; rintro e k1 ⟨rfl, hkk1⟩
    refine hK.out _ _ (Held.of hkk1) (fun _ => ?_)
    clear hK K
    try simp only [Act.put, List.setIfInBounds_toArray, List.set_cons_zero, List.set_cons_succ]
    refine held_grow (w1 := k1) (Held.of hkk1) ?_
    clear hHeld
    have hHeld : Held k1 k1 := Held.refl _
    replace HX := Lib.hid (HX.out.under hkk1 HX.out.lt)
    replace HY := Lib.hid (HY.out.under hkk1 HY.out.lt)
    replace HAT := Lib.hid (HAT.out.below hkk1)
    replace HBT := Lib.hid (HBT.out.below hkk1)
    replace HT := Lib.hid (HT.out.trans (hkk1.mono HT.out.size))
    clear hkk1
    refine wpAnyH_ready (rs := [2]) (by kernel_rfl) (by simp) ?_
    refine AllReadyH.cons rfl (fun K hK => ?_) AllReadyH.nil
    go_simp
    go_at_call 10; refine (num_any z _).mono ?_; rintro e wk ⟨rfl, rfl⟩
    refine hK.out _ _ hHeld (fun _ => ?_)
    clear hK K
    try simp only [Act.put, List.setIfInBounds_toArray, List.set_cons_zero, List.set_cons_succ]
    refine wpAnyH_ready (rs := [4]) (by kernel_rfl) (by simp) ?_
    refine AllReadyH.cons rfl (fun K hK => ?_) AllReadyH.nil
    go_simp
    go_at_call 12; refine (rcheck_any a n q b m r t k1 HAT.out).mono ?_; rw [← HV.out.2.2.1]; rintro e k2 ⟨rfl, hkk2⟩
    refine hK.out _ _ (Held.of hkk2) (fun _ => ?_)
    clear hK K
    try simp only [Act.put, List.setIfInBounds_toArray, List.set_cons_zero, List.set_cons_succ]
    refine held_grow (w1 := k2) (Held.of hkk2) ?_
    clear hHeld
    have hHeld : Held k2 k2 := Held.refl _
    replace HX := Lib.hid (HX.out.under hkk2 HX.out.lt)
    replace HY := Lib.hid (HY.out.under hkk2 HY.out.lt)
    replace HAT := Lib.hid (HAT.out.below hkk2)
    replace HBT := Lib.hid (HBT.out.below hkk2)
    replace HT := Lib.hid (HT.out.trans (hkk2.mono HT.out.size))
    clear hkk2
    refine take_at (v := ?_) 5 30 rfl rfl (by kernel_rfl) (by kernel_rfl) (by kernel_rfl) (fun _ _ _ h => h) hHeld (Or.inl ⟨by rfl, ?_⟩) rfl ?_
    rotate_left
    · intro wq hSw
      go_simp
      try with_reducible rfl
    simp only [List.set_cons_zero, List.set_cons_succ]
    refine take_at (v := ?_) 6 31 rfl rfl (by kernel_rfl) (by kernel_rfl) (by kernel_rfl) (fun _ _ _ h => h) hHeld (Or.inl ⟨by rfl, ?_⟩) rfl ?_
    rotate_left
    · intro wq hSw
      go_simp
      try with_reducible rfl
    simp only [List.set_cons_zero, List.set_cons_succ]
    refine take_at (v := ?_) 7 32 rfl rfl (by kernel_rfl) (by kernel_rfl) (by kernel_rfl) (fun _ _ _ h => h) hHeld (Or.inl ⟨by rfl, ?_⟩) rfl ?_
    rotate_left
    · intro wq hSw
      go_simp
      try with_reducible rfl
    simp only [List.set_cons_zero, List.set_cons_succ]
    refine take_at (v := ?_) 8 33 rfl rfl (by kernel_rfl) (by kernel_rfl) (by kernel_rfl) (fun _ _ _ h => h) hHeld (Or.inl ⟨by rfl, ?_⟩) rfl ?_
    rotate_left
    · intro wq hSw
      go_simp
      try with_reducible rfl
    simp only [List.set_cons_zero, List.set_cons_succ]
    refine take_at (v := ?_) 9 34 rfl rfl (by kernel_rfl) (by kernel_rfl) (by kernel_rfl) (fun _ _ _ h => h) hHeld (Or.inl ⟨by rfl, ?_⟩) rfl ?_
    rotate_left
    · intro wq hSw
      go_simp
      try with_reducible rfl
    simp only [List.set_cons_zero, List.set_cons_succ]
    refine take_at (v := ?_) 10 35 rfl rfl (by kernel_rfl) (by kernel_rfl) (by kernel_rfl) (fun _ _ _ h => h) hHeld (Or.inl ⟨by rfl, ?_⟩) rfl ?_
    rotate_left
    · intro wq hSw
      go_simp
      try with_reducible rfl
    simp only [List.set_cons_zero, List.set_cons_succ]
    refine take_at (v := ?_) 11 36 rfl rfl (by kernel_rfl) (by kernel_rfl) (by kernel_rfl) (fun _ _ _ h => h) hHeld (Or.inl ⟨by rfl, ?_⟩) rfl ?_
    rotate_left
    · intro wq hSw
      go_simp
      try with_reducible rfl
    simp only [List.set_cons_zero, List.set_cons_succ]
    refine take_at (v := ?_) 12 37 rfl rfl (by kernel_rfl) (by kernel_rfl) (by kernel_rfl) (fun _ _ _ h => h) hHeld (Or.inl ⟨by rfl, ?_⟩) rfl ?_
    rotate_left
    · intro wq hSw
      go_simp
      try with_reducible rfl
    simp only [List.set_cons_zero, List.set_cons_succ]
    refine take_at (v := ?_) 14 39 rfl rfl (by kernel_rfl) (by kernel_rfl) (by kernel_rfl) (fun _ _ _ h => h) hHeld (Or.inl ⟨by rfl, ?_⟩) rfl ?_
    rotate_left
    · intro wq hSw
      go_simp
      try with_reducible rfl
    simp only [List.set_cons_zero, List.set_cons_succ]
    refine wpAnyH_ready (rs := [13]) (by kernel_rfl) (by simp) ?_
    refine AllReadyH.cons rfl (fun K hK => ?_) AllReadyH.nil
    go_simp
    go_at_call 10; refine (num_any er _).mono ?_; rintro e wk ⟨rfl, rfl⟩
    refine hK.out _ _ hHeld (fun _ => ?_)
    clear hK K
    try simp only [Act.put, List.setIfInBounds_toArray, List.set_cons_zero, List.set_cons_succ]
    refine take_at (v := ?_) 15 40 rfl rfl (by kernel_rfl) (by kernel_rfl) (by kernel_rfl) (fun _ _ _ h => h) hHeld (Or.inl ⟨by rfl, ?_⟩) rfl ?_
    rotate_left
    · intro wq hSw
      go_simp
      try with_reducible rfl
    simp only [List.set_cons_zero, List.set_cons_succ]
    refine take_at (v := ?_) 16 41 rfl rfl (by kernel_rfl) (by kernel_rfl) (by kernel_rfl) (fun _ _ _ h => h) hHeld (Or.inl ⟨by rfl, ?_⟩) rfl ?_
    rotate_left
    · intro wq hSw
      go_simp
      try with_reducible rfl
    simp only [List.set_cons_zero, List.set_cons_succ]
    refine take_at (v := ?_) 17 42 rfl rfl (by kernel_rfl) (by kernel_rfl) (by kernel_rfl) (fun _ _ _ h => h) hHeld (Or.inl ⟨by rfl, ?_⟩) rfl ?_
    rotate_left
    · intro wq hSw
      go_simp
      try with_reducible rfl
    simp only [List.set_cons_zero, List.set_cons_succ]
    refine take_at 18 43 rfl rfl (by kernel_rfl) (by kernel_rfl) (by kernel_rfl) (fun _ _ _ h => h) hHeld (yieldsIf_load_agg (by rfl) 25 (.tmp 2) rfl _ _ (by rfl) (fun wq hSw => (HX.out.under hSw HX.out.lt).load_agg (P := Try.prog) (t := 25) Try.underlying25 rfl (by kernel_rfl))) rfl ?_
    simp only [List.set_cons_zero, List.set_cons_succ]
    refine take_at 19 44 rfl rfl (by kernel_rfl) (by kernel_rfl) (by kernel_rfl) (fun _ _ _ h => h) hHeld (yieldsIf_load_agg (by rfl) 25 (.tmp 3) rfl _ _ (by rfl) (fun wq hSw => (HY.out.under hSw HY.out.lt).load_agg (P := Try.prog) (t := 25) Try.underlying25 rfl (by kernel_rfl))) rfl ?_
    simp only [List.set_cons_zero, List.set_cons_succ]
    refine take_at 21 46 rfl rfl (by kernel_rfl) (by kernel_rfl) (by kernel_rfl) (fun _ _ _ h => h) hHeld (yieldsIf_load_agg (by rfl) 25 (.tmp 2) rfl _ _ (by rfl) (fun wq hSw => (HX.out.under hSw HX.out.lt).load_agg (P := Try.prog) (t := 25) Try.underlying25 rfl (by kernel_rfl))) rfl ?_
    simp only [List.set_cons_zero, List.set_cons_succ]
    refine take_at 22 47 rfl rfl (by kernel_rfl) (by kernel_rfl) (by kernel_rfl) (fun _ _ _ h => h) hHeld (yieldsIf_load_agg (by rfl) 25 (.tmp 3) rfl _ _ (by rfl) (fun wq hSw => (HY.out.under hSw HY.out.lt).load_agg (P := Try.prog) (t := 25) Try.underlying25 rfl (by kernel_rfl))) rfl ?_
    simp only [List.set_cons_zero, List.set_cons_succ]
    refine wpAnyH_ready (rs := [20]) (by kernel_rfl) (by simp) ?_
    refine AllReadyH.cons rfl (fun K hK => ?_) AllReadyH.nil
    go_simp
    go_at_call 13; refine (ok.same a n q b m r t a' n' q' b' m' r' u k2 HAT.out HBT.out SA.out SB.out).mono ?_; rw [← HV.out.2.2.2]; rintro e k3 ⟨rfl, hkk3⟩
    refine hK.out _ _ (Held.of hkk3) (fun _ => ?_)
    clear hK K
    try simp only [Act.put, List.setIfInBounds_toArray, List.set_cons_zero, List.set_cons_succ]
    refine held_grow (w1 := k3) (Held.of hkk3) ?_
    clear hHeld
    have hHeld : Held k3 k3 := Held.refl _
    replace HX := Lib.hid (HX.out.under hkk3 HX.out.lt)
    replace HY := Lib.hid (HY.out.under hkk3 HY.out.lt)
    replace HAT := Lib.hid (HAT.out.below hkk3)
    replace HBT := Lib.hid (HBT.out.below hkk3)
    replace HT := Lib.hid (HT.out.trans (hkk3.mono HT.out.size))
    clear hkk3
    refine wpAnyH_ready (rs := [23]) (by kernel_rfl) (by simp) ?_
    refine AllReadyH.cons rfl (fun K hK => ?_) AllReadyH.nil
    go_simp
    go_at_call 14; refine (txeq_any a n q b m r t a' n' q' b' m' r' u k3 HAT.out HBT.out).mono ?_; rw [← HV.out.2.2.2]; rintro e k4 ⟨rfl, hkk4⟩
    refine hK.out _ _ (Held.of hkk4) (fun _ => ?_)
    clear hK K
    try simp only [Act.put, List.setIfInBounds_toArray, List.set_cons_zero, List.set_cons_succ]
    refine held_grow (w1 := k4) (Held.of hkk4) ?_
    clear hHeld
    have hHeld : Held k4 k4 := Held.refl _
    replace HX := Lib.hid (HX.out.under hkk4 HX.out.lt)
    replace HY := Lib.hid (HY.out.under hkk4 HY.out.lt)
    replace HAT := Lib.hid (HAT.out.below hkk4)
    replace HBT := Lib.hid (HBT.out.below hkk4)
    replace HT := Lib.hid (HT.out.trans (hkk4.mono HT.out.size))
    clear hkk4
    refine take_at (v := ?_) 24 49 rfl rfl (by kernel_rfl) (by kernel_rfl) (by kernel_rfl) (fun _ _ _ h => h) hHeld (Or.inl ⟨by rfl, ?_⟩) rfl ?_
    rotate_left
    · intro wq hSw
      go_simp
      try with_reducible rfl
    simp only [List.set_cons_zero, List.set_cons_succ]
    refine take_at (v := ?_) 25 50 rfl rfl (by kernel_rfl) (by kernel_rfl) (by kernel_rfl) (fun _ _ _ h => h) hHeld (Or.inl ⟨by rfl, ?_⟩) rfl ?_
    rotate_left
    · intro wq hSw
      go_simp
      try with_reducible rfl
    simp only [List.set_cons_zero, List.set_cons_succ]
    refine take_at (v := ?_) 26 51 rfl rfl (by kernel_rfl) (by kernel_rfl) (by kernel_rfl) (fun _ _ _ h => h) hHeld (Or.inl ⟨by rfl, ?_⟩) rfl ?_
    rotate_left
    · intro wq hSw
      go_simp
      try with_reducible rfl
    simp only [List.set_cons_zero, List.set_cons_succ]
    refine take_at 27 52 rfl rfl (by kernel_rfl) (by kernel_rfl) (by kernel_rfl) (fun _ _ _ h => h) hHeld (yieldsIf_load_agg (by rfl) 25 (.tmp 2) rfl _ _ (by rfl) (fun wq hSw => (HX.out.under hSw HX.out.lt).load_agg (P := Try.prog) (t := 25) Try.underlying25 rfl (by kernel_rfl))) rfl ?_
    simp only [List.set_cons_zero, List.set_cons_succ]
    refine take_at 28 53 rfl rfl (by kernel_rfl) (by kernel_rfl) (by kernel_rfl) (fun _ _ _ h => h) hHeld (yieldsIf_load_agg (by rfl) 25 (.tmp 2) rfl _ _ (by rfl) (fun wq hSw => (HX.out.under hSw HX.out.lt).load_agg (P := Try.prog) (t := 25) Try.underlying25 rfl (by kernel_rfl))) rfl ?_
    simp only [List.set_cons_zero, List.set_cons_succ]
    refine wpAnyH_ready (rs := [29]) (by kernel_rfl) (by simp) ?_
    refine AllReadyH.cons rfl (fun K hK => ?_) AllReadyH.nil
    go_simp
    go_at_call 13; refine (ok.same a n q b m r t a n q b m r t k4 HAT.out HAT.out SA.out SA.out).mono ?_; rw [decide_eq_true rfl]; rintro e k5 ⟨rfl, hkk5⟩
    refine hK.out _ _ (Held.of hkk5) (fun _ => ?_)
    clear hK K
    try simp only [Act.put, List.setIfInBounds_toArray, List.set_cons_zero, List.set_cons_succ]
    refine held_grow (w1 := k5) (Held.of hkk5) ?_
    clear hHeld
    have hHeld : Held k5 k5 := Held.refl _
    replace HX := Lib.hid (HX.out.under hkk5 HX.out.lt)
    replace HY := Lib.hid (HY.out.under hkk5 HY.out.lt)
    replace HAT := Lib.hid (HAT.out.below hkk5)
    replace HBT := Lib.hid (HBT.out.below hkk5)
    replace HT := Lib.hid (HT.out.trans (hkk5.mono HT.out.size))
    clear hkk5
    refine take_at (v := ?_) 30 55 rfl rfl (by kernel_rfl) (by kernel_rfl) (by kernel_rfl) (fun _ _ _ h => h) hHeld (Or.inl ⟨by rfl, ?_⟩) rfl ?_
    rotate_left
    · intro wq hSw
      go_simp
      try with_reducible rfl
    simp only [List.set_cons_zero, List.set_cons_succ]
    refine take_at (v := ?_) 31 4 rfl rfl (by kernel_rfl) (by kernel_rfl) (by kernel_rfl) (fun _ _ _ h => h) hHeld (Or.inl ⟨by rfl, ?_⟩) rfl ?_
    rotate_left
    · intro wq hSw
      go_simp
      try with_reducible rfl
    simp only [List.set_cons_zero, List.set_cons_succ]
    refine wpAnyH_done (by kernel_rfl) ?_ _
    go_wp2
    go_ret
    exact ⟨rfl, HT.out⟩
set_option maxRecDepth 100000 in
theorem txChecksWalkK (ok : TxOk) {H : Type} {enc : TypeId × Value → H} (W : World) (base : Nat) (v0 : Value) (d0 : DataW H) (p0 : List MemPlace) (v1 : Value) (d1 : DataW H) (p1 : List MemPlace)
    (o0 : Value.okWide Try.prog W .any base 25 v0) (o1 : Value.okWide Try.prog W .any base 25 v1)
    (h0 : DataW.Trod enc Try.prog W 0 (fun _ => true) true 25 v0 d0 p0) (h1 : DataW.Trod enc Try.prog W 0 (fun _ => true) true 25 v1 d1 p1) :
    Calls Try.prog 3 #[v0, v1] W fun e w' => e = .returned (.bool true) ∧ Below W.heap.size W w' := by
  obtain ⟨a, n, q, b, m, r, t, rfl, ht⟩ := arg_tx o0 h0
  obtain ⟨a', n', q', b', m', r', u, rfl, hu⟩ := arg_tx o1 h1
  exact checksMain ok a n q b m r t a' n' q' b' m' r' u W ht hu
end Go.Proofs.Ytpbijcchdjppmaa
