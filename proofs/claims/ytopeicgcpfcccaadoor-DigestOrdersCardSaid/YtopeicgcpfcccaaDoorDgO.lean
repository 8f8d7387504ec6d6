/- DigestOrders over the premise -/
import Derived.Test.YtopeicgcpfcccaaDoorDgK
import Derived.Test.YtopeicgcpfcccaaDoorEq
namespace Go.Proofs.YtopeicgcpfcccaaDoor
open Go Go.RowKit Go.ChangeShapes Go.WideShapes
theorem Dg.cmp_vals : ∀ a b : List (BitVec 8), Dg.cmp a b = -1 ∨ Dg.cmp a b = 0 ∨ Dg.cmp a b = 1
  | [], [] => .inr (.inl rfl)
  | [], _ :: _ => .inr (.inl rfl)
  | _ :: _, [] => .inr (.inl rfl)
  | a :: r, b :: s => by
    unfold Dg.cmp
    by_cases h : a = b
    · rw [if_pos h]
      exact Dg.cmp_vals r s
    · rw [if_neg h]
      by_cases hl : a < b
      · rw [if_pos hl]
        exact .inl rfl
      · rw [if_neg hl]
        exact .inr (.inr rfl)
set_option maxRecDepth 100000 in
set_option maxHeartbeats 16000000 in
theorem digestOrdersWalkK {KD : World → Prop} (ok : DigestOk KD) {H : Type} {enc : TypeId × Value → H} (W : World) (base : Nat) (v0 : Value) (d0 : DataW H) (p0 : List MemPlace) (v1 : Value) (d1 : DataW H) (p1 : List MemPlace)
    (o0 : Value.okWide Tryd.prog W .any base 25 v0) (o1 : Value.okWide Tryd.prog W .any base 25 v1)
    (h0 : DataW.Trod enc Tryd.prog W 0 (fun _ => true) true 25 v0 d0 p0) (h1 : DataW.Trod enc Tryd.prog W 0 (fun _ => true) true 25 v1 d1 p1) (hK : KD W) :
    Calls Tryd.prog 6 #[v0, v1] W fun e w' => e = .returned (.bool true) ∧ Below W.heap.size W w' := by
  obtain ⟨a, rfl, ha⟩ := arg_bytes32 Tryd.underlying25 Tryd.underlying5 (by kernel_rfl) (by kernel_rfl) o0 h0
  obtain ⟨b, rfl, hb⟩ := arg_bytes32 Tryd.underlying25 Tryd.underlying5 (by kernel_rfl) (by kernel_rfl) o1 h1
  clear o0 h0 o1 h1
  have HL := Lib.hid (And.intro ha hb)
  clear ha hb
  go_enter Tryd.func6, Tryd.ntmps6
  go_upto_region 1 with fail
  obtain ⟨w0, hw0⟩ : ∃ x, x = (W.alloc (.cells (blist a).toArray 25)).alloc (.cells (blist b).toArray 25) := ⟨_, rfl⟩
  rw [← hw0]
  have hA0 : Has w0 W.heap.size 25 (blist a).toArray := by rw [hw0]; exact (Has.fresh _ _ _).past _
  have hBb0 : Has w0 (W.heap.size + 1) 25 (blist b).toArray := by rw [hw0]; exact Has.fresh_at _ _ _ (by simp)
  have hT0 : Below W.heap.size W w0 := by rw [hw0]; exact ((Below.refl _ _).alloc (Nat.le_refl _) _).alloc (by simp) _
  have hK0 := ok.stay hK hT0
  clear hw0
  go_upto_region 4 with (first | (go_at_call 8; refine (alive07 ok w0 hK0).mono ?_; rintro e w1 ⟨rfl, hb1⟩))
  have hA1 := hA0.under hb1 hA0.lt
  have hBb1 := hBb0.under hb1 hBb0.lt
  have hT1 := hT0.trans (hb1.mono hT0.size)
  have hxa := Has.load_bytes (P := Tryd.prog) Tryd.underlying25 (by kernel_rfl) HL.out.1 hA1
  have hxb := Has.load_bytes (P := Tryd.prog) Tryd.underlying25 (by kernel_rfl) HL.out.2 hBb1
  have hsw := Dg.cmp_swap a b
  rcases Dg.cmp_vals a b with hc | hc | hc
  · have hc' : Dg.cmp b a = 1 := by rw [hsw, hc]; rfl
    have HC := Lib.hid (And.intro hc hc')
    have hd : decide (Dg.cmp a b = -1) = true := by rw [hc]; rfl
    have HD := Lib.hid hd
    clear hc hc' hsw hd
    go_upto_region 8 with (first
      | (refine wpList_load_run rfl 25 (.tmp 3) rfl _ _ rfl hxb ?_)
      | (refine wpList_load_run rfl 25 (.tmp 2) rfl _ _ rfl hxa ?_)
      | (go_at_call 17; refine (rless_any a b HL.out.1 HL.out.2 w1).mono ?_; rw [HD.out]; rintro e w5 ⟨rfl, hb5⟩))
    have hA5 := hA1.under hb5 hA1.lt
    have hBb5 := hBb1.under hb5 hBb1.lt
    have hT5 := hT1.trans (hb5.mono hT1.size)
    clear hxa hxb hA1 hBb1 hA0 hBb0 hT1 hT0 hK0
    have hAd := hA5.draw
    have hBd := hBb5.draw
    have hTd := hT5.drew
    refine wp_region_held_drew (S := Held w5.drew) (by kernel_rfl) (Held.refl _) (fun hHeld => ?_)
    refine take_at (v := .agg (blist a).toArray) 0 14 rfl rfl (by kernel_rfl) (by kernel_rfl) (by kernel_rfl) (fun _ _ _ h => h) hHeld (yieldsIf_load_mid (by rfl) 25 (.tmp 2) rfl W.heap.size 0 (by rfl) (blist a) _ (fun wq hSw => Has.range8 (hAd.under hSw hAd.lt)) Tryd.underlying25 rfl (size_hash HL.out.1)) rfl ?_
    simp only [List.set_cons_zero, List.set_cons_succ]
    refine take_at (v := .agg (blist b).toArray) 1 15 rfl rfl (by kernel_rfl) (by kernel_rfl) (by kernel_rfl) (fun _ _ _ h => h) hHeld (yieldsIf_load_mid (by rfl) 25 (.tmp 3) rfl (W.heap.size + 1) 0 (by rfl) (blist b) _ (fun wq hSw => Has.range8 (hBd.under hSw hBd.lt)) Tryd.underlying25 rfl (size_hash HL.out.2)) rfl ?_
    simp only [List.set_cons_zero, List.set_cons_succ]
    refine take_at (v := ?_) 3 17 rfl rfl (by kernel_rfl) (by kernel_rfl) (by kernel_rfl) (fun _ _ _ h => h) hHeld (Or.inl ⟨by rfl, ?_⟩) rfl ?_
    rotate_left
    · intro wq hSw
      go_simp
      try with_reducible rfl
    simp only [List.set_cons_zero, List.set_cons_succ]
    refine wpAnyH_ready (rs := [2]) (by kernel_rfl) (by simp) ?_
    refine AllReadyH.cons rfl (fun K hK => ?_) AllReadyH.nil
    go_simp
    go_at_call 18; refine (ok.compare a b w5.drew HL.out.1 HL.out.2).mono ?_; rw [HC.out.1]; rintro e w6 ⟨rfl, hB6⟩
    refine hK.out _ _ (Held.of hB6) (fun _ => ?_)
    clear hK K
    try simp only [Act.put, List.setIfInBounds_toArray, List.set_cons_zero, List.set_cons_succ]
    refine held_grow (w1 := w6) (Held.of hB6) ?_
    clear hHeld
    have hHeld : Held w6 w6 := Held.refl _
    replace hAd := hAd.under hB6 hAd.lt
    replace hBd := hBd.under hB6 hBd.lt
    replace hTd := hTd.trans (hB6.mono hTd.size)
    refine take_at (v := .bool true) 4 18 rfl rfl (by kernel_rfl) (by kernel_rfl) (by kernel_rfl) (fun _ _ _ h => h) hHeld (Or.inl ⟨by rfl, ?_⟩) rfl ?_
    · intro wq hSw
      go_simp
      skip
    simp only [List.set_cons_zero, List.set_cons_succ]
    refine take_at (v := ?_) 5 19 rfl rfl (by kernel_rfl) (by kernel_rfl) (by kernel_rfl) (fun _ _ _ h => h) hHeld (Or.inl ⟨by rfl, ?_⟩) rfl ?_
    rotate_left
    · intro wq hSw
      go_simp
      try with_reducible rfl
    simp only [List.set_cons_zero, List.set_cons_succ]
    refine take_at (v := .agg (blist b).toArray) 6 20 rfl rfl (by kernel_rfl) (by kernel_rfl) (by kernel_rfl) (fun _ _ _ h => h) hHeld (yieldsIf_load_mid (by rfl) 25 (.tmp 3) rfl (W.heap.size + 1) 0 (by rfl) (blist b) _ (fun wq hSw => Has.range8 (hBd.under hSw hBd.lt)) Tryd.underlying25 rfl (size_hash HL.out.2)) rfl ?_
    simp only [List.set_cons_zero, List.set_cons_succ]
    refine take_at (v := .agg (blist a).toArray) 7 21 rfl rfl (by kernel_rfl) (by kernel_rfl) (by kernel_rfl) (fun _ _ _ h => h) hHeld (yieldsIf_load_mid (by rfl) 25 (.tmp 2) rfl W.heap.size 0 (by rfl) (blist a) _ (fun wq hSw => Has.range8 (hAd.under hSw hAd.lt)) Tryd.underlying25 rfl (size_hash HL.out.1)) rfl ?_
    simp only [List.set_cons_zero, List.set_cons_succ]
    refine take_at (v := ?_) 9 23 rfl rfl (by kernel_rfl) (by kernel_rfl) (by kernel_rfl) (fun _ _ _ h => h) hHeld (Or.inl ⟨by rfl, ?_⟩) rfl ?_
    rotate_left
    · intro wq hSw
      go_simp
      try with_reducible rfl
    simp only [List.set_cons_zero, List.set_cons_succ]
    refine take_at (v := ?_) 10 24 rfl rfl (by kernel_rfl) (by kernel_rfl) (by kernel_rfl) (fun _ _ _ h => h) hHeld (Or.inl ⟨by rfl, ?_⟩) rfl ?_
    rotate_left
    · intro wq hSw
      go_simp
      try with_reducible rfl
    simp only [List.set_cons_zero, List.set_cons_succ]
    refine wpAnyH_ready (rs := [8]) (by kernel_rfl) (by simp) ?_
    refine AllReadyH.cons rfl (fun K hK => ?_) AllReadyH.nil
    go_simp
    go_at_call 18; refine (ok.compare b a w6 HL.out.2 HL.out.1).mono ?_; rw [HC.out.2]; rintro e w7 ⟨rfl, hB7⟩
    refine hK.out _ _ (Held.of hB7) (fun _ => ?_)
    clear hK K
    try simp only [Act.put, List.setIfInBounds_toArray, List.set_cons_zero, List.set_cons_succ]
    refine held_grow (w1 := w7) (Held.of hB7) ?_
    clear hHeld
    have hHeld : Held w7 w7 := Held.refl _
    replace hAd := hAd.under hB7 hAd.lt
    replace hBd := hBd.under hB7 hBd.lt
    replace hTd := hTd.trans (hB7.mono hTd.size)
    refine take_at (v := .bool true) 11 25 rfl rfl (by kernel_rfl) (by kernel_rfl) (by kernel_rfl) (fun _ _ _ h => h) hHeld (Or.inl ⟨by rfl, ?_⟩) rfl ?_
    · intro wq hSw
      (go_simp; try rfl)
      skip
    simp only [List.set_cons_zero, List.set_cons_succ]
    refine take_at (v := ?_) 12 26 rfl rfl (by kernel_rfl) (by kernel_rfl) (by kernel_rfl) (fun _ _ _ h => h) hHeld (Or.inl ⟨by rfl, ?_⟩) rfl ?_
    rotate_left
    · intro wq hSw
      go_simp
      try with_reducible rfl
    simp only [List.set_cons_zero, List.set_cons_succ]
    refine take_at (v := ?_) 13 27 rfl rfl (by kernel_rfl) (by kernel_rfl) (by kernel_rfl) (fun _ _ _ h => h) hHeld (Or.inl ⟨by rfl, ?_⟩) rfl ?_
    rotate_left
    · intro wq hSw
      go_simp
      try with_reducible rfl
    simp only [List.set_cons_zero, List.set_cons_succ]
    refine take_at (v := .agg (blist a).toArray) 14 28 rfl rfl (by kernel_rfl) (by kernel_rfl) (by kernel_rfl) (fun _ _ _ h => h) hHeld (yieldsIf_load_mid (by rfl) 25 (.tmp 2) rfl W.heap.size 0 (by rfl) (blist a) _ (fun wq hSw => Has.range8 (hAd.under hSw hAd.lt)) Tryd.underlying25 rfl (size_hash HL.out.1)) rfl ?_
    simp only [List.set_cons_zero, List.set_cons_succ]
    refine take_at (v := .agg (blist a).toArray) 16 30 rfl rfl (by kernel_rfl) (by kernel_rfl) (by kernel_rfl) (fun _ _ _ h => h) hHeld (yieldsIf_load_mid (by rfl) 25 (.tmp 2) rfl W.heap.size 0 (by rfl) (blist a) _ (fun wq hSw => Has.range8 (hAd.under hSw hAd.lt)) Tryd.underlying25 rfl (size_hash HL.out.1)) rfl ?_
    simp only [List.set_cons_zero, List.set_cons_succ]
    refine wpAnyH_ready (rs := [15]) (by kernel_rfl) (by simp) ?_
    refine AllReadyH.cons rfl (fun K hK => ?_) AllReadyH.nil
    go_simp
    go_at_call 13; refine (ok.word a w7 HL.out.1).mono ?_; rintro e w8 ⟨rfl, hB8⟩
    refine hK.out _ _ (Held.of hB8) (fun _ => ?_)
    clear hK K
    try simp only [Act.put, List.setIfInBounds_toArray, List.set_cons_zero, List.set_cons_succ]
    refine held_grow (w1 := w8) (Held.of hB8) ?_
    clear hHeld
    have hHeld : Held w8 w8 := Held.refl _
    replace hAd := hAd.under hB8 hAd.lt
    replace hBd := hBd.under hB8 hBd.lt
    replace hTd := hTd.trans (hB8.mono hTd.size)
    refine wpAnyH_ready (rs := [17]) (by kernel_rfl) (by simp) ?_
    refine AllReadyH.cons rfl (fun K hK => ?_) AllReadyH.nil
    go_simp
    go_at_call 14; refine (rword_any a HL.out.1 w8).mono ?_; rintro e w9 ⟨rfl, hB9⟩
    refine hK.out _ _ (Held.of hB9) (fun _ => ?_)
    clear hK K
    try simp only [Act.put, List.setIfInBounds_toArray, List.set_cons_zero, List.set_cons_succ]
    refine held_grow (w1 := w9) (Held.of hB9) ?_
    clear hHeld
    have hHeld : Held w9 w9 := Held.refl _
    replace hAd := hAd.under hB9 hAd.lt
    replace hBd := hBd.under hB9 hBd.lt
    replace hTd := hTd.trans (hB9.mono hTd.size)
    refine take_at (v := .bool true) 18 32 rfl rfl (by kernel_rfl) (by kernel_rfl) (by kernel_rfl) (fun _ _ _ h => h) hHeld (Or.inl ⟨by rfl, ?_⟩) rfl ?_
    · intro wq hSw
      go_simp
      skip
    simp only [List.set_cons_zero, List.set_cons_succ]
    refine take_at (v := ?_) 19 33 rfl rfl (by kernel_rfl) (by kernel_rfl) (by kernel_rfl) (fun _ _ _ h => h) hHeld (Or.inl ⟨by rfl, ?_⟩) rfl ?_
    rotate_left
    · intro wq hSw
      go_simp
      try with_reducible rfl
    simp only [List.set_cons_zero, List.set_cons_succ]
    refine take_at (v := ?_) 20 4 rfl rfl (by kernel_rfl) (by kernel_rfl) (by kernel_rfl) (fun _ _ _ h => h) hHeld (Or.inl ⟨by rfl, ?_⟩) rfl ?_
    rotate_left
    · intro wq hSw
      go_simp
      try with_reducible rfl
    simp only [List.set_cons_zero, List.set_cons_succ]
    refine wpAnyH_done (by kernel_rfl) ?_ _
    go_wp2_with fail
    go_ret
    exact ⟨rfl, hTd⟩
  · have hc' : Dg.cmp b a = 0 := by rw [hsw, hc]; rfl
    have HC := Lib.hid (And.intro hc hc')
    have hd : decide (Dg.cmp a b = -1) = false := by rw [hc]; rfl
    have hd' : decide (Dg.cmp b a = -1) = false := by rw [hc']; rfl
    have HD := Lib.hid (And.intro hd hd')
    clear hc hc' hsw hd hd'
    go_upto_region 6 with (first
      | (refine wpList_load_run rfl 25 (.tmp 3) rfl _ _ rfl hxb ?_)
      | (refine wpList_load_run rfl 25 (.tmp 2) rfl _ _ rfl hxa ?_)
      | (go_at_call 17; refine (rless_any a b HL.out.1 HL.out.2 w1).mono ?_; rw [HD.out.1]; rintro e w4 ⟨rfl, hb4⟩))
    have hA4 := hA1.under hb4 hA1.lt
    have hBb4 := hBb1.under hb4 hBb1.lt
    have hT4 := hT1.trans (hb4.mono hT1.size)
    clear hxa hxb hA1 hBb1 hA0 hBb0 hT1 hT0 hK0
    have hxa := Has.load_bytes (P := Tryd.prog) Tryd.underlying25 (by kernel_rfl) HL.out.1 hA4
    have hxb := Has.load_bytes (P := Tryd.prog) Tryd.underlying25 (by kernel_rfl) HL.out.2 hBb4
    go_upto_region 8 with (first
      | (refine wpList_load_run rfl 25 (.tmp 3) rfl _ _ rfl hxb ?_)
      | (refine wpList_load_run rfl 25 (.tmp 2) rfl _ _ rfl hxa ?_)
      | (go_at_call 17; refine (rless_any b a HL.out.2 HL.out.1 w4).mono ?_; rw [HD.out.2]; rintro e w5 ⟨rfl, hb5⟩))
    have hA5 := hA4.under hb5 hA4.lt
    have hBb5 := hBb4.under hb5 hBb4.lt
    have hT5 := hT4.trans (hb5.mono hT4.size)
    clear hxa hxb hA4 hBb4 hT4
    have hAd := hA5.draw
    have hBd := hBb5.draw
    have hTd := hT5.drew
    refine wp_region_held_drew (S := Held w5.drew) (by kernel_rfl) (Held.refl _) (fun hHeld => ?_)
    refine take_at (v := .agg (blist a).toArray) 0 14 rfl rfl (by kernel_rfl) (by kernel_rfl) (by kernel_rfl) (fun _ _ _ h => h) hHeld (yieldsIf_load_mid (by rfl) 25 (.tmp 2) rfl W.heap.size 0 (by rfl) (blist a) _ (fun wq hSw => Has.range8 (hAd.under hSw hAd.lt)) Tryd.underlying25 rfl (size_hash HL.out.1)) rfl ?_
    simp only [List.set_cons_zero, List.set_cons_succ]
    refine take_at (v := .agg (blist b).toArray) 1 15 rfl rfl (by kernel_rfl) (by kernel_rfl) (by kernel_rfl) (fun _ _ _ h => h) hHeld (yieldsIf_load_mid (by rfl) 25 (.tmp 3) rfl (W.heap.size + 1) 0 (by rfl) (blist b) _ (fun wq hSw => Has.range8 (hBd.under hSw hBd.lt)) Tryd.underlying25 rfl (size_hash HL.out.2)) rfl ?_
    simp only [List.set_cons_zero, List.set_cons_succ]
    refine take_at (v := ?_) 3 17 rfl rfl (by kernel_rfl) (by kernel_rfl) (by kernel_rfl) (fun _ _ _ h => h) hHeld (Or.inl ⟨by rfl, ?_⟩) rfl ?_
    rotate_left
    · intro wq hSw
      go_simp
      try with_reducible rfl
    simp only [List.set_cons_zero, List.set_cons_succ]
    refine wpAnyH_ready (rs := [2]) (by kernel_rfl) (by simp) ?_
    refine AllReadyH.cons rfl (fun K hK => ?_) AllReadyH.nil
    go_simp
    go_at_call 18; refine (ok.compare a b w5.drew HL.out.1 HL.out.2).mono ?_; rw [HC.out.1]; rintro e w6 ⟨rfl, hB6⟩
    refine hK.out _ _ (Held.of hB6) (fun _ => ?_)
    clear hK K
    try simp only [Act.put, List.setIfInBounds_toArray, List.set_cons_zero, List.set_cons_succ]
    refine held_grow (w1 := w6) (Held.of hB6) ?_
    clear hHeld
    have hHeld : Held w6 w6 := Held.refl _
    replace hAd := hAd.under hB6 hAd.lt
    replace hBd := hBd.under hB6 hBd.lt
    replace hTd := hTd.trans (hB6.mono hTd.size)
    refine take_at (v := .bool true) 4 18 rfl rfl (by kernel_rfl) (by kernel_rfl) (by kernel_rfl) (fun _ _ _ h => h) hHeld (Or.inl ⟨by rfl, ?_⟩) rfl ?_
    · intro wq hSw
      go_simp
      skip
    simp only [List.set_cons_zero, List.set_cons_succ]
    refine take_at (v := ?_) 5 19 rfl rfl (by kernel_rfl) (by kernel_rfl) (by kernel_rfl) (fun _ _ _ h => h) hHeld (Or.inl ⟨by rfl, ?_⟩) rfl ?_
    rotate_left
    · intro wq hSw
      go_simp
      try with_reducible rfl
    simp only [List.set_cons_zero, List.set_cons_succ]
    refine take_at (v := .agg (blist b).toArray) 6 20 rfl rfl (by kernel_rfl) (by kernel_rfl) (by kernel_rfl) (fun _ _ _ h => h) hHeld (yieldsIf_load_mid (by rfl) 25 (.tmp 3) rfl (W.heap.size + 1) 0 (by rfl) (blist b) _ (fun wq hSw => Has.range8 (hBd.under hSw hBd.lt)) Tryd.underlying25 rfl (size_hash HL.out.2)) rfl ?_
    simp only [List.set_cons_zero, List.set_cons_succ]
    refine take_at (v := .agg (blist a).toArray) 7 21 rfl rfl (by kernel_rfl) (by kernel_rfl) (by kernel_rfl) (fun _ _ _ h => h) hHeld (yieldsIf_load_mid (by rfl) 25 (.tmp 2) rfl W.heap.size 0 (by rfl) (blist a) _ (fun wq hSw => Has.range8 (hAd.under hSw hAd.lt)) Tryd.underlying25 rfl (size_hash HL.out.1)) rfl ?_
    simp only [List.set_cons_zero, List.set_cons_succ]
    refine take_at (v := ?_) 9 23 rfl rfl (by kernel_rfl) (by kernel_rfl) (by kernel_rfl) (fun _ _ _ h => h) hHeld (Or.inl ⟨by rfl, ?_⟩) rfl ?_
    rotate_left
    · intro wq hSw
      go_simp
      try with_reducible rfl
    simp only [List.set_cons_zero, List.set_cons_succ]
    refine take_at (v := ?_) 10 24 rfl rfl (by kernel_rfl) (by kernel_rfl) (by kernel_rfl) (fun _ _ _ h => h) hHeld (Or.inl ⟨by rfl, ?_⟩) rfl ?_
    rotate_left
    · intro wq hSw
      go_simp
      try with_reducible rfl
    simp only [List.set_cons_zero, List.set_cons_succ]
    refine wpAnyH_ready (rs := [8]) (by kernel_rfl) (by simp) ?_
    refine AllReadyH.cons rfl (fun K hK => ?_) AllReadyH.nil
    go_simp
    go_at_call 18; refine (ok.compare b a w6 HL.out.2 HL.out.1).mono ?_; rw [HC.out.2]; rintro e w7 ⟨rfl, hB7⟩
    refine hK.out _ _ (Held.of hB7) (fun _ => ?_)
    clear hK K
    try simp only [Act.put, List.setIfInBounds_toArray, List.set_cons_zero, List.set_cons_succ]
    refine held_grow (w1 := w7) (Held.of hB7) ?_
    clear hHeld
    have hHeld : Held w7 w7 := Held.refl _
    replace hAd := hAd.under hB7 hAd.lt
    replace hBd := hBd.under hB7 hBd.lt
    replace hTd := hTd.trans (hB7.mono hTd.size)
    refine take_at (v := .bool true) 11 25 rfl rfl (by kernel_rfl) (by kernel_rfl) (by kernel_rfl) (fun _ _ _ h => h) hHeld (Or.inl ⟨by rfl, ?_⟩) rfl ?_
    · intro wq hSw
      (go_simp; try rfl)
      skip
    simp only [List.set_cons_zero, List.set_cons_succ]
    refine take_at (v := ?_) 12 26 rfl rfl (by kernel_rfl) (by kernel_rfl) (by kernel_rfl) (fun _ _ _ h => h) hHeld (Or.inl ⟨by rfl, ?_⟩) rfl ?_
    rotate_left
    · intro wq hSw
      go_simp
      try with_reducible rfl
    simp only [List.set_cons_zero, List.set_cons_succ]
    refine take_at (v := ?_) 13 27 rfl rfl (by kernel_rfl) (by kernel_rfl) (by kernel_rfl) (fun _ _ _ h => h) hHeld (Or.inl ⟨by rfl, ?_⟩) rfl ?_
    rotate_left
    · intro wq hSw
      go_simp
      try with_reducible rfl
    simp only [List.set_cons_zero, List.set_cons_succ]
    refine take_at (v := .agg (blist a).toArray) 14 28 rfl rfl (by kernel_rfl) (by kernel_rfl) (by kernel_rfl) (fun _ _ _ h => h) hHeld (yieldsIf_load_mid (by rfl) 25 (.tmp 2) rfl W.heap.size 0 (by rfl) (blist a) _ (fun wq hSw => Has.range8 (hAd.under hSw hAd.lt)) Tryd.underlying25 rfl (size_hash HL.out.1)) rfl ?_
    simp only [List.set_cons_zero, List.set_cons_succ]
    refine take_at (v := .agg (blist a).toArray) 16 30 rfl rfl (by kernel_rfl) (by kernel_rfl) (by kernel_rfl) (fun _ _ _ h => h) hHeld (yieldsIf_load_mid (by rfl) 25 (.tmp 2) rfl W.heap.size 0 (by rfl) (blist a) _ (fun wq hSw => Has.range8 (hAd.under hSw hAd.lt)) Tryd.underlying25 rfl (size_hash HL.out.1)) rfl ?_
    simp only [List.set_cons_zero, List.set_cons_succ]
    refine wpAnyH_ready (rs := [15]) (by kernel_rfl) (by simp) ?_
    refine AllReadyH.cons rfl (fun K hK => ?_) AllReadyH.nil
    go_simp
    go_at_call 13; refine (ok.word a w7 HL.out.1).mono ?_; rintro e w8 ⟨rfl, hB8⟩
    refine hK.out _ _ (Held.of hB8) (fun _ => ?_)
    clear hK K
    try simp only [Act.put, List.setIfInBounds_toArray, List.set_cons_zero, List.set_cons_succ]
    refine held_grow (w1 := w8) (Held.of hB8) ?_
    clear hHeld
    have hHeld : Held w8 w8 := Held.refl _
    replace hAd := hAd.under hB8 hAd.lt
    replace hBd := hBd.under hB8 hBd.lt
    replace hTd := hTd.trans (hB8.mono hTd.size)
    refine wpAnyH_ready (rs := [17]) (by kernel_rfl) (by simp) ?_
    refine AllReadyH.cons rfl (fun K hK => ?_) AllReadyH.nil
    go_simp
    go_at_call 14; refine (rword_any a HL.out.1 w8).mono ?_; rintro e w9 ⟨rfl, hB9⟩
    refine hK.out _ _ (Held.of hB9) (fun _ => ?_)
    clear hK K
    try simp only [Act.put, List.setIfInBounds_toArray, List.set_cons_zero, List.set_cons_succ]
    refine held_grow (w1 := w9) (Held.of hB9) ?_
    clear hHeld
    have hHeld : Held w9 w9 := Held.refl _
    replace hAd := hAd.under hB9 hAd.lt
    replace hBd := hBd.under hB9 hBd.lt
    replace hTd := hTd.trans (hB9.mono hTd.size)
    refine take_at (v := .bool true) 18 32 rfl rfl (by kernel_rfl) (by kernel_rfl) (by kernel_rfl) (fun _ _ _ h => h) hHeld (Or.inl ⟨by rfl, ?_⟩) rfl ?_
    · intro wq hSw
      go_simp
      skip
    simp only [List.set_cons_zero, List.set_cons_succ]
    refine take_at (v := ?_) 19 33 rfl rfl (by kernel_rfl) (by kernel_rfl) (by kernel_rfl) (fun _ _ _ h => h) hHeld (Or.inl ⟨by rfl, ?_⟩) rfl ?_
    rotate_left
    · intro wq hSw
      go_simp
      try with_reducible rfl
    simp only [List.set_cons_zero, List.set_cons_succ]
    refine take_at (v := ?_) 20 4 rfl rfl (by kernel_rfl) (by kernel_rfl) (by kernel_rfl) (fun _ _ _ h => h) hHeld (Or.inl ⟨by rfl, ?_⟩) rfl ?_
    rotate_left
    · intro wq hSw
      go_simp
      try with_reducible rfl
    simp only [List.set_cons_zero, List.set_cons_succ]
    refine wpAnyH_done (by kernel_rfl) ?_ _
    go_wp2_with fail
    go_ret
    exact ⟨rfl, hTd⟩
  · have hc' : Dg.cmp b a = -1 := by rw [hsw, hc]
    have HC := Lib.hid (And.intro hc hc')
    have hd : decide (Dg.cmp a b = -1) = false := by rw [hc]; rfl
    have hd' : decide (Dg.cmp b a = -1) = true := by rw [hc']; rfl
    have HD := Lib.hid (And.intro hd hd')
    clear hc hc' hsw hd hd'
    go_upto_region 6 with (first
      | (refine wpList_load_run rfl 25 (.tmp 3) rfl _ _ rfl hxb ?_)
      | (refine wpList_load_run rfl 25 (.tmp 2) rfl _ _ rfl hxa ?_)
      | (go_at_call 17; refine (rless_any a b HL.out.1 HL.out.2 w1).mono ?_; rw [HD.out.1]; rintro e w4 ⟨rfl, hb4⟩))
    have hA4 := hA1.under hb4 hA1.lt
    have hBb4 := hBb1.under hb4 hBb1.lt
    have hT4 := hT1.trans (hb4.mono hT1.size)
    clear hxa hxb hA1 hBb1 hA0 hBb0 hT1 hT0 hK0
    have hxa := Has.load_bytes (P := Tryd.prog) Tryd.underlying25 (by kernel_rfl) HL.out.1 hA4
    have hxb := Has.load_bytes (P := Tryd.prog) Tryd.underlying25 (by kernel_rfl) HL.out.2 hBb4
    go_upto_region 8 with (first
      | (refine wpList_load_run rfl 25 (.tmp 3) rfl _ _ rfl hxb ?_)
      | (refine wpList_load_run rfl 25 (.tmp 2) rfl _ _ rfl hxa ?_)
      | (go_at_call 17; refine (rless_any b a HL.out.2 HL.out.1 w4).mono ?_; rw [HD.out.2]; rintro e w5 ⟨rfl, hb5⟩))
    have hA5 := hA4.under hb5 hA4.lt
    have hBb5 := hBb4.under hb5 hBb4.lt
    have hT5 := hT4.trans (hb5.mono hT4.size)
    clear hxa hxb hA4 hBb4 hT4
    have hAd := hA5.draw
    have hBd := hBb5.draw
    have hTd := hT5.drew
    refine wp_region_held_drew (S := Held w5.drew) (by kernel_rfl) (Held.refl _) (fun hHeld => ?_)
    refine take_at (v := .agg (blist a).toArray) 0 14 rfl rfl (by kernel_rfl) (by kernel_rfl) (by kernel_rfl) (fun _ _ _ h => h) hHeld (yieldsIf_load_mid (by rfl) 25 (.tmp 2) rfl W.heap.size 0 (by rfl) (blist a) _ (fun wq hSw => Has.range8 (hAd.under hSw hAd.lt)) Tryd.underlying25 rfl (size_hash HL.out.1)) rfl ?_
    simp only [List.set_cons_zero, List.set_cons_succ]
    refine take_at (v := .agg (blist b).toArray) 1 15 rfl rfl (by kernel_rfl) (by kernel_rfl) (by kernel_rfl) (fun _ _ _ h => h) hHeld (yieldsIf_load_mid (by rfl) 25 (.tmp 3) rfl (W.heap.size + 1) 0 (by rfl) (blist b) _ (fun wq hSw => Has.range8 (hBd.under hSw hBd.lt)) Tryd.underlying25 rfl (size_hash HL.out.2)) rfl ?_
    simp only [List.set_cons_zero, List.set_cons_succ]
    refine take_at (v := ?_) 3 17 rfl rfl (by kernel_rfl) (by kernel_rfl) (by kernel_rfl) (fun _ _ _ h => h) hHeld (Or.inl ⟨by rfl, ?_⟩) rfl ?_
    rotate_left
    · intro wq hSw
      go_simp
      try with_reducible rfl
    simp only [List.set_cons_zero, List.set_cons_succ]
    refine wpAnyH_ready (rs := [2]) (by kernel_rfl) (by simp) ?_
    refine AllReadyH.cons rfl (fun K hK => ?_) AllReadyH.nil
    go_simp
    go_at_call 18; refine (ok.compare a b w5.drew HL.out.1 HL.out.2).mono ?_; rw [HC.out.1]; rintro e w6 ⟨rfl, hB6⟩
    refine hK.out _ _ (Held.of hB6) (fun _ => ?_)
    clear hK K
    try simp only [Act.put, List.setIfInBounds_toArray, List.set_cons_zero, List.set_cons_succ]
    refine held_grow (w1 := w6) (Held.of hB6) ?_
    clear hHeld
    have hHeld : Held w6 w6 := Held.refl _
    replace hAd := hAd.under hB6 hAd.lt
    replace hBd := hBd.under hB6 hBd.lt
    replace hTd := hTd.trans (hB6.mono hTd.size)
    refine take_at (v := .bool true) 4 18 rfl rfl (by kernel_rfl) (by kernel_rfl) (by kernel_rfl) (fun _ _ _ h => h) hHeld (Or.inl ⟨by rfl, ?_⟩) rfl ?_
    · intro wq hSw
      go_simp
      skip
    simp only [List.set_cons_zero, List.set_cons_succ]
    refine take_at (v := ?_) 5 19 rfl rfl (by kernel_rfl) (by kernel_rfl) (by kernel_rfl) (fun _ _ _ h => h) hHeld (Or.inl ⟨by rfl, ?_⟩) rfl ?_
    rotate_left
    · intro wq hSw
      go_simp
      try with_reducible rfl
    simp only [List.set_cons_zero, List.set_cons_succ]
    refine take_at (v := .agg (blist b).toArray) 6 20 rfl rfl (by kernel_rfl) (by kernel_rfl) (by kernel_rfl) (fun _ _ _ h => h) hHeld (yieldsIf_load_mid (by rfl) 25 (.tmp 3) rfl (W.heap.size + 1) 0 (by rfl) (blist b) _ (fun wq hSw => Has.range8 (hBd.under hSw hBd.lt)) Tryd.underlying25 rfl (size_hash HL.out.2)) rfl ?_
    simp only [List.set_cons_zero, List.set_cons_succ]
    refine take_at (v := .agg (blist a).toArray) 7 21 rfl rfl (by kernel_rfl) (by kernel_rfl) (by kernel_rfl) (fun _ _ _ h => h) hHeld (yieldsIf_load_mid (by rfl) 25 (.tmp 2) rfl W.heap.size 0 (by rfl) (blist a) _ (fun wq hSw => Has.range8 (hAd.under hSw hAd.lt)) Tryd.underlying25 rfl (size_hash HL.out.1)) rfl ?_
    simp only [List.set_cons_zero, List.set_cons_succ]
    refine take_at (v := ?_) 9 23 rfl rfl (by kernel_rfl) (by kernel_rfl) (by kernel_rfl) (fun _ _ _ h => h) hHeld (Or.inl ⟨by rfl, ?_⟩) rfl ?_
    rotate_left
    · intro wq hSw
      go_simp
      try with_reducible rfl
    simp only [List.set_cons_zero, List.set_cons_succ]
    refine take_at (v := ?_) 10 24 rfl rfl (by kernel_rfl) (by kernel_rfl) (by kernel_rfl) (fun _ _ _ h => h) hHeld (Or.inl ⟨by rfl, ?_⟩) rfl ?_
    rotate_left
    · intro wq hSw
      go_simp
      try with_reducible rfl
    simp only [List.set_cons_zero, List.set_cons_succ]
    refine wpAnyH_ready (rs := [8]) (by kernel_rfl) (by simp) ?_
    refine AllReadyH.cons rfl (fun K hK => ?_) AllReadyH.nil
    go_simp
    go_at_call 18; refine (ok.compare b a w6 HL.out.2 HL.out.1).mono ?_; rw [HC.out.2]; rintro e w7 ⟨rfl, hB7⟩
    refine hK.out _ _ (Held.of hB7) (fun _ => ?_)
    clear hK K
    try simp only [Act.put, List.setIfInBounds_toArray, List.set_cons_zero, List.set_cons_succ]
    refine held_grow (w1 := w7) (Held.of hB7) ?_
    clear hHeld
    have hHeld : Held w7 w7 := Held.refl _
    replace hAd := hAd.under hB7 hAd.lt
    replace hBd := hBd.under hB7 hBd.lt
    replace hTd := hTd.trans (hB7.mono hTd.size)
    refine take_at (v := .bool true) 11 25 rfl rfl (by kernel_rfl) (by kernel_rfl) (by kernel_rfl) (fun _ _ _ h => h) hHeld (Or.inl ⟨by rfl, ?_⟩) rfl ?_
    · intro wq hSw
      (go_simp; try rfl)
      skip
    simp only [List.set_cons_zero, List.set_cons_succ]
    refine take_at (v := ?_) 12 26 rfl rfl (by kernel_rfl) (by kernel_rfl) (by kernel_rfl) (fun _ _ _ h => h) hHeld (Or.inl ⟨by rfl, ?_⟩) rfl ?_
    rotate_left
    · intro wq hSw
      go_simp
      try with_reducible rfl
    simp only [List.set_cons_zero, List.set_cons_succ]
    refine take_at (v := ?_) 13 27 rfl rfl (by kernel_rfl) (by kernel_rfl) (by kernel_rfl) (fun _ _ _ h => h) hHeld (Or.inl ⟨by rfl, ?_⟩) rfl ?_
    rotate_left
    · intro wq hSw
      go_simp
      try with_reducible rfl
    simp only [List.set_cons_zero, List.set_cons_succ]
    refine take_at (v := .agg (blist a).toArray) 14 28 rfl rfl (by kernel_rfl) (by kernel_rfl) (by kernel_rfl) (fun _ _ _ h => h) hHeld (yieldsIf_load_mid (by rfl) 25 (.tmp 2) rfl W.heap.size 0 (by rfl) (blist a) _ (fun wq hSw => Has.range8 (hAd.under hSw hAd.lt)) Tryd.underlying25 rfl (size_hash HL.out.1)) rfl ?_
    simp only [List.set_cons_zero, List.set_cons_succ]
    refine take_at (v := .agg (blist a).toArray) 16 30 rfl rfl (by kernel_rfl) (by kernel_rfl) (by kernel_rfl) (fun _ _ _ h => h) hHeld (yieldsIf_load_mid (by rfl) 25 (.tmp 2) rfl W.heap.size 0 (by rfl) (blist a) _ (fun wq hSw => Has.range8 (hAd.under hSw hAd.lt)) Tryd.underlying25 rfl (size_hash HL.out.1)) rfl ?_
    simp only [List.set_cons_zero, List.set_cons_succ]
    refine wpAnyH_ready (rs := [15]) (by kernel_rfl) (by simp) ?_
    refine AllReadyH.cons rfl (fun K hK => ?_) AllReadyH.nil
    go_simp
    go_at_call 13; refine (ok.word a w7 HL.out.1).mono ?_; rintro e w8 ⟨rfl, hB8⟩
    refine hK.out _ _ (Held.of hB8) (fun _ => ?_)
    clear hK K
    try simp only [Act.put, List.setIfInBounds_toArray, List.set_cons_zero, List.set_cons_succ]
    refine held_grow (w1 := w8) (Held.of hB8) ?_
    clear hHeld
    have hHeld : Held w8 w8 := Held.refl _
    replace hAd := hAd.under hB8 hAd.lt
    replace hBd := hBd.under hB8 hBd.lt
    replace hTd := hTd.trans (hB8.mono hTd.size)
    refine wpAnyH_ready (rs := [17]) (by kernel_rfl) (by simp) ?_
    refine AllReadyH.cons rfl (fun K hK => ?_) AllReadyH.nil
    go_simp
    go_at_call 14; refine (rword_any a HL.out.1 w8).mono ?_; rintro e w9 ⟨rfl, hB9⟩
    refine hK.out _ _ (Held.of hB9) (fun _ => ?_)
    clear hK K
    try simp only [Act.put, List.setIfInBounds_toArray, List.set_cons_zero, List.set_cons_succ]
    refine held_grow (w1 := w9) (Held.of hB9) ?_
    clear hHeld
    have hHeld : Held w9 w9 := Held.refl _
    replace hAd := hAd.under hB9 hAd.lt
    replace hBd := hBd.under hB9 hBd.lt
    replace hTd := hTd.trans (hB9.mono hTd.size)
    refine take_at (v := .bool true) 18 32 rfl rfl (by kernel_rfl) (by kernel_rfl) (by kernel_rfl) (fun _ _ _ h => h) hHeld (Or.inl ⟨by rfl, ?_⟩) rfl ?_
    · intro wq hSw
      go_simp
      skip
    simp only [List.set_cons_zero, List.set_cons_succ]
    refine take_at (v := ?_) 19 33 rfl rfl (by kernel_rfl) (by kernel_rfl) (by kernel_rfl) (fun _ _ _ h => h) hHeld (Or.inl ⟨by rfl, ?_⟩) rfl ?_
    rotate_left
    · intro wq hSw
      go_simp
      try with_reducible rfl
    simp only [List.set_cons_zero, List.set_cons_succ]
    refine take_at (v := ?_) 20 4 rfl rfl (by kernel_rfl) (by kernel_rfl) (by kernel_rfl) (fun _ _ _ h => h) hHeld (Or.inl ⟨by rfl, ?_⟩) rfl ?_
    rotate_left
    · intro wq hSw
      go_simp
      try with_reducible rfl
    simp only [List.set_cons_zero, List.set_cons_succ]
    refine wpAnyH_done (by kernel_rfl) ?_ _
    go_wp2_with fail
    go_ret
    exact ⟨rfl, hTd⟩
end Go.Proofs.YtopeicgcpfcccaaDoor
