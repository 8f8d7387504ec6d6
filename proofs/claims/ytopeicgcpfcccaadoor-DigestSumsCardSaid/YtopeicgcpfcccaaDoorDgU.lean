/- DigestSums over the premise -/
import Derived.Test.YtopeicgcpfcccaaDoorDgK
import Derived.Test.YtopeicgcpfcccaaDoorDgT
import Derived.Test.YtopeicgcpfcccaaDoorEq
namespace Go.Proofs.YtopeicgcpfcccaaDoor
open Go Go.RowKit Go.ChangeShapes Go.WideShapes
set_option maxRecDepth 100000 in
set_option maxHeartbeats 16000000 in
theorem digestSumsWalkK {KD : World → Prop} (ok : DigestOk KD) {H : Type} {enc : TypeId × Value → H} (W : World) (base : Nat) (v0 : Value) (d0 : DataW H) (p0 : List MemPlace)
    (o0 : Value.okWide Tryd.prog W .any base 22 v0) (h0 : DataW.Trod enc Tryd.prog W 0 (fun _ => true) true 22 v0 d0 p0) (hK : KD W) (hT : Tab32 W 1 Dg.kL) :
    Calls Tryd.prog 3 #[v0] W fun e w' => e = .returned (.bool true) ∧ Below W.heap.size W w' := by
  obtain ⟨ad, n, cp, l, rfl, hw, hnc, hc0⟩ := arg_bytes Tryd.underlying22 Tryd.underlying5 (by kernel_rfl) o0 h0
  clear o0 h0
  have hmx : n ≤ 9223372036854775807 := hw.2.1
  have HL := Lib.hid hw.1
  by_cases g1 : (1000 : Int) < (n : Int)
  · go_enter Tryd.func3, Tryd.ntmps3
    go_wp2_with (first | (go_at_call 8; refine (alive07 ok W hK).mono ?_; rintro e w1 ⟨rfl, hb1⟩))
    go_ret
    exact ⟨rfl, hb1⟩
  · have hn : n ≤ 1000 := by omega
    go_enter Tryd.func3, Tryd.ntmps3
    go_upto_region 5 with (first | (go_at_call 8; refine (alive07 ok W hK).mono ?_; rintro e w1 ⟨rfl, hb1⟩))
    have hw1 := hw.below hb1
    go_upto_region 6 with (first
      | (at_builtin; have hoE : OwnB 5 w1.heap.size (w1.alloc (.cells #[] 5)) (.slice (some ⟨w1.heap.size, 0, none⟩) 0 0) [] := OwnB.empty (Nat.le_refl _) (Has.fresh w1 _ _); refine wpList_append_bytes rfl (.tmp 10) (.tmp 11) 22 rfl 5 Tryd.underlying22 info_byte w1.heap.size _ [] rfl hoE ad n cp l rfl (hw1.past _) hc0 (by simp; omega) (by simp) ?_; intro va w2 ho2 hg2; rw [List.nil_append] at ho2; have hB2 := below_own_rowb ((Below.refl w1.heap.size w1).alloc (Nat.le_refl _) _) hg2 hoE.lt; have hT2 := hb1.trans (hB2.mono hb1.size); obtain ⟨oa, oc, rfl, hoc, ho0, how⟩ := ho2.shape HL.out))
    clear hoE hg2 hB2 hw1
    obtain ⟨S, hS⟩ : ∃ x, x = Dg.sum l := ⟨_, rfl⟩
    have HS := Lib.hid (And.intro hS (show S.length = 32 by rw [hS]; exact Dg.sum_len _))
    obtain ⟨DD, hDD⟩ : ∃ x, x = Dg.double l := ⟨_, rfl⟩
    have HDD := Lib.hid (And.intro hDD (show DD.length = 32 by rw [hDD]; exact Dg.double_len _))
    have hP := parts_one 22 how hoc ho0
    have hB3 := hT2.alloc hT2.size (.cells #[.slice oa n oc] 22)
    have hC := ok.sum _ 1 1 [l] _ (ok.stay hK hB3) hP (Nat.le_refl _) (fun e => by cases e) (by omega) (by have := HL.out; simp; omega)
    rw [show [l].flatten = l by simp, ← hS] at hC
    have HC := Lib.hid hC
    clear hC hS hDD hP
    have hT3 := hB3
    clear hB3
    go_upto_region 7 with (first
      | (refine wpList_store_mid rfl 25 (.tmp 4) (.tmp 15) rfl w4.heap.size 0 (blist S).toArray rfl rfl (there_new w4 25 HS.out.2) (size_hash' HS.out.2) (one_hash S) ?_)
      | (go_at_call 9; refine HC.out.mono ?_; rintro e w4 ⟨rfl, hb4⟩))
    obtain ⟨w5, hw5⟩ : ∃ x, x = (w4.alloc (.cells z32 25)).setCells w4.heap.size 0 (blist S) := ⟨_, rfl⟩
    rw [← hw5]
    obtain ⟨hD5, hB5⟩ := hash_new HS.out.2 hw5
    have hT4 := hT3.trans (hb4.mono hT3.size)
    have hT5 := hT4.trans (hB5.mono hT4.size)
    have ho5 := ((how.past (.cells #[.slice oa n oc] 22)).below hb4).below hB5
    clear hw5 hT3 hT4 how hT2
    refine wp_region_held_drew (S := Held w5.drew) (by kernel_rfl) (Held.refl _) (fun hHeld => ?_)
    obtain ⟨wd, hwd⟩ : ∃ x, x = w5.drew := ⟨_, rfl⟩
    rw [← hwd] at hHeld ⊢
    have hDd : Has wd w4.heap.size 25 (blist S).toArray := by rw [hwd]; exact hD5.draw
    have hTd : Below W.heap.size W wd := by rw [hwd]; exact hT5.drew
    have hod : Bytes8 wd oa n l := by rw [hwd]; exact ho5.draw
    clear hwd
    have hCwd : Below wd.heap.size wd wd := Below.refl _ _
    refine take_at (v := .agg (blist S).toArray) 0 16 rfl rfl (by kernel_rfl) (by kernel_rfl) (by kernel_rfl) (fun _ _ _ h => h) hHeld (yieldsIf_load_mid (by rfl) 25 (.tmp 4) rfl w4.heap.size 0 (by rfl) (blist S) _ (fun wq hSw => Has.range8 (hDd.under hSw hDd.lt)) Tryd.underlying25 rfl (size_hash HS.out.2)) rfl ?_
    simp only [List.set_cons_zero, List.set_cons_succ]
    refine take_at (v := ?_) 1 17 rfl rfl (by kernel_rfl) (by kernel_rfl) (by kernel_rfl) (fun _ _ _ h => h) hHeld (Or.inl ⟨by rfl, ?_⟩) rfl ?_
    rotate_left
    · intro wq hSw
      go_simp
      try with_reducible rfl
    simp only [List.set_cons_zero, List.set_cons_succ]
    refine wpAnyH_ready (rs := [2]) (by kernel_rfl) (by simp) ?_
    refine AllReadyH.cons rfl (fun K hK => ?_) AllReadyH.nil
    go_simp
    go_at_call 10; refine (rsum_any ad n cp l wd (hw.below hTd) (by omega) hc0 (hT.below hTd)).mono ?_; rw [← HS.out.1]; rintro e w6 ⟨rfl, hb6⟩; have hCw6 := hCwd.trans (hb6.mono hCwd.size)
    refine hK.out _ _ (Held.of hCw6) (fun _ => ?_)
    clear hK K
    try simp only [Act.put, List.setIfInBounds_toArray, List.set_cons_zero, List.set_cons_succ]
    replace hHeld := Held.of hCw6
    refine take_at 3 19 rfl rfl (by kernel_rfl) (by kernel_rfl) (by kernel_rfl) (fun _ _ _ h => h) hHeld (yieldsIf_eql_same (by rfl) 25 5 25 32 (.tmp 16) (.tmp 18) rfl S (by rfl) (by rfl) (by kernel_rfl) Tryd.underlying25 Tryd.underlying5 (by kernel_rfl) HS.out.2) rfl ?_
    simp only [List.set_cons_zero, List.set_cons_succ]
    refine take_at (v := ?_) 4 20 rfl rfl (by kernel_rfl) (by kernel_rfl) (by kernel_rfl) (fun _ _ _ h => h) hHeld (Or.inl ⟨by rfl, ?_⟩) rfl ?_
    rotate_left
    · intro wq hSw
      go_simp
      try with_reducible rfl
    simp only [List.set_cons_zero, List.set_cons_succ]
    refine take_at (v := ?_) 5 21 rfl rfl (by kernel_rfl) (by kernel_rfl) (by kernel_rfl) (fun _ _ _ h => h) hHeld (Or.inl ⟨by rfl, ?_⟩) rfl ?_
    rotate_left
    · intro wq hSw
      go_simp
      try with_reducible rfl
    simp only [List.set_cons_zero, List.set_cons_succ]
    refine take_at (v := ?_) 8 24 rfl rfl (by kernel_rfl) (by kernel_rfl) (by kernel_rfl) (fun _ _ _ h => h) hHeld (Or.inl ⟨by rfl, ?_⟩) rfl ?_
    rotate_left
    · intro wq hSw
      go_simp
      try with_reducible rfl
    simp only [List.set_cons_zero, List.set_cons_succ]
    refine wpAnyH_ready (rs := [6]) (by kernel_rfl) (by simp) ?_
    refine AllReadyH.cons rfl (fun K hK => ?_) AllReadyH.nil
    go_simp
    skip
    refine hK.out _ _ (Held.of (hCw6.alloc hCw6.size (.cells #[.slice oa n oc] 22))) (fun _ => ?_)
    clear hK K
    try simp only [Act.put, List.setIfInBounds_toArray, List.set_cons_zero, List.set_cons_succ]
    replace hHeld := Held.of (hCw6.alloc hCw6.size (.cells #[.slice oa n oc] 22))
    have hP7 := parts_one 22 (hod.below hCw6) hoc ho0
    have hB7 := (hTd.trans (hCw6.mono hTd.size)).alloc (hTd.trans (hCw6.mono hTd.size)).size (.cells #[.slice oa n oc] 22)
    have hC7 := ok.double _ 1 1 [l] _ (ok.stay hK hB7) hP7 (Nat.le_refl _) (fun e => by cases e) (by omega) (by have := HL.out; simp; omega)
    rw [show [l].flatten = l by simp, ← HDD.out.1] at hC7
    have hCw6a := hCw6.alloc hCw6.size (.cells #[.slice oa n oc] 22)
    refine wpAnyH_ready (rs := [7]) (by kernel_rfl) (by simp) ?_
    refine AllReadyH.cons rfl (fun K hK => ?_) AllReadyH.nil
    go_simp
    go_at_call 11; refine hC7.mono ?_; rintro e w7 ⟨rfl, hb7⟩; have hCw7 := hCw6a.trans (hb7.mono hCw6a.size)
    refine hK.out _ _ (Held.of hCw7) (fun _ => ?_)
    clear hK K
    try simp only [Act.put, List.setIfInBounds_toArray, List.set_cons_zero, List.set_cons_succ]
    replace hHeld := Held.of hCw7
    refine wpAnyH_ready (rs := [9]) (by kernel_rfl) (by simp) ?_
    refine AllReadyH.cons rfl (fun K hK => ?_) AllReadyH.nil
    go_simp
    go_at_call 12; refine (rdouble_any ad n cp l w7 (hw.below (hTd.trans (hCw7.mono hTd.size))) (by omega) hc0 (hT.below (hTd.trans (hCw7.mono hTd.size)))).mono ?_; rw [← HDD.out.1]; rintro e w8 ⟨rfl, hb8⟩; have hCw8 := hCw7.trans (hb8.mono hCw7.size)
    refine hK.out _ _ (Held.of hCw8) (fun _ => ?_)
    clear hK K
    try simp only [Act.put, List.setIfInBounds_toArray, List.set_cons_zero, List.set_cons_succ]
    replace hHeld := Held.of hCw8
    refine take_at 10 26 rfl rfl (by kernel_rfl) (by kernel_rfl) (by kernel_rfl) (fun _ _ _ h => h) hHeld (yieldsIf_eql_same (by rfl) 25 5 25 32 (.tmp 23) (.tmp 25) rfl DD (by rfl) (by rfl) (by kernel_rfl) Tryd.underlying25 Tryd.underlying5 (by kernel_rfl) HDD.out.2) rfl ?_
    simp only [List.set_cons_zero, List.set_cons_succ]
    refine take_at (v := ?_) 11 27 rfl rfl (by kernel_rfl) (by kernel_rfl) (by kernel_rfl) (fun _ _ _ h => h) hHeld (Or.inl ⟨by rfl, ?_⟩) rfl ?_
    rotate_left
    · intro wq hSw
      go_simp
      try with_reducible rfl
    simp only [List.set_cons_zero, List.set_cons_succ]
    refine take_at (v := ?_) 12 28 rfl rfl (by kernel_rfl) (by kernel_rfl) (by kernel_rfl) (fun _ _ _ h => h) hHeld (Or.inl ⟨by rfl, ?_⟩) rfl ?_
    rotate_left
    · intro wq hSw
      go_simp
      try with_reducible rfl
    simp only [List.set_cons_zero, List.set_cons_succ]
    refine take_at (v := .agg (blist S).toArray) 13 29 rfl rfl (by kernel_rfl) (by kernel_rfl) (by kernel_rfl) (fun _ _ _ h => h) hHeld (yieldsIf_load_mid (by rfl) 25 (.tmp 4) rfl w4.heap.size 0 (by rfl) (blist S) _ (fun wq hSw => Has.range8 (hDd.under hSw hDd.lt)) Tryd.underlying25 rfl (size_hash HS.out.2)) rfl ?_
    simp only [List.set_cons_zero, List.set_cons_succ]
    refine take_at (v := .agg (blist S).toArray) 15 31 rfl rfl (by kernel_rfl) (by kernel_rfl) (by kernel_rfl) (fun _ _ _ h => h) hHeld (yieldsIf_load_mid (by rfl) 25 (.tmp 4) rfl w4.heap.size 0 (by rfl) (blist S) _ (fun wq hSw => Has.range8 (hDd.under hSw hDd.lt)) Tryd.underlying25 rfl (size_hash HS.out.2)) rfl ?_
    simp only [List.set_cons_zero, List.set_cons_succ]
    refine wpAnyH_ready (rs := [14]) (by kernel_rfl) (by simp) ?_
    refine AllReadyH.cons rfl (fun K hK => ?_) AllReadyH.nil
    go_simp
    go_at_call 13; refine (ok.word S w8 HS.out.2).mono ?_; rintro e w9 ⟨rfl, hb9⟩; have hCw9 := hCw8.trans (hb9.mono hCw8.size)
    refine hK.out _ _ (Held.of hCw9) (fun _ => ?_)
    clear hK K
    try simp only [Act.put, List.setIfInBounds_toArray, List.set_cons_zero, List.set_cons_succ]
    replace hHeld := Held.of hCw9
    refine wpAnyH_ready (rs := [16]) (by kernel_rfl) (by simp) ?_
    refine AllReadyH.cons rfl (fun K hK => ?_) AllReadyH.nil
    go_simp
    go_at_call 14; refine (rword_any S HS.out.2 w9).mono ?_; rintro e w10 ⟨rfl, hb10⟩; have hCw10 := hCw9.trans (hb10.mono hCw9.size)
    refine hK.out _ _ (Held.of hCw10) (fun _ => ?_)
    clear hK K
    try simp only [Act.put, List.setIfInBounds_toArray, List.set_cons_zero, List.set_cons_succ]
    replace hHeld := Held.of hCw10
    refine take_at (v := .bool true) 17 33 rfl rfl (by kernel_rfl) (by kernel_rfl) (by kernel_rfl) (fun _ _ _ h => h) hHeld (Or.inl ⟨by rfl, ?_⟩) rfl ?_
    · intro wq hSw
      go_simp
      skip
    simp only [List.set_cons_zero, List.set_cons_succ]
    refine take_at (v := ?_) 18 34 rfl rfl (by kernel_rfl) (by kernel_rfl) (by kernel_rfl) (fun _ _ _ h => h) hHeld (Or.inl ⟨by rfl, ?_⟩) rfl ?_
    rotate_left
    · intro wq hSw
      go_simp
      try with_reducible rfl
    simp only [List.set_cons_zero, List.set_cons_succ]
    refine take_at (v := ?_) 19 35 rfl rfl (by kernel_rfl) (by kernel_rfl) (by kernel_rfl) (fun _ _ _ h => h) hHeld (Or.inl ⟨by rfl, ?_⟩) rfl ?_
    rotate_left
    · intro wq hSw
      go_simp
      try with_reducible rfl
    simp only [List.set_cons_zero, List.set_cons_succ]
    refine take_at (v := ?_) 20 36 rfl rfl (by kernel_rfl) (by kernel_rfl) (by kernel_rfl) (fun _ _ _ h => h) hHeld (Or.inl ⟨by rfl, ?_⟩) rfl ?_
    rotate_left
    · intro wq hSw
      go_simp
      try with_reducible rfl
    simp only [List.set_cons_zero, List.set_cons_succ]
    refine take_at (v := ?_) 21 37 rfl rfl (by kernel_rfl) (by kernel_rfl) (by kernel_rfl) (fun _ _ _ h => h) hHeld (Or.inl ⟨by rfl, ?_⟩) rfl ?_
    rotate_left
    · intro wq hSw
      have hst := run_string (P := Tryd.prog) 22 9 5 Tryd.underlying22 Tryd.underlying5 Tryd.underlying9 (c := oc) (hod.below hSw)
      go_simp
      try with_reducible rfl
    simp only [List.set_cons_zero, List.set_cons_succ]
    refine take_at (v := ?_) 22 38 rfl rfl (by kernel_rfl) (by kernel_rfl) (by kernel_rfl) (fun _ _ _ h => h) hHeld (Or.inl ⟨by rfl, ?_⟩) rfl ?_
    rotate_left
    · intro wq hSw
      go_simp
      try with_reducible rfl
    simp only [List.set_cons_zero, List.set_cons_succ]
    refine take_at (v := ?_) 23 39 rfl rfl (by kernel_rfl) (by kernel_rfl) (by kernel_rfl) (fun _ _ _ h => h) hHeld (Or.inl ⟨by rfl, ?_⟩) rfl ?_
    rotate_left
    · intro wq hSw
      have hst := run_string (P := Tryd.prog) 22 9 5 Tryd.underlying22 Tryd.underlying5 Tryd.underlying9 (c := cp) ((hw.below hTd).below hSw)
      go_simp
      try with_reducible rfl
    simp only [List.set_cons_zero, List.set_cons_succ]
    refine take_at (v := .bool true) 24 40 rfl rfl (by kernel_rfl) (by kernel_rfl) (by kernel_rfl) (fun _ _ _ h => h) hHeld (Or.inl ⟨by rfl, ?_⟩) rfl ?_
    · intro wq hSw
      go_simp
      skip
    simp only [List.set_cons_zero, List.set_cons_succ]
    refine take_at (v := ?_) 25 41 rfl rfl (by kernel_rfl) (by kernel_rfl) (by kernel_rfl) (fun _ _ _ h => h) hHeld (Or.inl ⟨by rfl, ?_⟩) rfl ?_
    rotate_left
    · intro wq hSw
      go_simp
      try with_reducible rfl
    simp only [List.set_cons_zero, List.set_cons_succ]
    refine take_at (v := ?_) 26 2 rfl rfl (by kernel_rfl) (by kernel_rfl) (by kernel_rfl) (fun _ _ _ h => h) hHeld (Or.inl ⟨by rfl, ?_⟩) rfl ?_
    rotate_left
    · intro wq hSw
      go_simp
      try with_reducible rfl
    simp only [List.set_cons_zero, List.set_cons_succ]
    refine wpAnyH_done (by kernel_rfl) ?_ _
    go_wp2_with fail
    go_ret
    exact ⟨rfl, hTd.trans (hCw10.mono hTd.size)⟩
end Go.Proofs.YtopeicgcpfcccaaDoor
