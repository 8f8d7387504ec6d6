/- SketchPuts: the long way, case B -/
import Derived.Test.YtamigcbodplmcaaSkU
import Derived.Test.YtamigcbodplmcaaHe
namespace Go.Proofs.Ytamigcbodplmcaa
open Go Go.RowKit Go.ChangeShapes Go.WideShapes
set_option maxRecDepth 100000 in
set_option maxHeartbeats 16000000 in
theorem putsB (W : World) (cap : Nat) (a1 : Option Addr) (n1 c1 : Nat) (l1 : List (BitVec 32)) (hw1 : Words32 W a1 n1 l1) (ha1 : a1 = none → c1 = 0) (a2 : Option Addr) (n2 c2 : Nat) (l2 : List (BitVec 32)) (hw2 : Words32 W a2 n2 l2) (ha2 : a2 = none → c2 = 0)
    (hn1 : n1 ≤ 20) (hn2 : n2 ≤ 20) (hcap1 : 1 ≤ cap) (hcap40 : cap ≤ 40) (hm1 : ¬ (0 : BitVec 32) ∈ l1) (hm2 : ¬ (0 : BitVec 32) ∈ l2) :
    Calls Try.prog 6 #[.int .i64 (cap : Int), .slice a1 n1 c1, .slice a2 n2 c2] W fun e w' => e = .returned (.bool true) ∧ Below W.heap.size W w' := by
  have HR := Lib.hid (And.intro hw1.1 hw2.1)
  have HM1 := Lib.hid hm1
  have HM2 := Lib.hid hm2
  clear hm1 hm2
  have g1 : ¬ (20 : Int) < (n1 : Int) := by omega
  have g2 : ¬ (20 : Int) < (n2 : Int) := by omega
  have g3 : ¬ (cap : Int) < 1 := by omega
  have g4 : ¬ (40 : Int) < (cap : Int) := by omega
  go_enter Try.func6, Try.ntmps6
  go_upto_region 17 with (first
          | (go_at_call 16; refine (none5_any a2 n2 c2 l2 w6 (hw2.below hT6) false ⟨fun e => (Bool.false_ne_true e).elim, fun e => (HM2.out e).elim⟩).mono ?_; rintro e wi ⟨rfl, rfl⟩)
          | (at_builtin; refine wpList_append_words rfl (.tmp 59) (.tmp 60) 22 rfl 54 Try.underlying22 info_word w4.heap.size _ l1 rfl ho5 a2 n2 c2 l2 rfl (hw2.below hT5) ha2 (by have := HR.out; omega) hL5.size ?_; intro vb w6 ho6 hg6; have hL6 := below_own_row hL5 hg6 ho5.lt; have hT6 := hT4.trans (hL6.mono hT4.size))
          | (at_builtin; have hoE : OwnW 54 w4.heap.size (w4.alloc (.cells #[] 54)) (.slice (some ⟨w4.heap.size, 0, none⟩) 0 0) [] := OwnW.empty (Nat.le_refl _) (Has.fresh w4 _ _); refine wpList_append_words rfl (.tmp 57) (.tmp 58) 22 rfl 54 Try.underlying22 info_word w4.heap.size _ [] rfl hoE a1 n1 c1 l1 rfl ((hw1.below hT4).past _) ha1 (by have := HR.out; simp; omega) (by simp) ?_; intro va w5 ho5 hg5; rw [List.nil_append] at ho5; have hL5 := below_own_row ((Below.refl w4.heap.size w4).alloc (Nat.le_refl _) _) hg5 hoE.lt; have hT5 := hT4.trans (hL5.mono hT4.size))
          | (go_at_call 25; refine (put_ok w2.heap.size g' ga' cap c' _ a2 n2 c2 l2 w3 hk3 (hw2.below hT3) (fun h0 x e => by have := hw2.block_lt h0 e; have := hk3.ge; have := hT2.size; omega) HM2.out).mono ?_; rintro e w4 ⟨rfl, hc4, hg4⟩; have hB4 : Below w2.heap.size w3 w4 := (Below.refl w2.heap.size w3).grown hg4 hb3.size (fun k e => by injection e with e; have := hk3.ge; omega); have hT4 := hT3.trans (hB4.mono hT2.size); have hs4 := hs2.below (hb3.trans hB4))
          | (go_at_call 24; refine (scopy_any _ g ga cap c _ w2 hs2).mono ?_; rintro e w3 ⟨⟨g', ga', c', rfl, hk3⟩, hb3⟩; have hs3 := hs2.below hb3; have hT3 := hT2.trans (hb3.mono hT2.size))
          | (go_at_call 8; refine (new_ok cap hcap1 hcap40 a1 n1 c1 l1 w1 (hw1.below hb1) HM1.out).mono ?_; rintro e w2 ⟨⟨g, ga, c, rfl, hs2⟩, hb2⟩; have hT2 := hb1.trans (hb2.mono hb1.size))
          | (go_at_call 16; refine (none5_any a1 n1 c1 l1 w1 (hw1.below hb1) false ⟨fun e => (Bool.false_ne_true e).elim, fun e => (HM1.out e).elim⟩).mono ?_; rintro e wi ⟨rfl, rfl⟩)
          | (go_at_call 7; refine (alive05 W).mono ?_; rintro e w1 ⟨rfl, hb1⟩))
  have hs6 := hs4.below hL6
  have hc6 : SkA w2.heap.size w6 g' ga' cap c' (Sk.syn cap (l1 ++ l2)) := by have := hc4.below hL6; rwa [Sk.addAll_more] at this
  obtain ⟨q, hq⟩ : ∃ q, (l1 ++ l2).length = q := ⟨_, rfl⟩
  obtain ⟨aq, cq, rfl, hcq, hq0, hq6⟩ := own_shape00 ho6 hq
  have hne6 : 0 < q → ∀ x, aq = some x → x.block ≠ ga' := fun h0 x e => by have h8 := ho6.lt x.block (by rw [e]; rfl); have := hc4.lt; omega
  have hll : ¬ (0 : BitVec 32) ∈ l1 ++ l2 := fun h => by
    rcases List.mem_append.1 h with h | h
    · exact HM1.out h
    · exact HM2.out h
  have hnn : q ≤ 40 := by rw [List.length_append] at hq; have := HR.out; omega
  have hz : ∀ x, x ∈ Sk.addAll (Sk.syn cap (l1 ++ l2)) (l1 ++ l2) → x = 0 := Sk.addAll_twice cap (l1 ++ l2)
  have hlS : (bytes8 (Sk.syn cap l1)).length = 4 * cap := by rw [bytes8_length]; unfold Sk.syn; rw [Po.mk_length]
  have hlC : (bytes8 (Sk.syn cap (l1 ++ l2))).length = 4 * cap := by rw [bytes8_length]; unfold Sk.syn; rw [Po.mk_length]
  have hlT : (Sk.syn cap l1).length = cap := by unfold Sk.syn; rw [Po.mk_length]
  have hlU : (Sk.syn cap (l1 ++ l2)).length = cap := by unfold Sk.syn; rw [Po.mk_length]
  obtain ⟨m4, hm4⟩ : ∃ m4, m4 = 4 * cap := ⟨_, rfl⟩
  rw [← hm4] at hlS hlC
  have HZ := Lib.hid (And.intro hz (And.intro hlS (And.intro hlC (And.intro hlT hlU))))
  clear hz hlS hlC hlT hlU hm4 hq
  have hT6d : Below W.heap.size W w6.drew := hT6.drew
  have HH := Lib.hid hll
  clear hll
  go_cut [100] from 70 (fun v wx => v = .bool false ∧ Below W.heap.size W wx)
  case first =>
    have hga : ga' < w6.heap.size := hc6.lt
    refine wp_region_held_drew (S := HeldX ga' w6.drew) (by kernel_rfl) (HeldX.refl _ _) (fun hHeld => ?_)
    refine take_at (v := ?_) 0 70 rfl rfl (by kernel_rfl) (by kernel_rfl) (by kernel_rfl) (fun _ _ _ h => h) hHeld (Or.inl ⟨by rfl, ?_⟩) rfl ?_
    rotate_left
    · intro wq hSw
      go_simp
      try with_reducible rfl
    simp only [List.set_cons_zero, List.set_cons_succ]
    refine take_at (v := ?_) 3 73 rfl rfl (by kernel_rfl) (by kernel_rfl) (by kernel_rfl) (fun _ _ _ h => h) hHeld (Or.inl ⟨by rfl, ?_⟩) rfl ?_
    rotate_left
    · intro wq hSw
      go_simp
      try with_reducible rfl
    simp only [List.set_cons_zero, List.set_cons_succ]
    refine take_at (v := ?_) 4 74 rfl rfl (by kernel_rfl) (by kernel_rfl) (by kernel_rfl) (fun _ _ _ h => h) hHeld (Or.inl ⟨by rfl, ?_⟩) rfl ?_
    rotate_left
    · intro wq hSw
      go_simp
      try with_reducible rfl
    simp only [List.set_cons_zero, List.set_cons_succ]
    refine wpAnyH_ready (rs := [1]) (by kernel_rfl) (by simp) ?_
    refine AllReadyH.cons rfl (fun K hK => ?_) AllReadyH.nil
    go_simp
    go_at_call 14; refine (sbytes_any _ g ga cap c _ w6.drew hs6.draw).mono ?_; rintro e w7 ⟨⟨b1, rfl, hb1'⟩, hB7⟩; obtain ⟨x1, y1, rfl, _, _, hx1⟩ := hb1'.shape HZ.out.2.1; have hz7 : w6.heap.size ≤ w7.heap.size := hB7.size; have hkx1 : 0 < m4 → ∀ x, x1 = some x → x.block ≠ ga' := fun _ x e => by have h8 : w6.heap.size ≤ x.block := hb1'.lt x.block (by rw [e]; rfl); omega
    refine hK.out _ _ (HeldX.of hB7) (fun _ => ?_)
    clear hK K
    try simp only [Act.put, List.setIfInBounds_toArray, List.set_cons_zero, List.set_cons_succ]
    refine heldx_grow (w1 := w7) (HeldX.of hB7) ?_
    clear hHeld
    have hHeld : HeldX ga' w7 w7 := HeldX.refl _ _
    refine take_at (v := ?_) 2 72 rfl rfl (by kernel_rfl) (by kernel_rfl) (by kernel_rfl) (fun _ _ _ h => h) hHeld (Or.inl ⟨by rfl, ?_⟩) rfl ?_
    rotate_left
    · intro wq hSw
      have hst := run_string (P := Try.prog) 23 9 5 Try.underlying23 Try.underlying5 Try.underlying9 (c := y1) (HeldX.bytes hSw hx1 hkx1)
      go_simp
      try with_reducible rfl
    simp only [List.set_cons_zero, List.set_cons_succ]
    refine wpAnyH_ready (rs := [5]) (by kernel_rfl) (by simp) ?_
    refine AllReadyH.cons rfl (fun K hK => ?_) AllReadyH.nil
    go_simp
    go_at_call 17; refine (rof_any cap n1 c1 a1 l1 w7 ((hw1.below hT6d).below hB7) (by omega)).mono ?_; rintro e w8 ⟨⟨v2, rfl, hv2⟩, hB8⟩; obtain ⟨ra2, rc2, rfl, _, _, hr2'⟩ := fresh_shapeK hv2.fresh HZ.out.2.2.2.1; have hD8 := hB7.trans (hB8.mono hB7.size); have hz8 : w6.heap.size ≤ w8.heap.size := hD8.size
    refine hK.out _ _ (HeldX.of hB8) (fun _ => ?_)
    clear hK K
    try simp only [Act.put, List.setIfInBounds_toArray, List.set_cons_zero, List.set_cons_succ]
    refine heldx_grow (w1 := w8) (HeldX.of hB8) ?_
    clear hHeld
    have hHeld : HeldX ga' w8 w8 := HeldX.refl _ _
    refine wpAnyH_ready (rs := [6]) (by kernel_rfl) (by simp) ?_
    refine AllReadyH.cons rfl (fun K hK => ?_) AllReadyH.nil
    go_simp
    go_at_call 18; refine (rbytes5_any ra2 cap rc2 (Sk.syn cap l1) w8 hr2' (by omega)).mono ?_; rintro e w9 ⟨⟨b3, rfl, hb3'⟩, hB9⟩; obtain ⟨x3, y3, rfl, _, _, hx3⟩ := hb3'.shape HZ.out.2.1; have hD9 := hD8.trans (hB9.mono hD8.size); have hz9 : w6.heap.size ≤ w9.heap.size := hD9.size; have hkx3 : 0 < m4 → ∀ x, x3 = some x → x.block ≠ ga' := fun _ x e => by have h8 : w8.heap.size ≤ x.block := hb3'.lt x.block (by rw [e]; rfl); omega
    refine hK.out _ _ (HeldX.of hB9) (fun _ => ?_)
    clear hK K
    try simp only [Act.put, List.setIfInBounds_toArray, List.set_cons_zero, List.set_cons_succ]
    refine heldx_grow (w1 := w9) (HeldX.of hB9) ?_
    clear hHeld
    have hHeld : HeldX ga' w9 w9 := HeldX.refl _ _
    refine take_at (v := ?_) 7 77 rfl rfl (by kernel_rfl) (by kernel_rfl) (by kernel_rfl) (fun _ _ _ h => h) hHeld (Or.inl ⟨by rfl, ?_⟩) rfl ?_
    rotate_left
    · intro wq hSw
      have hst := run_string (P := Try.prog) 23 9 5 Try.underlying23 Try.underlying5 Try.underlying9 (c := y3) (HeldX.bytes hSw hx3 hkx3)
      go_simp
      try with_reducible rfl
    simp only [List.set_cons_zero, List.set_cons_succ]
    refine take_at (v := ?_) 8 78 rfl rfl (by kernel_rfl) (by kernel_rfl) (by kernel_rfl) (fun _ _ _ h => h) hHeld (Or.inl ⟨by rfl, ?_⟩) rfl ?_
    rotate_left
    · intro wq hSw
      go_simp
      try with_reducible rfl
    simp only [List.set_cons_zero, List.set_cons_succ]
    refine take_at (v := ?_) 9 79 rfl rfl (by kernel_rfl) (by kernel_rfl) (by kernel_rfl) (fun _ _ _ h => h) hHeld (Or.inl ⟨by rfl, ?_⟩) rfl ?_
    rotate_left
    · intro wq hSw
      go_simp
      try with_reducible rfl
    simp only [List.set_cons_zero, List.set_cons_succ]
    refine take_at (v := ?_) 10 80 rfl rfl (by kernel_rfl) (by kernel_rfl) (by kernel_rfl) (fun _ _ _ h => h) hHeld (Or.inl ⟨by rfl, ?_⟩) rfl ?_
    rotate_left
    · intro wq hSw
      go_simp
      try with_reducible rfl
    simp only [List.set_cons_zero, List.set_cons_succ]
    refine take_at (v := ?_) 13 83 rfl rfl (by kernel_rfl) (by kernel_rfl) (by kernel_rfl) (fun _ _ _ h => h) hHeld (Or.inl ⟨by rfl, ?_⟩) rfl ?_
    rotate_left
    · intro wq hSw
      go_simp
      try with_reducible rfl
    simp only [List.set_cons_zero, List.set_cons_succ]
    refine take_at (v := ?_) 14 84 rfl rfl (by kernel_rfl) (by kernel_rfl) (by kernel_rfl) (fun _ _ _ h => h) hHeld (Or.inl ⟨by rfl, ?_⟩) rfl ?_
    rotate_left
    · intro wq hSw
      go_simp
      try with_reducible rfl
    simp only [List.set_cons_zero, List.set_cons_succ]
    refine wpAnyH_ready (rs := [11]) (by kernel_rfl) (by simp) ?_
    refine AllReadyH.cons rfl (fun K hK => ?_) AllReadyH.nil
    go_simp
    go_at_call 14; refine (sbytes_any _ g' ga' cap c' _ w9 (hc6.draw.below hD9)).mono ?_; rintro e w10 ⟨⟨b4, rfl, hb4'⟩, hB10⟩; obtain ⟨x4, y4, rfl, _, _, hx4⟩ := hb4'.shape HZ.out.2.2.1; have hD10 := hD9.trans (hB10.mono hD9.size); have hz10 : w6.heap.size ≤ w10.heap.size := hD10.size; have hkx4 : 0 < m4 → ∀ x, x4 = some x → x.block ≠ ga' := fun _ x e => by have h8 : w9.heap.size ≤ x.block := hb4'.lt x.block (by rw [e]; rfl); omega
    refine hK.out _ _ (HeldX.of hB10) (fun _ => ?_)
    clear hK K
    try simp only [Act.put, List.setIfInBounds_toArray, List.set_cons_zero, List.set_cons_succ]
    refine heldx_grow (w1 := w10) (HeldX.of hB10) ?_
    clear hHeld
    have hHeld : HeldX ga' w10 w10 := HeldX.refl _ _
    refine take_at (v := ?_) 12 82 rfl rfl (by kernel_rfl) (by kernel_rfl) (by kernel_rfl) (fun _ _ _ h => h) hHeld (Or.inl ⟨by rfl, ?_⟩) rfl ?_
    rotate_left
    · intro wq hSw
      have hst := run_string (P := Try.prog) 23 9 5 Try.underlying23 Try.underlying5 Try.underlying9 (c := y4) (HeldX.bytes hSw hx4 hkx4)
      go_simp
      try with_reducible rfl
    simp only [List.set_cons_zero, List.set_cons_succ]
    refine wpAnyH_ready (rs := [15]) (by kernel_rfl) (by simp) ?_
    refine AllReadyH.cons rfl (fun K hK => ?_) AllReadyH.nil
    go_simp
    go_at_call 17; refine (rof_any cap q cq aq (l1 ++ l2) w10 (hq6.draw.below hD10) (by omega)).mono ?_; rintro e w11 ⟨⟨v5, rfl, hv5⟩, hB11⟩; obtain ⟨ra5, rc5, rfl, _, _, hr5⟩ := fresh_shapeK hv5.fresh HZ.out.2.2.2.2; have hD11 := hD10.trans (hB11.mono hD10.size); have hz11 : w6.heap.size ≤ w11.heap.size := hD11.size
    refine hK.out _ _ (HeldX.of hB11) (fun _ => ?_)
    clear hK K
    try simp only [Act.put, List.setIfInBounds_toArray, List.set_cons_zero, List.set_cons_succ]
    refine heldx_grow (w1 := w11) (HeldX.of hB11) ?_
    clear hHeld
    have hHeld : HeldX ga' w11 w11 := HeldX.refl _ _
    refine wpAnyH_ready (rs := [16]) (by kernel_rfl) (by simp) ?_
    refine AllReadyH.cons rfl (fun K hK => ?_) AllReadyH.nil
    go_simp
    go_at_call 18; refine (rbytes5_any ra5 cap rc5 (Sk.syn cap (l1 ++ l2)) w11 hr5 (by omega)).mono ?_; rintro e w12 ⟨⟨b6, rfl, hb6⟩, hB12⟩; obtain ⟨x6, y6, rfl, _, _, hx6⟩ := hb6.shape HZ.out.2.2.1; have hD12 := hD11.trans (hB12.mono hD11.size); have hkx6 : 0 < m4 → ∀ x, x6 = some x → x.block ≠ ga' := fun _ x e => by have h8 : w11.heap.size ≤ x.block := hb6.lt x.block (by rw [e]; rfl); omega
    refine hK.out _ _ (HeldX.of hB12) (fun _ => ?_)
    clear hK K
    try simp only [Act.put, List.setIfInBounds_toArray, List.set_cons_zero, List.set_cons_succ]
    refine heldx_grow (w1 := w12) (HeldX.of hB12) ?_
    clear hHeld
    have hHeld : HeldX ga' w12 w12 := HeldX.refl _ _
    refine take_at (v := ?_) 17 87 rfl rfl (by kernel_rfl) (by kernel_rfl) (by kernel_rfl) (fun _ _ _ h => h) hHeld (Or.inl ⟨by rfl, ?_⟩) rfl ?_
    rotate_left
    · intro wq hSw
      have hst := run_string (P := Try.prog) 23 9 5 Try.underlying23 Try.underlying5 Try.underlying9 (c := y6) (HeldX.bytes hSw hx6 hkx6)
      go_simp
      try with_reducible rfl
    simp only [List.set_cons_zero, List.set_cons_succ]
    refine take_at (v := ?_) 18 88 rfl rfl (by kernel_rfl) (by kernel_rfl) (by kernel_rfl) (fun _ _ _ h => h) hHeld (Or.inl ⟨by rfl, ?_⟩) rfl ?_
    rotate_left
    · intro wq hSw
      go_simp
      try with_reducible rfl
    simp only [List.set_cons_zero, List.set_cons_succ]
    refine take_at (v := ?_) 19 89 rfl rfl (by kernel_rfl) (by kernel_rfl) (by kernel_rfl) (fun _ _ _ h => h) hHeld (Or.inl ⟨by rfl, ?_⟩) rfl ?_
    rotate_left
    · intro wq hSw
      go_simp
      try with_reducible rfl
    simp only [List.set_cons_zero, List.set_cons_succ]
    refine take_at (v := ?_) 20 90 rfl rfl (by kernel_rfl) (by kernel_rfl) (by kernel_rfl) (fun _ _ _ h => h) hHeld (Or.inl ⟨by rfl, ?_⟩) rfl ?_
    rotate_left
    · intro wq hSw
      go_simp
      try with_reducible rfl
    simp only [List.set_cons_zero, List.set_cons_succ]
    refine take_at (v := ?_) 21 91 rfl rfl (by kernel_rfl) (by kernel_rfl) (by kernel_rfl) (fun _ _ _ h => h) hHeld (Or.inl ⟨by rfl, ?_⟩) rfl ?_
    rotate_left
    · intro wq hSw
      go_simp
      try with_reducible rfl
    simp only [List.set_cons_zero, List.set_cons_succ]
    refine take_at (v := ?_) 22 92 rfl rfl (by kernel_rfl) (by kernel_rfl) (by kernel_rfl) (fun _ _ _ h => h) hHeld (Or.inl ⟨by rfl, ?_⟩) rfl ?_
    rotate_left
    · intro wq hSw
      go_simp
      try with_reducible rfl
    simp only [List.set_cons_zero, List.set_cons_succ]
    refine wpAnyH_ready (rs := [23]) (by kernel_rfl) (by simp) ?_
    refine AllReadyH.cons rfl (fun K hK => ?_) AllReadyH.nil
    go_simp
    go_at_call 25; refine (put_ok w2.heap.size g' ga' cap c' _ aq q cq (l1 ++ l2) w12 (hc6.draw.below hD12) (hq6.draw.below hD12) hne6 HH.out).mono ?_; rintro e w13 ⟨rfl, hc13, hg13⟩; have hT13 : Below W.heap.size W w13 := (hT6d.trans (hD12.mono hT6d.size)).grown hg13 (hT6d.trans (hD12.mono hT6d.size)).size (fun k e => by injection e with e; have := hc6.ge; have := hT2.size; omega)
    refine hK.out _ _ (HeldX.put hg13) (fun _ => ?_)
    clear hK K
    try simp only [Act.put, List.setIfInBounds_toArray, List.set_cons_zero, List.set_cons_succ]
    refine heldx_grow (w1 := w13) (HeldX.put hg13) ?_
    clear hHeld
    have hHeld : HeldX ga' w13 w13 := HeldX.refl _ _
    refine take_at (v := ?_) 24 94 rfl rfl (by kernel_rfl) (by kernel_rfl) (by kernel_rfl) (fun _ _ _ h => h) hHeld (Or.inl ⟨by rfl, ?_⟩) rfl ?_
    rotate_left
    · intro wq hSw
      go_simp
      try with_reducible rfl
    simp only [List.set_cons_zero, List.set_cons_succ]
    refine take_at (v := ?_) 25 95 rfl rfl (by kernel_rfl) (by kernel_rfl) (by kernel_rfl) (fun _ _ _ h => h) hHeld (Or.inl ⟨by rfl, ?_⟩) rfl ?_
    rotate_left
    · intro wq hSw
      go_simp
      try with_reducible rfl
    simp only [List.set_cons_zero, List.set_cons_succ]
    refine take_at (v := ?_) 26 96 rfl rfl (by kernel_rfl) (by kernel_rfl) (by kernel_rfl) (fun _ _ _ h => h) hHeld (Or.inl ⟨by rfl, ?_⟩) rfl ?_
    rotate_left
    · intro wq hSw
      go_simp
      try with_reducible rfl
    simp only [List.set_cons_zero, List.set_cons_succ]
    refine take_at (v := ?_) 27 97 rfl rfl (by kernel_rfl) (by kernel_rfl) (by kernel_rfl) (fun _ _ _ h => h) hHeld (Or.inl ⟨by rfl, ?_⟩) rfl ?_
    rotate_left
    · intro wq hSw
      go_simp
      try with_reducible rfl
    simp only [List.set_cons_zero, List.set_cons_succ]
    refine wpAnyH_ready (rs := [28]) (by kernel_rfl) (by simp) ?_
    refine AllReadyH.cons rfl (fun K hK => ?_) AllReadyH.nil
    go_simp
    go_at_call 15; refine (empty_any _ g' ga' cap c' _ w13 hc13 true ⟨fun _ => HZ.out.1, fun _ => rfl⟩).mono ?_; rintro e w14 ⟨rfl, rfl⟩
    refine hK.out _ _ hHeld (fun _ => ?_)
    clear hK K
    try simp only [Act.put, List.setIfInBounds_toArray, List.set_cons_zero, List.set_cons_succ]
    refine take_at (v := ?_) 29 99 rfl rfl (by kernel_rfl) (by kernel_rfl) (by kernel_rfl) (fun _ _ _ h => h) hHeld (Or.inl ⟨by rfl, ?_⟩) rfl ?_
    rotate_left
    · intro wq hSw
      go_simp
      try with_reducible rfl
    simp only [List.set_cons_zero, List.set_cons_succ]
    refine take_at (v := ?_) 30 100 rfl rfl (by kernel_rfl) (by kernel_rfl) (by kernel_rfl) (fun _ _ _ h => h) hHeld (Or.inl ⟨by rfl, ?_⟩) rfl ?_
    rotate_left
    · intro wq hSw
      go_simp
      try with_reducible rfl
    simp only [List.set_cons_zero, List.set_cons_succ]
    refine wpAnyH_done (by kernel_rfl) ?_ _
    go_wp2_with fail
    go_meet
    case rel => exact ⟨rfl, hT13⟩
  case rest =>
    obtain ⟨rfl, hBc⟩ := hcut
    go_wp2_with (first
      | (go_at_call 24; with_reducible refine (scopy_nil _).mono ?_; rintro e wz ⟨rfl, rfl⟩)
      | (go_at_call 15; with_reducible refine (empty_nil _).mono ?_; rintro e wz ⟨rfl, rfl⟩)
      | (go_at_call 14; with_reducible refine (sbytes_nil _).mono ?_; rintro e wz ⟨rfl, rfl⟩)
      | (go_at_call 13; with_reducible refine (capacity_nil _).mono ?_; rintro e wz ⟨rfl, rfl⟩)
      | (go_at_call 12; with_reducible refine (is_err 1 rfl _).mono ?_; rintro e wz ⟨rfl, rfl⟩)
      | (go_at_call 12; with_reducible refine (is_err 13 rfl _).mono ?_; rintro e wz ⟨rfl, rfl⟩)
      | (go_at_call 25; with_reducible refine (put_nil _ _).mono ?_; rintro e wz ⟨rfl, rfl⟩)
      | (go_at_call 19; with_reducible refine (with_none g _).mono ?_; rintro e wz ⟨rfl, rfl⟩)
      | (go_at_call 19; with_reducible refine (with_nil _ _).mono ?_; rintro e wz ⟨rfl, rfl⟩)
      | (go_at_call 23; with_reducible refine (join_nil _ _).mono ?_; rintro e wz ⟨rfl, rfl⟩)
      | (go_at_call 22; with_reducible refine (further_nil _ _).mono ?_; rintro e wz ⟨rfl, rfl⟩)
      | (go_at_call 21; with_reducible refine (sdec_nil _).mono ?_; rintro e wz ⟨rfl, rfl⟩))
    go_ret
    exact ⟨rfl, hBc.alloc hBc.size _⟩
end Go.Proofs.Ytamigcbodplmcaa
