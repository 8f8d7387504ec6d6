/- AmountNeeds over the premise -/
import Derived.Test.YtcbbjhcejlmmlaaAmK
import Derived.Test.YtcbbjhcejlmmlaaHe
import Derived.Test.YtcbbjhcejlmmlaaFa
import Derived.Deep.Cut
namespace Go.Proofs.Ytcbbjhcejlmmlaa
open Go Go.RowKit Go.ChangeShapes Go.WideShapes
set_option maxRecDepth 100000 in
set_option maxHeartbeats 4000000 in
theorem needsMain (ok : AmountOk) (W : World) (f v per least : Int) :
    Calls Try.prog 5 #[.agg #[.int .i64 f, .int .i64 v], .int .i64 per, .int .i64 least] W fun e w' => e = .returned (.bool true) ∧ Below W.heap.size W w' := by
  obtain ⟨b, hb⟩ : ∃ b : Bool, b = true ↔ Am.Pays f v per least := ⟨decide (Am.Pays f v per least), decide_eq_true_iff⟩
  have HP := Lib.hid hb
  clear hb
  by_cases hn : Am.needs v per
  · have HN := Lib.hid hn
    clear hn
    obtain ⟨q, hq⟩ : ∃ q, q = Am.need v per := ⟨_, rfl⟩
    have HQ := Lib.hid hq
    clear hq
    go_enter Try.func5, Try.ntmps5
    go_upto_region 1 with fail
    obtain ⟨W1, hW1⟩ : ∃ x, x = W.alloc (.cells #[.int .i64 f, .int .i64 v] 38) := ⟨_, rfl⟩
    rw [← hW1]
    have hS1 : Has W1 W.heap.size 38 #[.int .i64 f, .int .i64 v] := by rw [hW1]; exact Has.fresh _ _ _
    have hT1 : Below W.heap.size W W1 := by rw [hW1]; exact (Below.refl _ _).alloc (Nat.le_refl _) _
    clear hW1
    go_upto_region 5 with (first
      | (go_at_call 23; refine (aneed_ok v per HN.out _).mono ?_; rw [← HQ.out]; rintro e wk ⟨rfl, rfl⟩)
      | (go_at_call 22; refine (ok.need_ok v per w2 HN.out).mono ?_; rw [← HQ.out]; rintro e w3 ⟨rfl, hb3⟩; have hS := hS2.under hb3 hS2.lt; have hT := hT2.trans (hb3.mono hT2.size); have k0 : w3.cell? ⟨W.heap.size, 0, none⟩ = some (.int .i64 f) := hS.cell_at rfl; have k1 : w3.cell? ⟨W.heap.size, 1, none⟩ = some (.int .i64 v) := hS.cell_at rfl)
      | (go_at_call 7; refine (alive09 ok W1).mono ?_; rintro e w2 ⟨rfl, hb2⟩; have hS2 := hS1.under hb2 hS1.lt; have hT2 := hT1.trans (hb2.mono hT1.size); have j1 : w2.cell? ⟨W.heap.size, 1, none⟩ = some (.int .i64 v) := hS2.cell_at rfl))
    have hSd := hS.draw
    have hTd := hT.drew
    refine wp_region_held_drew (S := Held w3.drew) (by kernel_rfl) (Held.refl _) (fun hHeld => ?_)
    refine take_at (v := ?_) 0 27 rfl rfl (by kernel_rfl) (by kernel_rfl) (by kernel_rfl) (fun _ _ _ h => h) hHeld (Or.inl ⟨by rfl, ?_⟩) rfl ?_
    rotate_left
    · intro wq hSw
      go_simp
      try with_reducible rfl
    simp only [List.set_cons_zero, List.set_cons_succ]
    refine take_at (v := ?_) 1 28 rfl rfl (by kernel_rfl) (by kernel_rfl) (by kernel_rfl) (fun _ _ _ h => h) hHeld (Or.inl ⟨by rfl, ?_⟩) rfl ?_
    rotate_left
    · intro wq hSw
      go_simp
      try with_reducible rfl
    simp only [List.set_cons_zero, List.set_cons_succ]
    refine take_at (v := .bool true) 2 29 rfl rfl (by kernel_rfl) (by kernel_rfl) (by kernel_rfl) (fun _ _ _ h => h) hHeld (Or.inl ⟨by rfl, ?_⟩) rfl ?_
    · intro wq hSw
      go_simp
      skip
    simp only [List.set_cons_zero, List.set_cons_succ]
    refine take_at (v := ?_) 3 30 rfl rfl (by kernel_rfl) (by kernel_rfl) (by kernel_rfl) (fun _ _ _ h => h) hHeld (Or.inl ⟨by rfl, ?_⟩) rfl ?_
    rotate_left
    · intro wq hSw
      go_simp
      try with_reducible rfl
    simp only [List.set_cons_zero, List.set_cons_succ]
    refine take_at (v := ?_) 4 31 rfl rfl (by kernel_rfl) (by kernel_rfl) (by kernel_rfl) (fun _ _ _ h => h) hHeld (Or.inl ⟨by rfl, ?_⟩) rfl ?_
    rotate_left
    · intro wq hSw
      go_simp
      try with_reducible rfl
    simp only [List.set_cons_zero, List.set_cons_succ]
    refine take_at (v := ?_) 6 33 rfl rfl (by kernel_rfl) (by kernel_rfl) (by kernel_rfl) (fun _ _ _ h => h) hHeld (Or.inl ⟨by rfl, ?_⟩) rfl ?_
    rotate_left
    · intro wq hSw
      go_simp
      try with_reducible rfl
    simp only [List.set_cons_zero, List.set_cons_succ]
    refine wpAnyH_ready (rs := [5]) (by kernel_rfl) (by simp) ?_
    refine AllReadyH.cons rfl (fun K hK => ?_) AllReadyH.nil
    go_simp
    go_at_call 11; refine (num_nil _).mono ?_; rintro e wk ⟨rfl, rfl⟩
    refine hK.out _ _ hHeld (fun _ => ?_)
    clear hK K
    try simp only [Act.put, List.setIfInBounds_toArray, List.set_cons_zero, List.set_cons_succ]
    refine take_at (v := .bool true) 7 34 rfl rfl (by kernel_rfl) (by kernel_rfl) (by kernel_rfl) (fun _ _ _ h => h) hHeld (Or.inl ⟨by rfl, ?_⟩) rfl ?_
    · intro wq hSw
      go_simp
      skip
    simp only [List.set_cons_zero, List.set_cons_succ]
    refine take_at (v := ?_) 8 35 rfl rfl (by kernel_rfl) (by kernel_rfl) (by kernel_rfl) (fun _ _ _ h => h) hHeld (Or.inl ⟨by rfl, ?_⟩) rfl ?_
    rotate_left
    · intro wq hSw
      go_simp
      try with_reducible rfl
    simp only [List.set_cons_zero, List.set_cons_succ]
    refine take_at (v := ?_) 9 36 rfl rfl (by kernel_rfl) (by kernel_rfl) (by kernel_rfl) (fun _ _ _ h => h) hHeld (Or.inl ⟨by rfl, ?_⟩) rfl ?_
    rotate_left
    · intro wq hSw
      go_simp
      try with_reducible rfl
    simp only [List.set_cons_zero, List.set_cons_succ]
    refine take_at (v := ?_) 10 37 rfl rfl (by kernel_rfl) (by kernel_rfl) (by kernel_rfl) (fun _ _ _ h => h) hHeld (Or.inl ⟨by rfl, ?_⟩) rfl ?_
    rotate_left
    · intro wq hSw
      have hst := (hSd.under hSw hSd.lt).cell_at (i := 0) (v := .int .i64 f) rfl
      have hst2 := (hSd.under hSw hSd.lt).cell_at (i := 1) (v := .int .i64 v) rfl
      go_simp
      try with_reducible rfl
    simp only [List.set_cons_zero, List.set_cons_succ]
    refine take_at (v := ?_) 11 38 rfl rfl (by kernel_rfl) (by kernel_rfl) (by kernel_rfl) (fun _ _ _ h => h) hHeld (Or.inl ⟨by rfl, ?_⟩) rfl ?_
    rotate_left
    · intro wq hSw
      go_simp
      try with_reducible rfl
    simp only [List.set_cons_zero, List.set_cons_succ]
    refine take_at (v := ?_) 12 39 rfl rfl (by kernel_rfl) (by kernel_rfl) (by kernel_rfl) (fun _ _ _ h => h) hHeld (Or.inl ⟨by rfl, ?_⟩) rfl ?_
    rotate_left
    · intro wq hSw
      go_simp
      try with_reducible rfl
    simp only [List.set_cons_zero, List.set_cons_succ]
    refine take_at (v := ?_) 14 41 rfl rfl (by kernel_rfl) (by kernel_rfl) (by kernel_rfl) (fun _ _ _ h => h) hHeld (Or.inl ⟨by rfl, ?_⟩) rfl ?_
    rotate_left
    · intro wq hSw
      have hst := (hSd.under hSw hSd.lt).cell_at (i := 0) (v := .int .i64 f) rfl
      have hst2 := (hSd.under hSw hSd.lt).cell_at (i := 1) (v := .int .i64 v) rfl
      go_simp
      try with_reducible rfl
    simp only [List.set_cons_zero, List.set_cons_succ]
    refine take_at (v := ?_) 15 42 rfl rfl (by kernel_rfl) (by kernel_rfl) (by kernel_rfl) (fun _ _ _ h => h) hHeld (Or.inl ⟨by rfl, ?_⟩) rfl ?_
    rotate_left
    · intro wq hSw
      go_simp
      try with_reducible rfl
    simp only [List.set_cons_zero, List.set_cons_succ]
    refine take_at (v := ?_) 16 43 rfl rfl (by kernel_rfl) (by kernel_rfl) (by kernel_rfl) (fun _ _ _ h => h) hHeld (Or.inl ⟨by rfl, ?_⟩) rfl ?_
    rotate_left
    · intro wq hSw
      go_simp
      try with_reducible rfl
    simp only [List.set_cons_zero, List.set_cons_succ]
    refine wpAnyH_ready (rs := [13]) (by kernel_rfl) (by simp) ?_
    refine AllReadyH.cons rfl (fun K hK => ?_) AllReadyH.nil
    go_simp
    go_at_call 24; refine (ok.pays f v per least b _ HP.out).mono ?_; rintro e w4 ⟨rfl, hb4⟩
    refine hK.out _ _ (Held.of hb4) (fun _ => ?_)
    clear hK K
    try simp only [Act.put, List.setIfInBounds_toArray, List.set_cons_zero, List.set_cons_succ]
    refine held_grow (w1 := w4) (Held.of hb4) ?_
    clear hHeld
    have hHeld : Held w4 w4 := Held.refl _
    replace hSd := hSd.under hb4 hSd.lt
    replace hTd := hTd.trans (hb4.mono hTd.size)
    refine wpAnyH_ready (rs := [17]) (by kernel_rfl) (by simp) ?_
    refine AllReadyH.cons rfl (fun K hK => ?_) AllReadyH.nil
    go_simp
    go_at_call 25; refine (apays_any f v per least b HP.out _).mono ?_; rintro e w5 ⟨rfl, hb5⟩
    refine hK.out _ _ (Held.of hb5) (fun _ => ?_)
    clear hK K
    try simp only [Act.put, List.setIfInBounds_toArray, List.set_cons_zero, List.set_cons_succ]
    refine held_grow (w1 := w5) (Held.of hb5) ?_
    clear hHeld
    have hHeld : Held w5 w5 := Held.refl _
    replace hTd := hTd.trans (hb5.mono hTd.size)
    refine take_at (v := .bool true) 18 45 rfl rfl (by kernel_rfl) (by kernel_rfl) (by kernel_rfl) (fun _ _ _ h => h) hHeld (Or.inl ⟨by rfl, ?_⟩) rfl ?_
    · intro wq hSw
      go_simp
      skip
    simp only [List.set_cons_zero, List.set_cons_succ]
    refine take_at (v := ?_) 19 46 rfl rfl (by kernel_rfl) (by kernel_rfl) (by kernel_rfl) (fun _ _ _ h => h) hHeld (Or.inl ⟨by rfl, ?_⟩) rfl ?_
    rotate_left
    · intro wq hSw
      go_simp
      try with_reducible rfl
    simp only [List.set_cons_zero, List.set_cons_succ]
    refine take_at (v := ?_) 20 6 rfl rfl (by kernel_rfl) (by kernel_rfl) (by kernel_rfl) (fun _ _ _ h => h) hHeld (Or.inl ⟨by rfl, ?_⟩) rfl ?_
    rotate_left
    · intro wq hSw
      go_simp
      try with_reducible rfl
    simp only [List.set_cons_zero, List.set_cons_succ]
    refine wpAnyH_done (by kernel_rfl) ?_ _
    go_wp2_with fail
    go_ret
    exact ⟨rfl, hTd⟩
  · have HN := Lib.hid hn
    clear hn
    obtain ⟨q, hq⟩ : ∃ q, q = Am.need v per := ⟨_, rfl⟩
    have HQ := Lib.hid hq
    clear hq
    go_enter Try.func5, Try.ntmps5
    go_upto_region 1 with fail
    obtain ⟨W1, hW1⟩ : ∃ x, x = W.alloc (.cells #[.int .i64 f, .int .i64 v] 38) := ⟨_, rfl⟩
    rw [← hW1]
    have hS1 : Has W1 W.heap.size 38 #[.int .i64 f, .int .i64 v] := by rw [hW1]; exact Has.fresh _ _ _
    have hT1 : Below W.heap.size W W1 := by rw [hW1]; exact (Below.refl _ _).alloc (Nat.le_refl _) _
    clear hW1
    go_upto_region 5 with (first
      | (go_at_call 23; refine (aneed_no v per HN.out _).mono ?_; rintro e wk ⟨rfl, rfl⟩)
      | (go_at_call 22; refine (ok.need_no v per w2 HN.out).mono ?_; rintro e w3 ⟨rfl, hb3⟩; have hS := hS2.under hb3 hS2.lt; have hT := hT2.trans (hb3.mono hT2.size); have k0 : w3.cell? ⟨W.heap.size, 0, none⟩ = some (.int .i64 f) := hS.cell_at rfl; have k1 : w3.cell? ⟨W.heap.size, 1, none⟩ = some (.int .i64 v) := hS.cell_at rfl)
      | (go_at_call 7; refine (alive09 ok W1).mono ?_; rintro e w2 ⟨rfl, hb2⟩; have hS2 := hS1.under hb2 hS1.lt; have hT2 := hT1.trans (hb2.mono hT1.size); have j1 : w2.cell? ⟨W.heap.size, 1, none⟩ = some (.int .i64 v) := hS2.cell_at rfl))
    have hSd := hS.draw
    have hTd := hT.drew
    refine wp_region_held_drew (S := Held w3.drew) (by kernel_rfl) (Held.refl _) (fun hHeld => ?_)
    refine take_at (v := ?_) 0 27 rfl rfl (by kernel_rfl) (by kernel_rfl) (by kernel_rfl) (fun _ _ _ h => h) hHeld (Or.inl ⟨by rfl, ?_⟩) rfl ?_
    rotate_left
    · intro wq hSw
      go_simp
      try with_reducible rfl
    simp only [List.set_cons_zero, List.set_cons_succ]
    refine take_at (v := ?_) 1 28 rfl rfl (by kernel_rfl) (by kernel_rfl) (by kernel_rfl) (fun _ _ _ h => h) hHeld (Or.inl ⟨by rfl, ?_⟩) rfl ?_
    rotate_left
    · intro wq hSw
      go_simp
      try with_reducible rfl
    simp only [List.set_cons_zero, List.set_cons_succ]
    refine take_at (v := .bool true) 2 29 rfl rfl (by kernel_rfl) (by kernel_rfl) (by kernel_rfl) (fun _ _ _ h => h) hHeld (Or.inl ⟨by rfl, ?_⟩) rfl ?_
    · intro wq hSw
      go_simp
      skip
    simp only [List.set_cons_zero, List.set_cons_succ]
    refine take_at (v := ?_) 3 30 rfl rfl (by kernel_rfl) (by kernel_rfl) (by kernel_rfl) (fun _ _ _ h => h) hHeld (Or.inl ⟨by rfl, ?_⟩) rfl ?_
    rotate_left
    · intro wq hSw
      go_simp
      try with_reducible rfl
    simp only [List.set_cons_zero, List.set_cons_succ]
    refine take_at (v := ?_) 4 31 rfl rfl (by kernel_rfl) (by kernel_rfl) (by kernel_rfl) (fun _ _ _ h => h) hHeld (Or.inl ⟨by rfl, ?_⟩) rfl ?_
    rotate_left
    · intro wq hSw
      go_simp
      try with_reducible rfl
    simp only [List.set_cons_zero, List.set_cons_succ]
    refine take_at (v := ?_) 6 33 rfl rfl (by kernel_rfl) (by kernel_rfl) (by kernel_rfl) (fun _ _ _ h => h) hHeld (Or.inl ⟨by rfl, ?_⟩) rfl ?_
    rotate_left
    · intro wq hSw
      go_simp
      try with_reducible rfl
    simp only [List.set_cons_zero, List.set_cons_succ]
    refine wpAnyH_ready (rs := [5]) (by kernel_rfl) (by simp) ?_
    refine AllReadyH.cons rfl (fun K hK => ?_) AllReadyH.nil
    go_simp
    go_at_call 11; refine (num_err 1 rfl _).mono ?_; rintro e wk ⟨rfl, rfl⟩
    refine hK.out _ _ hHeld (fun _ => ?_)
    clear hK K
    try simp only [Act.put, List.setIfInBounds_toArray, List.set_cons_zero, List.set_cons_succ]
    refine take_at (v := .bool true) 7 34 rfl rfl (by kernel_rfl) (by kernel_rfl) (by kernel_rfl) (fun _ _ _ h => h) hHeld (Or.inl ⟨by rfl, ?_⟩) rfl ?_
    · intro wq hSw
      go_simp
      skip
    simp only [List.set_cons_zero, List.set_cons_succ]
    refine take_at (v := ?_) 8 35 rfl rfl (by kernel_rfl) (by kernel_rfl) (by kernel_rfl) (fun _ _ _ h => h) hHeld (Or.inl ⟨by rfl, ?_⟩) rfl ?_
    rotate_left
    · intro wq hSw
      go_simp
      try with_reducible rfl
    simp only [List.set_cons_zero, List.set_cons_succ]
    refine take_at (v := ?_) 9 36 rfl rfl (by kernel_rfl) (by kernel_rfl) (by kernel_rfl) (fun _ _ _ h => h) hHeld (Or.inl ⟨by rfl, ?_⟩) rfl ?_
    rotate_left
    · intro wq hSw
      go_simp
      try with_reducible rfl
    simp only [List.set_cons_zero, List.set_cons_succ]
    refine take_at (v := ?_) 10 37 rfl rfl (by kernel_rfl) (by kernel_rfl) (by kernel_rfl) (fun _ _ _ h => h) hHeld (Or.inl ⟨by rfl, ?_⟩) rfl ?_
    rotate_left
    · intro wq hSw
      have hst := (hSd.under hSw hSd.lt).cell_at (i := 0) (v := .int .i64 f) rfl
      have hst2 := (hSd.under hSw hSd.lt).cell_at (i := 1) (v := .int .i64 v) rfl
      go_simp
      try with_reducible rfl
    simp only [List.set_cons_zero, List.set_cons_succ]
    refine take_at (v := ?_) 11 38 rfl rfl (by kernel_rfl) (by kernel_rfl) (by kernel_rfl) (fun _ _ _ h => h) hHeld (Or.inl ⟨by rfl, ?_⟩) rfl ?_
    rotate_left
    · intro wq hSw
      go_simp
      try with_reducible rfl
    simp only [List.set_cons_zero, List.set_cons_succ]
    refine take_at (v := ?_) 12 39 rfl rfl (by kernel_rfl) (by kernel_rfl) (by kernel_rfl) (fun _ _ _ h => h) hHeld (Or.inl ⟨by rfl, ?_⟩) rfl ?_
    rotate_left
    · intro wq hSw
      go_simp
      try with_reducible rfl
    simp only [List.set_cons_zero, List.set_cons_succ]
    refine take_at (v := ?_) 14 41 rfl rfl (by kernel_rfl) (by kernel_rfl) (by kernel_rfl) (fun _ _ _ h => h) hHeld (Or.inl ⟨by rfl, ?_⟩) rfl ?_
    rotate_left
    · intro wq hSw
      have hst := (hSd.under hSw hSd.lt).cell_at (i := 0) (v := .int .i64 f) rfl
      have hst2 := (hSd.under hSw hSd.lt).cell_at (i := 1) (v := .int .i64 v) rfl
      go_simp
      try with_reducible rfl
    simp only [List.set_cons_zero, List.set_cons_succ]
    refine take_at (v := ?_) 15 42 rfl rfl (by kernel_rfl) (by kernel_rfl) (by kernel_rfl) (fun _ _ _ h => h) hHeld (Or.inl ⟨by rfl, ?_⟩) rfl ?_
    rotate_left
    · intro wq hSw
      go_simp
      try with_reducible rfl
    simp only [List.set_cons_zero, List.set_cons_succ]
    refine take_at (v := ?_) 16 43 rfl rfl (by kernel_rfl) (by kernel_rfl) (by kernel_rfl) (fun _ _ _ h => h) hHeld (Or.inl ⟨by rfl, ?_⟩) rfl ?_
    rotate_left
    · intro wq hSw
      go_simp
      try with_reducible rfl
    simp only [List.set_cons_zero, List.set_cons_succ]
    refine wpAnyH_ready (rs := [13]) (by kernel_rfl) (by simp) ?_
    refine AllReadyH.cons rfl (fun K hK => ?_) AllReadyH.nil
    go_simp
    go_at_call 24; refine (ok.pays f v per least b _ HP.out).mono ?_; rintro e w4 ⟨rfl, hb4⟩
    refine hK.out _ _ (Held.of hb4) (fun _ => ?_)
    clear hK K
    try simp only [Act.put, List.setIfInBounds_toArray, List.set_cons_zero, List.set_cons_succ]
    refine held_grow (w1 := w4) (Held.of hb4) ?_
    clear hHeld
    have hHeld : Held w4 w4 := Held.refl _
    replace hSd := hSd.under hb4 hSd.lt
    replace hTd := hTd.trans (hb4.mono hTd.size)
    refine wpAnyH_ready (rs := [17]) (by kernel_rfl) (by simp) ?_
    refine AllReadyH.cons rfl (fun K hK => ?_) AllReadyH.nil
    go_simp
    go_at_call 25; refine (apays_any f v per least b HP.out _).mono ?_; rintro e w5 ⟨rfl, hb5⟩
    refine hK.out _ _ (Held.of hb5) (fun _ => ?_)
    clear hK K
    try simp only [Act.put, List.setIfInBounds_toArray, List.set_cons_zero, List.set_cons_succ]
    refine held_grow (w1 := w5) (Held.of hb5) ?_
    clear hHeld
    have hHeld : Held w5 w5 := Held.refl _
    replace hTd := hTd.trans (hb5.mono hTd.size)
    refine take_at (v := .bool true) 18 45 rfl rfl (by kernel_rfl) (by kernel_rfl) (by kernel_rfl) (fun _ _ _ h => h) hHeld (Or.inl ⟨by rfl, ?_⟩) rfl ?_
    · intro wq hSw
      go_simp
      skip
    simp only [List.set_cons_zero, List.set_cons_succ]
    refine take_at (v := ?_) 19 46 rfl rfl (by kernel_rfl) (by kernel_rfl) (by kernel_rfl) (fun _ _ _ h => h) hHeld (Or.inl ⟨by rfl, ?_⟩) rfl ?_
    rotate_left
    · intro wq hSw
      go_simp
      try with_reducible rfl
    simp only [List.set_cons_zero, List.set_cons_succ]
    refine take_at (v := ?_) 20 6 rfl rfl (by kernel_rfl) (by kernel_rfl) (by kernel_rfl) (fun _ _ _ h => h) hHeld (Or.inl ⟨by rfl, ?_⟩) rfl ?_
    rotate_left
    · intro wq hSw
      go_simp
      try with_reducible rfl
    simp only [List.set_cons_zero, List.set_cons_succ]
    refine wpAnyH_done (by kernel_rfl) ?_ _
    go_wp2_with fail
    go_ret
    exact ⟨rfl, hTd⟩
theorem amountNeedsWalkK (ok : AmountOk) {H : Type} {enc : TypeId × Value → H} (W : World) (base : Nat) (v0 : Value) (d0 : DataW H) (p0 : List MemPlace) (v1 : Value) (d1 : DataW H) (p1 : List MemPlace) (v2 : Value) (d2 : DataW H) (p2 : List MemPlace)
    (o0 : Value.okWide Try.prog W .any base 38 v0) (o1 : Value.okWide Try.prog W .any base 3 v1) (o2 : Value.okWide Try.prog W .any base 3 v2)
    (h0 : DataW.Trod enc Try.prog W 0 (fun _ => true) true 38 v0 d0 p0) (h1 : DataW.Trod enc Try.prog W 0 (fun _ => true) true 3 v1 d1 p1) (h2 : DataW.Trod enc Try.prog W 0 (fun _ => true) true 3 v2 d2 p2) :
    Calls Try.prog 5 #[v0, v1, v2] W fun e w' => e = .returned (.bool true) ∧ Below W.heap.size W w' := by
  obtain ⟨cs, rfl, hl, hf⟩ := arg_fields Try.underlying38 (by kernel_rfl) (by kernel_rfl) o0 h0
  match cs, hl with
  | [b0, b1], _ =>
    obtain ⟨n0, y0, t0⟩ := hf 0 _ b0 rfl rfl
    obtain ⟨n1, y1, t1⟩ := hf 1 _ b1 rfl rfl
    obtain ⟨f, rfl, _⟩ := field_int Try.underlying3 t0
    obtain ⟨v, rfl, _⟩ := field_int Try.underlying3 t1
    obtain ⟨per, rfl, rfl, rfl, _⟩ := open_int Try.underlying3 o1 h1
    obtain ⟨least, rfl, rfl, rfl, _⟩ := open_int Try.underlying3 o2 h2
    exact needsMain ok W f v per least
end Go.Proofs.Ytcbbjhcejlmmlaa
