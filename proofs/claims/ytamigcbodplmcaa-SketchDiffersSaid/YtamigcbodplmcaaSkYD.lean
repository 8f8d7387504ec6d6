/- SketchDiffers -/
import Derived.Test.YtamigcbodplmcaaSkYS
import Derived.Test.YtamigcbodplmcaaSkQ
import Derived.Test.YtamigcbodplmcaaSkO
import Derived.Test.YtamigcbodplmcaaSkV
import Derived.Test.YtamigcbodplmcaaFs
namespace Go.Proofs.Ytamigcbodplmcaa
open Go Go.RowKit Go.ChangeShapes Go.WideShapes
/-- the sums of two sketches put together -/
def Sk.both (N ca cb : Nat) (A B : List (BitVec 32)) : List (BitVec 32) := Po.mk N fun i => Po.cf (Sk.syn ca A) i ^^^ Po.cf (Sk.syn cb B) i
theorem Sk.both_len (N ca cb : Nat) (A B : List (BitVec 32)) : (Sk.both N ca cb A B).length = N := Po.mk_length _ _
theorem Sk.both_cf {N ca cb : Nat} (hN : N = min ca cb) (C A B : List (BitVec 32)) {k : Nat} (hk : k < N) : Po.cf (Sk.both N ca cb (C ++ A) (C ++ B)) k = Sk.ps A (2 * k + 1) ^^^ Sk.ps B (2 * k + 1) := by
  unfold Sk.both Sk.syn
  rw [Po.cf_mk, if_pos hk, Po.cf_mk, if_pos (by omega), Po.cf_mk, if_pos (by omega)]
  exact Sk.ps_both C A B _
theorem Sk.both_is {N ca cb : Nat} (hN : N = min ca cb) {C A B : List (BitVec 32)} (hA : ¬ (0 : BitVec 32) ∈ A) (hB : ¬ (0 : BitVec 32) ∈ B) (hl : (Sk.odds [] (A ++ B)).length ≤ N) : Sk.Is (Sk.both N ca cb (C ++ A) (C ++ B)) (Sk.odds [] (A ++ B)) :=
  Sk.odds_is (fun x hx e => hA (e ▸ hx)) (fun x hx e => hB (e ▸ hx)) (by rw [Sk.both_len]; exact hl) (fun k hk => Sk.both_cf hN C A B (by rwa [Sk.both_len] at hk))
theorem Sk.syn_is {l A : List (BitVec 32)} {N : Nat} (h : Sk.Is l A) (hl : l.length = N) : Sk.syn N A = l := by
  subst hl
  refine Po.list_ext (by unfold Sk.syn; rw [Po.mk_length]) fun k hk => ?_
  unfold Sk.syn at hk ⊢
  rw [Po.mk_length] at hk
  rw [Po.cf_mk, if_pos hk]
  exact h.sums k hk
theorem not_mem_app {x : BitVec 32} {a b : List (BitVec 32)} (ha : ¬ x ∈ a) (hb : ¬ x ∈ b) : ¬ x ∈ a ++ b := fun h => by
  rcases List.mem_append.1 h with h | h
  · exact ha h
  · exact hb h
/-- the argument, boxed -/
def setCells (aA : Option Addr) (nA cA : Nat) (aB : Option Addr) (nB cB : Nat) (aC : Option Addr) (nC cC : Nat) (zA zB : Int) : Array Value := #[.slice aA nA cA, .slice aB nB cB, .slice aC nC cC, .int .i64 zA, .int .i64 zB]
set_option maxRecDepth 100000 in
set_option maxHeartbeats 16000000 in
theorem differsMain (W : World) (aA : Option Addr) (nA cA : Nat) (lA : List (BitVec 32)) (hA : Words32 W aA nA lA) (hcA : aA = none → cA = 0) (aB : Option Addr) (nB cB : Nat) (lB : List (BitVec 32)) (hB : Words32 W aB nB lB) (hcB : aB = none → cB = 0) (aC : Option Addr) (nC cC : Nat) (lC : List (BitVec 32)) (hC : Words32 W aC nC lC) (hcC : aC = none → cC = 0)
    (zA : Int) (zB : Int) (hnA : nA ≤ 24) (hnB : nB ≤ 24) (hnC : nC ≤ 24) (h0A : ¬ (0 : BitVec 32) ∈ lA) (h0B : ¬ (0 : BitVec 32) ∈ lB) (h0C : ¬ (0 : BitVec 32) ∈ lC) :
    Calls Try.prog 4 #[.agg #[.slice aA nA cA, .slice aB nB cB, .slice aC nC cC, .int .i64 zA, .int .i64 zB]] W fun e w' => e = .returned (.bool true) ∧ Below W.heap.size W w' := by
  have g1 : ¬ (24 : Int) < (nA : Int) := by omega
  have g2 : ¬ (24 : Int) < (nB : Int) := by omega
  have g3 : ¬ (24 : Int) < (nC : Int) := by omega
  have H0 := Lib.hid (And.intro h0A (And.intro h0B (And.intro h0C (And.intro hA.1 (And.intro hB.1 hC.1)))))
  clear h0A h0B h0C
  go_enter Try.func4, Try.ntmps4
  go_upto_region 1 with fail
  obtain ⟨W1, hW1⟩ : ∃ x, x = W.alloc (.cells #[.slice aA nA cA, .slice aB nB cB, .slice aC nC cC, .int .i64 zA, .int .i64 zB] 43) := ⟨_, rfl⟩
  rw [← hW1]
  have hH1 : Has W1 W.heap.size 43 (setCells aA nA cA aB nB cB aC nC cC zA zB) := by rw [hW1]; exact Has.fresh _ _ _
  have hT1 : Below W.heap.size W W1 := by rw [hW1]; exact (Below.refl _ _).alloc (Nat.le_refl _) _
  clear hW1
  go_upto_region 5 with (first
      | (go_at_call 16; (with_reducible refine (none5_any aA nA cA lA w2 (hA.below hT2) false ⟨fun e => absurd e Bool.false_ne_true, fun e => absurd e (H0.out.1)⟩).mono ?_); rintro e wn ⟨rfl, rfl⟩)
      | (go_at_call 16; (with_reducible refine (none5_any aB nB cB lB w2 (hB.below hT2) false ⟨fun e => absurd e Bool.false_ne_true, fun e => absurd e (H0.out.2.1)⟩).mono ?_); rintro e wn ⟨rfl, rfl⟩)
      | (go_at_call 16; (with_reducible refine (none5_any aC nC cC lC w2 (hC.below hT2) false ⟨fun e => absurd e Bool.false_ne_true, fun e => absurd e (H0.out.2.2.1)⟩).mono ?_); rintro e wn ⟨rfl, rfl⟩)
      | (go_at_call 7; refine (alive05 W1).mono ?_; rintro e w2 ⟨rfl, hb2⟩; have hH2 := hH1.under hb2 hH1.lt; have hT2 := hT1.trans (hb2.mono hT1.size); have k0 := hH2.cell_at (i := 0) (v := .slice aA nA cA) rfl; have k1 := hH2.cell_at (i := 1) (v := .slice aB nB cB) rfl; have k2 := hH2.cell_at (i := 2) (v := .slice aC nC cC) rfl))
  clear k0 k1 k2
  have hHd := hH2.draw
  have hTd := hT2.drew
  have hwC := (hC.below hT2).draw
  have hwX := (hA.below hT2).draw
  have hdw : Below w2.heap.size w2 w2.drew := (Below.refl _ _).drew
  refine wp_region_held_drew (S := Held w2.drew) (by kernel_rfl) (Held.refl _) (fun hHeld => ?_)
  obtain ⟨wd, hwd⟩ : ∃ x, x = w2.drew := ⟨_, rfl⟩
  rw [← hwd] at hHd hTd hwC hwX hdw hHeld ⊢
  clear hwd
  refine take_at (v := ?_) 0 45 rfl rfl (by kernel_rfl) (by kernel_rfl) (by kernel_rfl) (fun _ _ _ h => h) hHeld (Or.inl ⟨by rfl, ?_⟩) rfl ?_
  rotate_left
  · intro wq hSw
    go_simp
    try with_reducible rfl
  simp only [List.set_cons_zero, List.set_cons_succ]
  refine take_at (v := ?_) 1 46 rfl rfl (by kernel_rfl) (by kernel_rfl) (by kernel_rfl) (fun _ _ _ h => h) hHeld (Or.inl ⟨by rfl, ?_⟩) rfl ?_
  rotate_left
  · intro wq hSw
    have hst := (hHd.under hSw hHd.lt).cell_at (i := 3) (v := .int .i64 zA) rfl
    go_simp
    try with_reducible rfl
  simp only [List.set_cons_zero, List.set_cons_succ]
  refine take_at (v := ?_) 3 48 rfl rfl (by kernel_rfl) (by kernel_rfl) (by kernel_rfl) (fun _ _ _ h => h) hHeld (Or.inl ⟨by rfl, ?_⟩) rfl ?_
  rotate_left
  · intro wq hSw
    go_simp
    try with_reducible rfl
  simp only [List.set_cons_zero, List.set_cons_succ]
  refine take_at (v := ?_) 4 49 rfl rfl (by kernel_rfl) (by kernel_rfl) (by kernel_rfl) (fun _ _ _ h => h) hHeld (Or.inl ⟨by rfl, ?_⟩) rfl ?_
  rotate_left
  · intro wq hSw
    have hst := (hHd.under hSw hHd.lt).cell_at (i := 2) (v := .slice aC nC cC) rfl
    go_simp
    try with_reducible rfl
  simp only [List.set_cons_zero, List.set_cons_succ]
  refine take_at (v := ?_) 6 51 rfl rfl (by kernel_rfl) (by kernel_rfl) (by kernel_rfl) (fun _ _ _ h => h) hHeld (Or.inl ⟨by rfl, ?_⟩) rfl ?_
  rotate_left
  · intro wq hSw
    go_simp
    try with_reducible rfl
  simp only [List.set_cons_zero, List.set_cons_succ]
  refine take_at (v := ?_) 7 52 rfl rfl (by kernel_rfl) (by kernel_rfl) (by kernel_rfl) (fun _ _ _ h => h) hHeld (Or.inl ⟨by rfl, ?_⟩) rfl ?_
  rotate_left
  · intro wq hSw
    have hst := (hHd.under hSw hHd.lt).cell_at (i := 0) (v := .slice aA nA cA) rfl
    go_simp
    try with_reducible rfl
  simp only [List.set_cons_zero, List.set_cons_succ]
  refine wpAnyH_ready (rs := [2]) (by kernel_rfl) (by simp) ?_
  refine AllReadyH.cons rfl (fun K hK => ?_) AllReadyH.nil
  go_simp
  skip
  refine hK.out _ _ (Held.of ((Below.refl wd.heap.size wd).alloc (Nat.le_refl _) (.cells #[] 54))) (fun _ => ?_)
  clear hK K
  try simp only [Act.put, List.setIfInBounds_toArray, List.set_cons_zero, List.set_cons_succ]
  replace hHeld := Held.of ((Below.refl wd.heap.size wd).alloc (Nat.le_refl _) (.cells #[] 54))
  have hoE : OwnW 54 wd.heap.size (wd.alloc (.cells #[] 54)) (.slice (some ⟨wd.heap.size, 0, none⟩) 0 0) [] := OwnW.empty (Nat.le_refl _) (Has.fresh wd _ _)
  refine wpAnyH_ready (rs := [5]) (by kernel_rfl) (by simp) ?_
  refine AllReadyH.cons rfl (fun K hK => ?_) AllReadyH.nil
  refine step_append_words rfl (.tmp 47) (.tmp 49) 22 rfl 54 Try.underlying22 info_word wd.heap.size _ [] (by simp [Act.eval]) hoE aC nC cC lC (by simp [Act.eval]) (hwC.past _) hcC (by have := H0.out.2.2.2; simp; omega) (by simp) ?_
  intro va wa1 ho3 hg3
  rw [List.nil_append] at ho3
  have hB3 : Below wd.heap.size wd wa1 := below_own_row ((Below.refl wd.heap.size wd).alloc (Nat.le_refl _) _) hg3 hoE.lt
  refine hK.out _ _ (Held.of hB3) (fun _ => ?_)
  clear hK K
  try simp only [Act.put]
  try simp only [List.setIfInBounds_toArray]
  try simp only [List.set_cons_zero, List.set_cons_succ]
  replace hHeld := Held.of hB3
  refine wpAnyH_ready (rs := [8]) (by kernel_rfl) (by simp) ?_
  refine AllReadyH.cons rfl (fun K hK => ?_) AllReadyH.nil
  refine step_append_words rfl (.tmp 50) (.tmp 52) 22 rfl 54 Try.underlying22 info_word wd.heap.size _ lC (by simp [Act.eval]) ho3 aA nA cA lA (by simp [Act.eval]) (hwX.below hB3) hcA (by have := H0.out.2.2.2; omega) hB3.size ?_
  intro vb wb1 ho4 hg4
  have hB4 : Below wd.heap.size wd wb1 := below_own_row hB3 hg4 ho3.lt
  obtain ⟨m, hm⟩ : ∃ m, (lC ++ lA).length = m := ⟨_, rfl⟩
  obtain ⟨xo, yo, rfl, _, _, hxo⟩ := fresh_shapeK ho4.fresh hm
  refine hK.out _ _ (Held.of hB4) (fun _ => ?_)
  clear hK K
  try simp only [Act.put]
  try simp only [List.setIfInBounds_toArray]
  try simp only [List.set_cons_zero, List.set_cons_succ]
  replace hHeld := Held.of hB4
  refine wpAnyH_ready (rs := [9]) (by kernel_rfl) (by simp) ?_
  refine AllReadyH.cons rfl (fun K hK => ?_) AllReadyH.nil
  go_simp
  go_at_call 8; refine (new_any zA xo m yo (lC ++ lA) wb1 hxo).mono ?_; rintro e w5 ⟨⟨pvA, evA, rfl, hnew⟩, hB5⟩; have HNA := Lib.hid hnew; clear hnew; have hBn := hB4.trans (hB5.mono hB4.size)
  refine hK.out _ _ (Held.of hBn) (fun _ => ?_)
  clear hK K
  try simp only [Act.put, List.setIfInBounds_toArray, List.set_cons_zero, List.set_cons_succ]
  replace hHeld := Held.of hBn
  refine take_at (v := ?_) 10 44 rfl rfl (by kernel_rfl) (by kernel_rfl) (by kernel_rfl) (fun _ _ _ h => h) hHeld (Or.inl ⟨by rfl, ?_⟩) rfl ?_
  rotate_left
  · intro wq hSw
    go_simp
    try with_reducible rfl
  simp only [List.set_cons_zero, List.set_cons_succ]
  refine take_at (v := ?_) 11 55 rfl rfl (by kernel_rfl) (by kernel_rfl) (by kernel_rfl) (fun _ _ _ h => h) hHeld (Or.inl ⟨by rfl, ?_⟩) rfl ?_
  rotate_left
  · intro wq hSw
    go_simp
    try with_reducible rfl
  simp only [List.set_cons_zero, List.set_cons_succ]
  refine take_at (v := ?_) 12 56 rfl rfl (by kernel_rfl) (by kernel_rfl) (by kernel_rfl) (fun _ _ _ h => h) hHeld (Or.inl ⟨by rfl, ?_⟩) rfl ?_
  rotate_left
  · intro wq hSw
    go_simp
    try with_reducible rfl
  simp only [List.set_cons_zero, List.set_cons_succ]
  refine take_at (v := ?_) 13 3 rfl rfl (by kernel_rfl) (by kernel_rfl) (by kernel_rfl) (fun _ _ _ h => h) hHeld (Or.inl ⟨by rfl, ?_⟩) rfl ?_
  rotate_left
  · intro wq hSw
    go_simp
    try with_reducible rfl
  simp only [List.set_cons_zero, List.set_cons_succ]
  refine take_at (v := ?_) 14 4 rfl rfl (by kernel_rfl) (by kernel_rfl) (by kernel_rfl) (fun _ _ _ h => h) hHeld (Or.inl ⟨by rfl, ?_⟩) rfl ?_
  rotate_left
  · intro wq hSw
    go_simp
    try with_reducible rfl
  simp only [List.set_cons_zero, List.set_cons_succ]
  refine wpAnyH_done (by kernel_rfl) ?_ _
  have hTw5 := hTd.trans (hBn.mono hTd.size)
  have hHw5 := hHd.under hBn hHd.lt
  have hSw5 := hdw.trans (hBn.mono hdw.size)
  clear hHeld hxo ho4 hg4 ho3 hg3 hoE hwC hwX hHd hTd hB3 hB4 hB5 hBn hm hdw
  go_upto_region 6 with fail
  have hHd := hHw5.draw
  have hTd := hTw5.drew
  have hwC := (hC.below hTw5).draw
  have hwX := (hB.below hTw5).draw
  have hdw : Below w5.heap.size w5 w5.drew := (Below.refl _ _).drew
  refine wp_region_held_drew (S := Held w5.drew) (by kernel_rfl) (Held.refl _) (fun hHeld => ?_)
  obtain ⟨we, hwd⟩ : ∃ x, x = w5.drew := ⟨_, rfl⟩
  rw [← hwd] at hHd hTd hwC hwX hdw hHeld ⊢
  clear hwd
  refine take_at (v := ?_) 0 58 rfl rfl (by kernel_rfl) (by kernel_rfl) (by kernel_rfl) (fun _ _ _ h => h) hHeld (Or.inl ⟨by rfl, ?_⟩) rfl ?_
  rotate_left
  · intro wq hSw
    go_simp
    try with_reducible rfl
  simp only [List.set_cons_zero, List.set_cons_succ]
  refine take_at (v := ?_) 1 59 rfl rfl (by kernel_rfl) (by kernel_rfl) (by kernel_rfl) (fun _ _ _ h => h) hHeld (Or.inl ⟨by rfl, ?_⟩) rfl ?_
  rotate_left
  · intro wq hSw
    have hst := (hHd.under hSw hHd.lt).cell_at (i := 4) (v := .int .i64 zB) rfl
    go_simp
    try with_reducible rfl
  simp only [List.set_cons_zero, List.set_cons_succ]
  refine take_at (v := ?_) 3 61 rfl rfl (by kernel_rfl) (by kernel_rfl) (by kernel_rfl) (fun _ _ _ h => h) hHeld (Or.inl ⟨by rfl, ?_⟩) rfl ?_
  rotate_left
  · intro wq hSw
    go_simp
    try with_reducible rfl
  simp only [List.set_cons_zero, List.set_cons_succ]
  refine take_at (v := ?_) 4 62 rfl rfl (by kernel_rfl) (by kernel_rfl) (by kernel_rfl) (fun _ _ _ h => h) hHeld (Or.inl ⟨by rfl, ?_⟩) rfl ?_
  rotate_left
  · intro wq hSw
    have hst := (hHd.under hSw hHd.lt).cell_at (i := 2) (v := .slice aC nC cC) rfl
    go_simp
    try with_reducible rfl
  simp only [List.set_cons_zero, List.set_cons_succ]
  refine take_at (v := ?_) 6 64 rfl rfl (by kernel_rfl) (by kernel_rfl) (by kernel_rfl) (fun _ _ _ h => h) hHeld (Or.inl ⟨by rfl, ?_⟩) rfl ?_
  rotate_left
  · intro wq hSw
    go_simp
    try with_reducible rfl
  simp only [List.set_cons_zero, List.set_cons_succ]
  refine take_at (v := ?_) 7 65 rfl rfl (by kernel_rfl) (by kernel_rfl) (by kernel_rfl) (fun _ _ _ h => h) hHeld (Or.inl ⟨by rfl, ?_⟩) rfl ?_
  rotate_left
  · intro wq hSw
    have hst := (hHd.under hSw hHd.lt).cell_at (i := 1) (v := .slice aB nB cB) rfl
    go_simp
    try with_reducible rfl
  simp only [List.set_cons_zero, List.set_cons_succ]
  refine wpAnyH_ready (rs := [2]) (by kernel_rfl) (by simp) ?_
  refine AllReadyH.cons rfl (fun K hK => ?_) AllReadyH.nil
  go_simp
  skip
  refine hK.out _ _ (Held.of ((Below.refl we.heap.size we).alloc (Nat.le_refl _) (.cells #[] 54))) (fun _ => ?_)
  clear hK K
  try simp only [Act.put, List.setIfInBounds_toArray, List.set_cons_zero, List.set_cons_succ]
  replace hHeld := Held.of ((Below.refl we.heap.size we).alloc (Nat.le_refl _) (.cells #[] 54))
  have hoE : OwnW 54 we.heap.size (we.alloc (.cells #[] 54)) (.slice (some ⟨we.heap.size, 0, none⟩) 0 0) [] := OwnW.empty (Nat.le_refl _) (Has.fresh we _ _)
  refine wpAnyH_ready (rs := [5]) (by kernel_rfl) (by simp) ?_
  refine AllReadyH.cons rfl (fun K hK => ?_) AllReadyH.nil
  refine step_append_words rfl (.tmp 60) (.tmp 62) 22 rfl 54 Try.underlying22 info_word we.heap.size _ [] (by simp [Act.eval]) hoE aC nC cC lC (by simp [Act.eval]) (hwC.past _) hcC (by have := H0.out.2.2.2; simp; omega) (by simp) ?_
  intro va wa2 ho3 hg3
  rw [List.nil_append] at ho3
  have hB3 : Below we.heap.size we wa2 := below_own_row ((Below.refl we.heap.size we).alloc (Nat.le_refl _) _) hg3 hoE.lt
  refine hK.out _ _ (Held.of hB3) (fun _ => ?_)
  clear hK K
  try simp only [Act.put]
  try simp only [List.setIfInBounds_toArray]
  try simp only [List.set_cons_zero, List.set_cons_succ]
  replace hHeld := Held.of hB3
  refine wpAnyH_ready (rs := [8]) (by kernel_rfl) (by simp) ?_
  refine AllReadyH.cons rfl (fun K hK => ?_) AllReadyH.nil
  refine step_append_words rfl (.tmp 63) (.tmp 65) 22 rfl 54 Try.underlying22 info_word we.heap.size _ lC (by simp [Act.eval]) ho3 aB nB cB lB (by simp [Act.eval]) (hwX.below hB3) hcB (by have := H0.out.2.2.2; omega) hB3.size ?_
  intro vb wb2 ho4 hg4
  have hB4 : Below we.heap.size we wb2 := below_own_row hB3 hg4 ho3.lt
  obtain ⟨m, hm⟩ : ∃ m, (lC ++ lB).length = m := ⟨_, rfl⟩
  obtain ⟨xo, yo, rfl, _, _, hxo⟩ := fresh_shapeK ho4.fresh hm
  refine hK.out _ _ (Held.of hB4) (fun _ => ?_)
  clear hK K
  try simp only [Act.put]
  try simp only [List.setIfInBounds_toArray]
  try simp only [List.set_cons_zero, List.set_cons_succ]
  replace hHeld := Held.of hB4
  refine wpAnyH_ready (rs := [9]) (by kernel_rfl) (by simp) ?_
  refine AllReadyH.cons rfl (fun K hK => ?_) AllReadyH.nil
  go_simp
  go_at_call 8; refine (new_any zB xo m yo (lC ++ lB) wb2 hxo).mono ?_; rintro e w8 ⟨⟨pvB, evB, rfl, hnew⟩, hB5⟩; have HNB := Lib.hid hnew; clear hnew; have hBn := hB4.trans (hB5.mono hB4.size)
  refine hK.out _ _ (Held.of hBn) (fun _ => ?_)
  clear hK K
  try simp only [Act.put, List.setIfInBounds_toArray, List.set_cons_zero, List.set_cons_succ]
  replace hHeld := Held.of hBn
  refine take_at (v := ?_) 10 57 rfl rfl (by kernel_rfl) (by kernel_rfl) (by kernel_rfl) (fun _ _ _ h => h) hHeld (Or.inl ⟨by rfl, ?_⟩) rfl ?_
  rotate_left
  · intro wq hSw
    go_simp
    try with_reducible rfl
  simp only [List.set_cons_zero, List.set_cons_succ]
  refine take_at (v := ?_) 11 68 rfl rfl (by kernel_rfl) (by kernel_rfl) (by kernel_rfl) (fun _ _ _ h => h) hHeld (Or.inl ⟨by rfl, ?_⟩) rfl ?_
  rotate_left
  · intro wq hSw
    go_simp
    try with_reducible rfl
  simp only [List.set_cons_zero, List.set_cons_succ]
  refine take_at (v := ?_) 12 69 rfl rfl (by kernel_rfl) (by kernel_rfl) (by kernel_rfl) (fun _ _ _ h => h) hHeld (Or.inl ⟨by rfl, ?_⟩) rfl ?_
  rotate_left
  · intro wq hSw
    go_simp
    try with_reducible rfl
  simp only [List.set_cons_zero, List.set_cons_succ]
  refine take_at (v := ?_) 13 5 rfl rfl (by kernel_rfl) (by kernel_rfl) (by kernel_rfl) (fun _ _ _ h => h) hHeld (Or.inl ⟨by rfl, ?_⟩) rfl ?_
  rotate_left
  · intro wq hSw
    go_simp
    try with_reducible rfl
  simp only [List.set_cons_zero, List.set_cons_succ]
  refine take_at (v := ?_) 14 6 rfl rfl (by kernel_rfl) (by kernel_rfl) (by kernel_rfl) (fun _ _ _ h => h) hHeld (Or.inl ⟨by rfl, ?_⟩) rfl ?_
  rotate_left
  · intro wq hSw
    go_simp
    try with_reducible rfl
  simp only [List.set_cons_zero, List.set_cons_succ]
  refine wpAnyH_done (by kernel_rfl) ?_ _
  have hTw8 := hTd.trans (hBn.mono hTd.size)
  have hHw8 := hHd.under hBn hHd.lt
  have hSw8 := hdw.trans (hBn.mono hdw.size)
  clear hHeld hxo ho4 hg4 ho3 hg3 hoE hwC hwX hHd hTd hB3 hB4 hB5 hBn hm hdw
  by_cases hz1 : zA < 1
  · have k3 := hHw8.cell_at (i := 3) (v := .int .i64 zA) rfl
    have k4 := hHw8.cell_at (i := 4) (v := .int .i64 zB) rfl
    obtain ⟨rfl, rfl⟩ := HNA.out.1 (.inl hz1)
    clear HNA HNB
    go_wp2_with fail
    go_ret
    exact ⟨rfl, hTw8⟩
  · by_cases hz2 : 40 < zA
    · have k3 := hHw8.cell_at (i := 3) (v := .int .i64 zA) rfl
      have k4 := hHw8.cell_at (i := 4) (v := .int .i64 zB) rfl
      obtain ⟨rfl, rfl⟩ := HNA.out.1 (.inr (.inl hz2))
      clear HNA HNB
      go_wp2_with fail
      go_ret
      exact ⟨rfl, hTw8⟩
    · obtain ⟨capA, rfl⟩ := Int.eq_ofNat_of_zero_le (show 0 ≤ zA by omega)
      have hA1 : 1 ≤ capA := by omega
      have hA40 : capA ≤ 40 := by omega
      by_cases hz3 : zB < 1
      · have k3 := hHw8.cell_at (i := 3) (v := .int .i64 (capA : Int)) rfl
        have k4 := hHw8.cell_at (i := 4) (v := .int .i64 zB) rfl
        obtain ⟨rfl, rfl⟩ := HNB.out.1 (.inl hz3)
        obtain ⟨rfl, _, _, _, rfl, _⟩ := HNA.out.2 capA rfl hA1 hA40 (not_mem_app H0.out.2.2.1 H0.out.1)
        clear HNA HNB
        go_wp2_with fail
        go_ret
        exact ⟨rfl, hTw8⟩
      · by_cases hz4 : 40 < zB
        · have k3 := hHw8.cell_at (i := 3) (v := .int .i64 (capA : Int)) rfl
          have k4 := hHw8.cell_at (i := 4) (v := .int .i64 zB) rfl
          obtain ⟨rfl, rfl⟩ := HNB.out.1 (.inr (.inl hz4))
          obtain ⟨rfl, _, _, _, rfl, _⟩ := HNA.out.2 capA rfl hA1 hA40 (not_mem_app H0.out.2.2.1 H0.out.1)
          clear HNA HNB
          go_wp2_with fail
          go_ret
          exact ⟨rfl, hTw8⟩
        · obtain ⟨capB, rfl⟩ := Int.eq_ofNat_of_zero_le (show 0 ≤ zB by omega)
          have hB1 : 1 ≤ capB := by omega
          have hB40 : capB ≤ 40 := by omega
          obtain ⟨rfl, g1', ga1, d1, rfl, hs5⟩ := HNA.out.2 capA rfl hA1 hA40 (not_mem_app H0.out.2.2.1 H0.out.1)
          obtain ⟨rfl, g2', ga2, d2, rfl, hs8⟩ := HNB.out.2 capB rfl hB1 hB40 (not_mem_app H0.out.2.2.1 H0.out.2.1)
          clear HNA HNB
          have hs58 := hs5.below hSw8
          obtain ⟨N, hN⟩ : ∃ N, N = min capA capB := ⟨_, rfl⟩
          have HN := Lib.hid hN
          clear hN
          have hN1 : 1 ≤ N := by have := HN.out; omega
          have hN40 : N ≤ 40 := by have := HN.out; omega
          have hmn : ∀ w, (Builtin.min_ #[3, 3] 3 #[.int .i64 (capA : Int), .int .i64 (capB : Int)]).run Try.prog w = .ok (.int .i64 (N : Int)) w := fun w => by
            rw [run_min_int2]
            congr 2
            have := HN.out
            split <;> omega
          have HMN := Lib.hid hmn
          clear hmn
          go_upto_region 10 with (first
            | (go_at_call 19; refine (with_ok _ g1' ga1 capA d1 _ g2' ga2 capB d2 N _ _ w8 hs58 hs8 HN).mono ?_; rintro e w9 ⟨⟨g, ga, d, rfl, hs9⟩, hB9⟩; have hT9 := hTw8.trans (hB9.mono hTw8.size); have hH9 := hHw8.under hB9 hHw8.lt))
          obtain ⟨L, hL⟩ : ∃ L, L = Sk.both N capA capB (lC ++ lA) (lC ++ lB) := ⟨_, rfl⟩
          have hs9' : SkA w8.heap.size w9 g ga N d L := by rw [hL]; exact hs9
          have HLL := Lib.hid hL
          clear hL hs9 hs58 hs5 hs8
          go_cut [111] from 100 (fun v wx => v = .bool false ∧ Below w9.heap.size w9 wx)
          case first =>
            have hHd := hH9.draw
            have hsd := hs9'.draw
            refine wp_region_held_drew (S := Held w9.drew) (by kernel_rfl) (Held.refl _) (fun hHeld => ?_)
            refine take_at (v := ?_) 0 100 rfl rfl (by kernel_rfl) (by kernel_rfl) (by kernel_rfl) (fun _ _ _ h => h) hHeld (Or.inl ⟨by rfl, ?_⟩) rfl ?_
            rotate_left
            · intro wq hSw
              go_simp
              try with_reducible rfl
            simp only [List.set_cons_zero, List.set_cons_succ]
            refine take_at (v := ?_) 1 101 rfl rfl (by kernel_rfl) (by kernel_rfl) (by kernel_rfl) (fun _ _ _ h => h) hHeld (Or.inl ⟨by rfl, ?_⟩) rfl ?_
            rotate_left
            · intro wq hSw
              go_simp
              try with_reducible rfl
            simp only [List.set_cons_zero, List.set_cons_succ]
            refine take_at (v := ?_) 2 102 rfl rfl (by kernel_rfl) (by kernel_rfl) (by kernel_rfl) (fun _ _ _ h => h) hHeld (Or.inl ⟨by rfl, ?_⟩) rfl ?_
            rotate_left
            · intro wq hSw
              go_simp
              try with_reducible rfl
            simp only [List.set_cons_zero, List.set_cons_succ]
            refine take_at (v := ?_) 3 103 rfl rfl (by kernel_rfl) (by kernel_rfl) (by kernel_rfl) (fun _ _ _ h => h) hHeld (Or.inl ⟨by rfl, ?_⟩) rfl ?_
            rotate_left
            · intro wq hSw
              go_simp
              try with_reducible rfl
            simp only [List.set_cons_zero, List.set_cons_succ]
            refine take_at (v := ?_) 5 105 rfl rfl (by kernel_rfl) (by kernel_rfl) (by kernel_rfl) (fun _ _ _ h => h) hHeld (Or.inl ⟨by rfl, ?_⟩) rfl ?_
            rotate_left
            · intro wq hSw
              go_simp
              try with_reducible rfl
            simp only [List.set_cons_zero, List.set_cons_succ]
            refine take_at (v := ?_) 6 106 rfl rfl (by kernel_rfl) (by kernel_rfl) (by kernel_rfl) (fun _ _ _ h => h) hHeld (Or.inl ⟨by rfl, ?_⟩) rfl ?_
            rotate_left
            · intro wq hSw
              have hst := (hHd.under hSw hHd.lt).cell_at (i := 3) (v := .int .i64 (capA : Int)) rfl
              go_simp
              try with_reducible rfl
            simp only [List.set_cons_zero, List.set_cons_succ]
            refine take_at (v := ?_) 7 107 rfl rfl (by kernel_rfl) (by kernel_rfl) (by kernel_rfl) (fun _ _ _ h => h) hHeld (Or.inl ⟨by rfl, ?_⟩) rfl ?_
            rotate_left
            · intro wq hSw
              go_simp
              try with_reducible rfl
            simp only [List.set_cons_zero, List.set_cons_succ]
            refine take_at (v := ?_) 8 108 rfl rfl (by kernel_rfl) (by kernel_rfl) (by kernel_rfl) (fun _ _ _ h => h) hHeld (Or.inl ⟨by rfl, ?_⟩) rfl ?_
            rotate_left
            · intro wq hSw
              have hst := (hHd.under hSw hHd.lt).cell_at (i := 4) (v := .int .i64 (capB : Int)) rfl
              go_simp
              try with_reducible rfl
            simp only [List.set_cons_zero, List.set_cons_succ]
            refine take_at (v := .int .i64 (N : Int)) 9 109 rfl rfl (by kernel_rfl) (by kernel_rfl) (by kernel_rfl) (fun _ _ _ h => h) hHeld (Or.inl ⟨by rfl, ?_⟩) rfl ?_
            · intro wq hSw
              have hst := HMN.out wq
              go_simp
              skip
            simp only [List.set_cons_zero, List.set_cons_succ]
            refine wpAnyH_ready (rs := [4]) (by kernel_rfl) (by simp) ?_
            refine AllReadyH.cons rfl (fun K hK => ?_) AllReadyH.nil
            go_simp
            go_at_call 13; refine (capacity_any _ g ga N d _ w9.drew hsd).mono ?_; rintro e wk ⟨rfl, rfl⟩
            refine hK.out _ _ hHeld (fun _ => ?_)
            clear hK K
            try simp only [Act.put, List.setIfInBounds_toArray, List.set_cons_zero, List.set_cons_succ]
            refine take_at (v := ?_) 10 110 rfl rfl (by kernel_rfl) (by kernel_rfl) (by kernel_rfl) (fun _ _ _ h => h) hHeld (Or.inl ⟨by rfl, ?_⟩) rfl ?_
            rotate_left
            · intro wq hSw
              go_simp
              try with_reducible rfl
            simp only [List.set_cons_zero, List.set_cons_succ]
            refine take_at (v := ?_) 11 111 rfl rfl (by kernel_rfl) (by kernel_rfl) (by kernel_rfl) (fun _ _ _ h => h) hHeld (Or.inl ⟨by rfl, ?_⟩) rfl ?_
            rotate_left
            · intro wq hSw
              go_simp
              try with_reducible rfl
            simp only [List.set_cons_zero, List.set_cons_succ]
            refine wpAnyH_done (by kernel_rfl) ?_ _
            go_wp2_with fail
            go_meet
            case rel => exact ⟨rfl, (Below.refl _ _).drew⟩
          case rest =>
            obtain ⟨rfl, hB10⟩ := hcut
            obtain ⟨w10, hw10⟩ : ∃ w10, w10 = wc := ⟨_, rfl⟩
            rw [← hw10] at hB10 ⊢
            clear hw10
            have hT10 := hT9.trans (hB10.mono hT9.size)
            have hH10 := hH9.under hB10 hH9.lt
            have hs10 := hs9'.below hB10
            clear HMN
            go_upto_region 12 with fail
            have hHd := hH10.draw
            have hTd := hT10.drew
            have hwA := (hA.below hT10).draw
            have hwB := (hB.below hT10).draw
            have hdw : Below w10.heap.size w10 w10.drew := (Below.refl _ _).drew
            refine wp_region_held_drew (S := Held w10.drew) (by kernel_rfl) (Held.refl _) (fun hHeld => ?_)
            obtain ⟨wd', hwd⟩ : ∃ x, x = w10.drew := ⟨_, rfl⟩
            rw [← hwd] at hHd hTd hwA hwB hdw hHeld ⊢
            clear hwd
            refine take_at (v := ?_) 1 113 rfl rfl (by kernel_rfl) (by kernel_rfl) (by kernel_rfl) (fun _ _ _ h => h) hHeld (Or.inl ⟨by rfl, ?_⟩) rfl ?_
            rotate_left
            · intro wq hSw
              go_simp
              try with_reducible rfl
            simp only [List.set_cons_zero, List.set_cons_succ]
            refine take_at (v := ?_) 2 114 rfl rfl (by kernel_rfl) (by kernel_rfl) (by kernel_rfl) (fun _ _ _ h => h) hHeld (Or.inl ⟨by rfl, ?_⟩) rfl ?_
            rotate_left
            · intro wq hSw
              have hst := (hHd.under hSw hHd.lt).cell_at (i := 0) (v := .slice aA nA cA) rfl
              go_simp
              try with_reducible rfl
            simp only [List.set_cons_zero, List.set_cons_succ]
            refine take_at (v := ?_) 4 116 rfl rfl (by kernel_rfl) (by kernel_rfl) (by kernel_rfl) (fun _ _ _ h => h) hHeld (Or.inl ⟨by rfl, ?_⟩) rfl ?_
            rotate_left
            · intro wq hSw
              go_simp
              try with_reducible rfl
            simp only [List.set_cons_zero, List.set_cons_succ]
            refine take_at (v := ?_) 5 117 rfl rfl (by kernel_rfl) (by kernel_rfl) (by kernel_rfl) (fun _ _ _ h => h) hHeld (Or.inl ⟨by rfl, ?_⟩) rfl ?_
            rotate_left
            · intro wq hSw
              have hst := (hHd.under hSw hHd.lt).cell_at (i := 1) (v := .slice aB nB cB) rfl
              go_simp
              try with_reducible rfl
            simp only [List.set_cons_zero, List.set_cons_succ]
            refine wpAnyH_ready (rs := [0]) (by kernel_rfl) (by simp) ?_
            refine AllReadyH.cons rfl (fun K hK => ?_) AllReadyH.nil
            go_simp
            skip
            refine hK.out _ _ (Held.of ((Below.refl wd'.heap.size wd').alloc (Nat.le_refl _) (.cells #[] 54))) (fun _ => ?_)
            clear hK K
            try simp only [Act.put, List.setIfInBounds_toArray, List.set_cons_zero, List.set_cons_succ]
            replace hHeld := Held.of ((Below.refl wd'.heap.size wd').alloc (Nat.le_refl _) (.cells #[] 54))
            have hoE : OwnW 54 wd'.heap.size (wd'.alloc (.cells #[] 54)) (.slice (some ⟨wd'.heap.size, 0, none⟩) 0 0) [] := OwnW.empty (Nat.le_refl _) (Has.fresh wd' _ _)
            refine wpAnyH_ready (rs := [3]) (by kernel_rfl) (by simp) ?_
            refine AllReadyH.cons rfl (fun K hK => ?_) AllReadyH.nil
            refine step_append_words rfl (.tmp 112) (.tmp 114) 22 rfl 54 Try.underlying22 info_word wd'.heap.size _ [] (by simp [Act.eval]) hoE aA nA cA lA (by simp [Act.eval]) (hwA.past _) hcA (by have := H0.out.2.2.2; simp; omega) (by simp) ?_
            intro va wa3 ho3 hg3
            rw [List.nil_append] at ho3
            have hB3 : Below wd'.heap.size wd' wa3 := below_own_row ((Below.refl wd'.heap.size wd').alloc (Nat.le_refl _) _) hg3 hoE.lt
            refine hK.out _ _ (Held.of hB3) (fun _ => ?_)
            clear hK K
            try simp only [Act.put]
            try simp only [List.setIfInBounds_toArray]
            try simp only [List.set_cons_zero, List.set_cons_succ]
            replace hHeld := Held.of hB3
            refine wpAnyH_ready (rs := [6]) (by kernel_rfl) (by simp) ?_
            refine AllReadyH.cons rfl (fun K hK => ?_) AllReadyH.nil
            refine step_append_words rfl (.tmp 115) (.tmp 117) 22 rfl 54 Try.underlying22 info_word wd'.heap.size _ lA (by simp [Act.eval]) ho3 aB nB cB lB (by simp [Act.eval]) (hwB.below hB3) hcB (by have := H0.out.2.2.2; omega) hB3.size ?_
            intro vb wb3 ho4 hg4
            have hB4 : Below wd'.heap.size wd' wb3 := below_own_row hB3 hg4 ho3.lt
            obtain ⟨m, hm⟩ : ∃ m, (lA ++ lB).length = m := ⟨_, rfl⟩
            obtain ⟨xo, yo, rfl, _, _, hxo⟩ := fresh_shapeK ho4.fresh hm
            refine hK.out _ _ (Held.of hB4) (fun _ => ?_)
            clear hK K
            try simp only [Act.put]
            try simp only [List.setIfInBounds_toArray]
            try simp only [List.set_cons_zero, List.set_cons_succ]
            replace hHeld := Held.of hB4
            refine wpAnyH_ready (rs := [7]) (by kernel_rfl) (by simp) ?_
            refine AllReadyH.cons rfl (fun K hK => ?_) AllReadyH.nil
            go_simp
            go_at_call 20; refine (sorted5_any xo m yo (lA ++ lB) wb3 hxo (by rw [← hm, List.length_append]; have := H0.out.2.2.2; omega)).mono ?_; rintro e w11 ⟨⟨vd, rfl, hod⟩, hB5⟩; obtain ⟨DD, hDD⟩ : ∃ DD, DD = Sk.odds [] (lA ++ lB) := ⟨_, rfl⟩; rw [← hDD] at hod; obtain ⟨mD, hmD⟩ : ∃ mD, DD.length = mD := ⟨_, rfl⟩; obtain ⟨aD, cD, rfl, _, _, hwD⟩ := fresh_shapeK hod.fresh hmD; have HDD := Lib.hid (And.intro hDD hmD); clear hDD hmD; have hBn := hB4.trans (hB5.mono hB4.size)
            refine hK.out _ _ (Held.of hBn) (fun _ => ?_)
            clear hK K
            try simp only [Act.put, List.setIfInBounds_toArray, List.set_cons_zero, List.set_cons_succ]
            replace hHeld := Held.of hBn
            refine take_at (v := ?_) 8 8 rfl rfl (by kernel_rfl) (by kernel_rfl) (by kernel_rfl) (fun _ _ _ h => h) hHeld (Or.inl ⟨by rfl, ?_⟩) rfl ?_
            rotate_left
            · intro wq hSw
              go_simp
              try with_reducible rfl
            simp only [List.set_cons_zero, List.set_cons_succ]
            refine wpAnyH_done (by kernel_rfl) ?_ _
            have hT11 := hTd.trans (hBn.mono hTd.size)
            have hs11 := hs10.below (hdw.trans (hBn.mono hdw.size))
            clear hHeld hxo ho4 hg4 ho3 hg3 hoE hwA hwB hHd hTd hB3 hB4 hB5 hBn hm hdw
            by_cases hle : mD ≤ N
            · have hlei : (mD : Int) ≤ (N : Int) := by omega
              have hIs : Sk.Is L DD := by rw [HLL.out, HDD.out.1]; exact Sk.both_is HN.out H0.out.1 H0.out.2.1 (by rw [← HDD.out.1, HDD.out.2]; exact hle)
              have HIS := Lib.hid hIs
              clear hIs
              go_wp2_with (first
                | (go_at_call 10; refine (words_same ai aD mD ci mD cD DD DD w12 hwi (hwD.below hB12) rfl).mono ?_; rintro e wk ⟨rfl, hdk⟩; have hTk := hT12.trans (hdk.below _))
                | (go_at_call 13; refine (capacity_any _ g ga N d _ w12 hs12).mono ?_; rintro e wk ⟨rfl, rfl⟩)
                | (go_at_call 21; refine (sdec_ok _ g ga N d L DD w11 hs11 HIS.out).mono ?_; rintro e w12 ⟨⟨vi, rfl, hvi⟩, hB12⟩; obtain ⟨ai, ci, rfl, _, _, hwi⟩ := fresh_shapeK hvi HDD.out.2; have hT12 := hT11.trans (hB12.mono hT11.size); have hs12 := hs11.below hB12))
              go_ret
              exact ⟨rfl, hTk⟩
            · have hlei : ¬ (mD : Int) ≤ (N : Int) := by omega
              by_cases hex : ∃ A', Sk.Is L A'
              · obtain ⟨A', hA'⟩ := hex
                obtain ⟨mI, hmI⟩ : ∃ mI, A'.length = mI := ⟨_, rfl⟩
                have hlL : L.length = N := by rw [HLL.out]; exact Sk.both_len _ _ _ _ _
                have hmN : mI ≤ N := by have := hA'.le; omega
                have hmNi : (mI : Int) ≤ (N : Int) := by omega
                have hsy : Sk.syn N A' = L := Sk.syn_is hA' hlL
                obtain ⟨m4, hm4⟩ : ∃ m4, (bytes8 L).length = m4 := ⟨_, rfl⟩
                have HIS := Lib.hid (And.intro hA' (And.intro hmI (And.intro hsy (And.intro hm4 (show ¬ (0 : BitVec 32) ∈ A' from fun h => hA'.ne 0 h rfl)))))
                clear hA' hmI hsy hm4 hlL
                go_upto_region 19 with (first
                | (go_at_call 8; refine (new_ok N hN1 hN40 ai mI ci A' w12 hwi HIS.out.2.2.2.2).mono ?_; rw [HIS.out.2.2.1]; rintro e w13 ⟨⟨g3, ga3, d3, rfl, hs13⟩, hB13⟩; have hT13 := hT12.trans (hB13.mono hT12.size); have hs13' := hs12.below hB13)
                | (go_at_call 13; refine (capacity_any _ g ga N d _ w12 hs12).mono ?_; rintro e wk ⟨rfl, rfl⟩)
                | (go_at_call 21; refine (sdec_ok _ g ga N d L A' w11 hs11 HIS.out.1).mono ?_; rintro e w12 ⟨⟨vi, rfl, hvi⟩, hB12⟩; obtain ⟨ai, ci, rfl, _, _, hwi⟩ := fresh_shapeK hvi HIS.out.2.1; have hT12 := hT11.trans (hB12.mono hT11.size); have hs12 := hs11.below hB12))
                have hcd := hs13.draw
                have hsd := hs13'.draw
                have hTd := hT13.drew
                refine wp_region_held_drew (S := Held w13.drew) (by kernel_rfl) (Held.refl _) (fun hHeld => ?_)
                refine take_at (v := ?_) 0 153 rfl rfl (by kernel_rfl) (by kernel_rfl) (by kernel_rfl) (fun _ _ _ h => h) hHeld (Or.inl ⟨by rfl, ?_⟩) rfl ?_
                rotate_left
                · intro wq hSw
                  go_simp
                  try with_reducible rfl
                simp only [List.set_cons_zero, List.set_cons_succ]
                refine take_at (v := ?_) 1 154 rfl rfl (by kernel_rfl) (by kernel_rfl) (by kernel_rfl) (fun _ _ _ h => h) hHeld (Or.inl ⟨by rfl, ?_⟩) rfl ?_
                rotate_left
                · intro wq hSw
                  go_simp
                  try with_reducible rfl
                simp only [List.set_cons_zero, List.set_cons_succ]
                refine take_at (v := ?_) 2 155 rfl rfl (by kernel_rfl) (by kernel_rfl) (by kernel_rfl) (fun _ _ _ h => h) hHeld (Or.inl ⟨by rfl, ?_⟩) rfl ?_
                rotate_left
                · intro wq hSw
                  go_simp
                  try with_reducible rfl
                simp only [List.set_cons_zero, List.set_cons_succ]
                refine take_at (v := ?_) 3 156 rfl rfl (by kernel_rfl) (by kernel_rfl) (by kernel_rfl) (fun _ _ _ h => h) hHeld (Or.inl ⟨by rfl, ?_⟩) rfl ?_
                rotate_left
                · intro wq hSw
                  go_simp
                  try with_reducible rfl
                simp only [List.set_cons_zero, List.set_cons_succ]
                refine take_at (v := ?_) 4 157 rfl rfl (by kernel_rfl) (by kernel_rfl) (by kernel_rfl) (fun _ _ _ h => h) hHeld (Or.inl ⟨by rfl, ?_⟩) rfl ?_
                rotate_left
                · intro wq hSw
                  go_simp
                  try with_reducible rfl
                simp only [List.set_cons_zero, List.set_cons_succ]
                refine take_at (v := ?_) 5 158 rfl rfl (by kernel_rfl) (by kernel_rfl) (by kernel_rfl) (fun _ _ _ h => h) hHeld (Or.inl ⟨by rfl, ?_⟩) rfl ?_
                rotate_left
                · intro wq hSw
                  go_simp
                  try with_reducible rfl
                simp only [List.set_cons_zero, List.set_cons_succ]
                refine wpAnyH_ready (rs := [6]) (by kernel_rfl) (by simp) ?_
                refine AllReadyH.cons rfl (fun K hK => ?_) AllReadyH.nil
                go_simp
                go_at_call 13; refine (capacity_any _ g ga N d _ w13.drew hsd).mono ?_; rintro e wk ⟨rfl, rfl⟩
                refine hK.out _ _ hHeld (fun _ => ?_)
                clear hK K
                try simp only [Act.put, List.setIfInBounds_toArray, List.set_cons_zero, List.set_cons_succ]
                refine take_at (v := ?_) 7 160 rfl rfl (by kernel_rfl) (by kernel_rfl) (by kernel_rfl) (fun _ _ _ h => h) hHeld (Or.inl ⟨by rfl, ?_⟩) rfl ?_
                rotate_left
                · intro wq hSw
                  go_simp
                  try with_reducible rfl
                simp only [List.set_cons_zero, List.set_cons_succ]
                refine take_at (v := ?_) 8 161 rfl rfl (by kernel_rfl) (by kernel_rfl) (by kernel_rfl) (fun _ _ _ h => h) hHeld (Or.inl ⟨by rfl, ?_⟩) rfl ?_
                rotate_left
                · intro wq hSw
                  go_simp
                  try with_reducible rfl
                simp only [List.set_cons_zero, List.set_cons_succ]
                refine take_at (v := ?_) 9 162 rfl rfl (by kernel_rfl) (by kernel_rfl) (by kernel_rfl) (fun _ _ _ h => h) hHeld (Or.inl ⟨by rfl, ?_⟩) rfl ?_
                rotate_left
                · intro wq hSw
                  go_simp
                  try with_reducible rfl
                simp only [List.set_cons_zero, List.set_cons_succ]
                refine take_at (v := ?_) 10 163 rfl rfl (by kernel_rfl) (by kernel_rfl) (by kernel_rfl) (fun _ _ _ h => h) hHeld (Or.inl ⟨by rfl, ?_⟩) rfl ?_
                rotate_left
                · intro wq hSw
                  go_simp
                  try with_reducible rfl
                simp only [List.set_cons_zero, List.set_cons_succ]
                refine take_at (v := ?_) 13 166 rfl rfl (by kernel_rfl) (by kernel_rfl) (by kernel_rfl) (fun _ _ _ h => h) hHeld (Or.inl ⟨by rfl, ?_⟩) rfl ?_
                rotate_left
                · intro wq hSw
                  go_simp
                  try with_reducible rfl
                simp only [List.set_cons_zero, List.set_cons_succ]
                refine wpAnyH_ready (rs := [11]) (by kernel_rfl) (by simp) ?_
                refine AllReadyH.cons rfl (fun K hK => ?_) AllReadyH.nil
                go_simp
                go_at_call 14; refine (sbytes_any _ g3 ga3 N d3 _ w13.drew (hcd)).mono ?_; rintro e w14 ⟨⟨b4, rfl, hb4⟩, hB14⟩; obtain ⟨x4, y4, rfl, _, _, hx4⟩ := hb4.shape HIS.out.2.2.2.1
                refine hK.out _ _ (Held.of hB14) (fun _ => ?_)
                clear hK K
                try simp only [Act.put, List.setIfInBounds_toArray, List.set_cons_zero, List.set_cons_succ]
                refine held_grow (w1 := w14) (Held.of hB14) ?_
                clear hHeld
                have hHeld : Held w14 w14 := Held.refl _
                refine take_at (v := ?_) 12 165 rfl rfl (by kernel_rfl) (by kernel_rfl) (by kernel_rfl) (fun _ _ _ h => h) hHeld (Or.inl ⟨by rfl, ?_⟩) rfl ?_
                rotate_left
                · intro wq hSw
                  have hst := run_string (P := Try.prog) 23 9 5 Try.underlying23 Try.underlying5 Try.underlying9 (c := y4) (hx4.below hSw)
                  go_simp
                  try with_reducible rfl
                simp only [List.set_cons_zero, List.set_cons_succ]
                refine wpAnyH_ready (rs := [14]) (by kernel_rfl) (by simp) ?_
                refine AllReadyH.cons rfl (fun K hK => ?_) AllReadyH.nil
                go_simp
                go_at_call 14; refine (sbytes_any _ g ga N d _ w14 (hsd.below hB14)).mono ?_; rintro e w15 ⟨⟨b5, rfl, hb5⟩, hB15⟩; obtain ⟨x5, y5, rfl, _, _, hx5⟩ := hb5.shape HIS.out.2.2.2.1
                refine hK.out _ _ (Held.of hB15) (fun _ => ?_)
                clear hK K
                try simp only [Act.put, List.setIfInBounds_toArray, List.set_cons_zero, List.set_cons_succ]
                refine held_grow (w1 := w15) (Held.of hB15) ?_
                clear hHeld
                have hHeld : Held w15 w15 := Held.refl _
                refine take_at (v := ?_) 15 168 rfl rfl (by kernel_rfl) (by kernel_rfl) (by kernel_rfl) (fun _ _ _ h => h) hHeld (Or.inl ⟨by rfl, ?_⟩) rfl ?_
                rotate_left
                · intro wq hSw
                  have hst := run_string (P := Try.prog) 23 9 5 Try.underlying23 Try.underlying5 Try.underlying9 (c := y5) (hx5.below hSw)
                  go_simp
                  try with_reducible rfl
                simp only [List.set_cons_zero, List.set_cons_succ]
                refine take_at (v := ?_) 16 169 rfl rfl (by kernel_rfl) (by kernel_rfl) (by kernel_rfl) (fun _ _ _ h => h) hHeld (Or.inl ⟨by rfl, ?_⟩) rfl ?_
                rotate_left
                · intro wq hSw
                  go_simp
                  try with_reducible rfl
                simp only [List.set_cons_zero, List.set_cons_succ]
                refine take_at (v := ?_) 17 170 rfl rfl (by kernel_rfl) (by kernel_rfl) (by kernel_rfl) (fun _ _ _ h => h) hHeld (Or.inl ⟨by rfl, ?_⟩) rfl ?_
                rotate_left
                · intro wq hSw
                  go_simp
                  try with_reducible rfl
                simp only [List.set_cons_zero, List.set_cons_succ]
                refine take_at (v := ?_) 18 2 rfl rfl (by kernel_rfl) (by kernel_rfl) (by kernel_rfl) (fun _ _ _ h => h) hHeld (Or.inl ⟨by rfl, ?_⟩) rfl ?_
                rotate_left
                · intro wq hSw
                  go_simp
                  try with_reducible rfl
                simp only [List.set_cons_zero, List.set_cons_succ]
                refine wpAnyH_done (by kernel_rfl) ?_ _
                have hBx := hB14.trans (hB15.mono hB14.size)
                go_wp2_with fail
                go_ret
                exact ⟨rfl, hTd.trans (hBx.mono hTd.size)⟩
              · have hno : ∀ A', ¬ Sk.Is L A' := fun A' h => hex ⟨A', h⟩
                have HNO := Lib.hid hno
                clear hno hex
                go_wp2_with (first
                | (go_at_call 12; refine (is_err 13 rfl _).mono ?_; rintro e wk ⟨rfl, rfl⟩)
                | (go_at_call 13; refine (capacity_any _ g ga N d _ w12 hs12).mono ?_; rintro e wk ⟨rfl, rfl⟩)
                | (go_at_call 21; refine (sdec_no _ g ga N d L w11 hs11 HNO.out).mono ?_; rintro e w12 ⟨rfl, hB12⟩; have hT12 := hT11.trans (hB12.mono hT11.size); have hs12 := hs11.below hB12))
                go_ret
                exact ⟨rfl, hT12⟩
set_option maxRecDepth 100000 in
set_option maxHeartbeats 16000000 in
theorem differsShort (W : World) (aA : Option Addr) (nA cA : Nat) (lA : List (BitVec 32)) (hA : Words32 W aA nA lA) (aB : Option Addr) (nB cB : Nat) (lB : List (BitVec 32)) (hB : Words32 W aB nB lB) (aC : Option Addr) (nC cC : Nat) (lC : List (BitVec 32)) (hC : Words32 W aC nC lC)
    (zA : Int) (zB : Int) (hbad : (24 : Int) < nA ∨ (24 : Int) < nB ∨ (24 : Int) < nC ∨ (0 : BitVec 32) ∈ lA ∨ (0 : BitVec 32) ∈ lB ∨ (0 : BitVec 32) ∈ lC) :
    Calls Try.prog 4 #[.agg #[.slice aA nA cA, .slice aB nB cB, .slice aC nC cC, .int .i64 zA, .int .i64 zB]] W fun e w' => e = .returned (.bool true) ∧ Below W.heap.size W w' := by
  have hmA : nA ≤ 9223372036854775807 := hA.2.1
  have hmB : nB ≤ 9223372036854775807 := hB.2.1
  have hmC : nC ≤ 9223372036854775807 := hC.2.1
  have HBAD := Lib.hid hbad
  clear hbad
  by_cases q1 : (24 : Int) < (nA : Int)
  · go_enter Try.func4, Try.ntmps4
    go_upto_region 1 with fail
    obtain ⟨W1, hW1⟩ : ∃ x, x = W.alloc (.cells #[.slice aA nA cA, .slice aB nB cB, .slice aC nC cC, .int .i64 zA, .int .i64 zB] 43) := ⟨_, rfl⟩
    rw [← hW1]
    have hH1 : Has W1 W.heap.size 43 (setCells aA nA cA aB nB cB aC nC cC zA zB) := by rw [hW1]; exact Has.fresh _ _ _
    have hT1 : Below W.heap.size W W1 := by rw [hW1]; exact (Below.refl _ _).alloc (Nat.le_refl _) _
    clear hW1
    go_wp2_with (first
        | (go_at_call 7; refine (alive05 W1).mono ?_; rintro e w2 ⟨rfl, hb2⟩; have hH2 := hH1.under hb2 hH1.lt; have hT2 := hT1.trans (hb2.mono hT1.size); have k0 := hH2.cell_at (i := 0) (v := .slice aA nA cA) rfl; have k1 := hH2.cell_at (i := 1) (v := .slice aB nB cB) rfl; have k2 := hH2.cell_at (i := 2) (v := .slice aC nC cC) rfl))
    go_ret
    exact ⟨rfl, hT2⟩
  · by_cases q2 : (24 : Int) < (nB : Int)
    · go_enter Try.func4, Try.ntmps4
      go_upto_region 1 with fail
      obtain ⟨W1, hW1⟩ : ∃ x, x = W.alloc (.cells #[.slice aA nA cA, .slice aB nB cB, .slice aC nC cC, .int .i64 zA, .int .i64 zB] 43) := ⟨_, rfl⟩
      rw [← hW1]
      have hH1 : Has W1 W.heap.size 43 (setCells aA nA cA aB nB cB aC nC cC zA zB) := by rw [hW1]; exact Has.fresh _ _ _
      have hT1 : Below W.heap.size W W1 := by rw [hW1]; exact (Below.refl _ _).alloc (Nat.le_refl _) _
      clear hW1
      go_wp2_with (first
          | (go_at_call 7; refine (alive05 W1).mono ?_; rintro e w2 ⟨rfl, hb2⟩; have hH2 := hH1.under hb2 hH1.lt; have hT2 := hT1.trans (hb2.mono hT1.size); have k0 := hH2.cell_at (i := 0) (v := .slice aA nA cA) rfl; have k1 := hH2.cell_at (i := 1) (v := .slice aB nB cB) rfl; have k2 := hH2.cell_at (i := 2) (v := .slice aC nC cC) rfl))
      go_ret
      exact ⟨rfl, hT2⟩
    · by_cases q3 : (24 : Int) < (nC : Int)
      · go_enter Try.func4, Try.ntmps4
        go_upto_region 1 with fail
        obtain ⟨W1, hW1⟩ : ∃ x, x = W.alloc (.cells #[.slice aA nA cA, .slice aB nB cB, .slice aC nC cC, .int .i64 zA, .int .i64 zB] 43) := ⟨_, rfl⟩
        rw [← hW1]
        have hH1 : Has W1 W.heap.size 43 (setCells aA nA cA aB nB cB aC nC cC zA zB) := by rw [hW1]; exact Has.fresh _ _ _
        have hT1 : Below W.heap.size W W1 := by rw [hW1]; exact (Below.refl _ _).alloc (Nat.le_refl _) _
        clear hW1
        go_wp2_with (first
            | (go_at_call 7; refine (alive05 W1).mono ?_; rintro e w2 ⟨rfl, hb2⟩; have hH2 := hH1.under hb2 hH1.lt; have hT2 := hT1.trans (hb2.mono hT1.size); have k0 := hH2.cell_at (i := 0) (v := .slice aA nA cA) rfl; have k1 := hH2.cell_at (i := 1) (v := .slice aB nB cB) rfl; have k2 := hH2.cell_at (i := 2) (v := .slice aC nC cC) rfl))
        go_ret
        exact ⟨rfl, hT2⟩
      · by_cases m : (0 : BitVec 32) ∈ lA
        · have MA := Lib.hid m
          clear m
          go_enter Try.func4, Try.ntmps4
          go_upto_region 1 with fail
          obtain ⟨W1, hW1⟩ : ∃ x, x = W.alloc (.cells #[.slice aA nA cA, .slice aB nB cB, .slice aC nC cC, .int .i64 zA, .int .i64 zB] 43) := ⟨_, rfl⟩
          rw [← hW1]
          have hH1 : Has W1 W.heap.size 43 (setCells aA nA cA aB nB cB aC nC cC zA zB) := by rw [hW1]; exact Has.fresh _ _ _
          have hT1 : Below W.heap.size W W1 := by rw [hW1]; exact (Below.refl _ _).alloc (Nat.le_refl _) _
          clear hW1
          go_wp2_with (first
              | (go_at_call 16; (with_reducible refine (none5_any aA nA cA lA w2 (hA.below hT2) true ⟨fun _ => MA.out, fun _ => rfl⟩).mono ?_); rintro e wn ⟨rfl, rfl⟩)
              | (go_at_call 7; refine (alive05 W1).mono ?_; rintro e w2 ⟨rfl, hb2⟩; have hH2 := hH1.under hb2 hH1.lt; have hT2 := hT1.trans (hb2.mono hT1.size); have k0 := hH2.cell_at (i := 0) (v := .slice aA nA cA) rfl; have k1 := hH2.cell_at (i := 1) (v := .slice aB nB cB) rfl; have k2 := hH2.cell_at (i := 2) (v := .slice aC nC cC) rfl))
          go_ret
          exact ⟨rfl, hT2⟩
        · have MA := Lib.hid m
          clear m
          by_cases m : (0 : BitVec 32) ∈ lB
          · have MB := Lib.hid m
            clear m
            go_enter Try.func4, Try.ntmps4
            go_upto_region 1 with fail
            obtain ⟨W1, hW1⟩ : ∃ x, x = W.alloc (.cells #[.slice aA nA cA, .slice aB nB cB, .slice aC nC cC, .int .i64 zA, .int .i64 zB] 43) := ⟨_, rfl⟩
            rw [← hW1]
            have hH1 : Has W1 W.heap.size 43 (setCells aA nA cA aB nB cB aC nC cC zA zB) := by rw [hW1]; exact Has.fresh _ _ _
            have hT1 : Below W.heap.size W W1 := by rw [hW1]; exact (Below.refl _ _).alloc (Nat.le_refl _) _
            clear hW1
            go_wp2_with (first
                | (go_at_call 16; (with_reducible refine (none5_any aA nA cA lA w2 (hA.below hT2) false ⟨fun e => absurd e Bool.false_ne_true, fun e => absurd e (MA.out)⟩).mono ?_); rintro e wn ⟨rfl, rfl⟩)
                | (go_at_call 16; (with_reducible refine (none5_any aB nB cB lB w2 (hB.below hT2) true ⟨fun _ => MB.out, fun _ => rfl⟩).mono ?_); rintro e wn ⟨rfl, rfl⟩)
                | (go_at_call 7; refine (alive05 W1).mono ?_; rintro e w2 ⟨rfl, hb2⟩; have hH2 := hH1.under hb2 hH1.lt; have hT2 := hT1.trans (hb2.mono hT1.size); have k0 := hH2.cell_at (i := 0) (v := .slice aA nA cA) rfl; have k1 := hH2.cell_at (i := 1) (v := .slice aB nB cB) rfl; have k2 := hH2.cell_at (i := 2) (v := .slice aC nC cC) rfl))
            go_ret
            exact ⟨rfl, hT2⟩
          · have MB := Lib.hid m
            clear m
            by_cases m : (0 : BitVec 32) ∈ lC
            · have MC := Lib.hid m
              clear m
              go_enter Try.func4, Try.ntmps4
              go_upto_region 1 with fail
              obtain ⟨W1, hW1⟩ : ∃ x, x = W.alloc (.cells #[.slice aA nA cA, .slice aB nB cB, .slice aC nC cC, .int .i64 zA, .int .i64 zB] 43) := ⟨_, rfl⟩
              rw [← hW1]
              have hH1 : Has W1 W.heap.size 43 (setCells aA nA cA aB nB cB aC nC cC zA zB) := by rw [hW1]; exact Has.fresh _ _ _
              have hT1 : Below W.heap.size W W1 := by rw [hW1]; exact (Below.refl _ _).alloc (Nat.le_refl _) _
              clear hW1
              go_wp2_with (first
                  | (go_at_call 16; (with_reducible refine (none5_any aA nA cA lA w2 (hA.below hT2) false ⟨fun e => absurd e Bool.false_ne_true, fun e => absurd e (MA.out)⟩).mono ?_); rintro e wn ⟨rfl, rfl⟩)
                  | (go_at_call 16; (with_reducible refine (none5_any aB nB cB lB w2 (hB.below hT2) false ⟨fun e => absurd e Bool.false_ne_true, fun e => absurd e (MB.out)⟩).mono ?_); rintro e wn ⟨rfl, rfl⟩)
                  | (go_at_call 16; (with_reducible refine (none5_any aC nC cC lC w2 (hC.below hT2) true ⟨fun _ => MC.out, fun _ => rfl⟩).mono ?_); rintro e wn ⟨rfl, rfl⟩)
                  | (go_at_call 7; refine (alive05 W1).mono ?_; rintro e w2 ⟨rfl, hb2⟩; have hH2 := hH1.under hb2 hH1.lt; have hT2 := hT1.trans (hb2.mono hT1.size); have k0 := hH2.cell_at (i := 0) (v := .slice aA nA cA) rfl; have k1 := hH2.cell_at (i := 1) (v := .slice aB nB cB) rfl; have k2 := hH2.cell_at (i := 2) (v := .slice aC nC cC) rfl))
              go_ret
              exact ⟨rfl, hT2⟩
            · have MC := Lib.hid m
              clear m
              exact absurd HBAD.out (fun h => by rcases h with h | h | h | h | h | h <;> first | omega | exact MA.out h | exact MB.out h | exact MC.out h)
set_option maxRecDepth 100000 in
theorem sketchDiffersWalk {H : Type} {enc : TypeId × Value → H} (W : World) (base : Nat) (v0 : Value) (d0 : DataW H) (p0 : List MemPlace)
    (o0 : Value.okWide Try.prog W .any base 43 v0) (h0 : DataW.Trod enc Try.prog W 0 (fun _ => true) true 43 v0 d0 p0) :
    Calls Try.prog 4 #[v0] W fun e w' => e = .returned (.bool true) ∧ Below W.heap.size W w' := by
  obtain ⟨cs, rfl, hl, hf⟩ := arg_fields Try.underlying43 (by kernel_rfl) (by kernel_rfl) o0 h0
  match cs, hl with
  | [b0, b1, b2, b3, b4], _ =>
    obtain ⟨n0, y0, t0⟩ := hf 0 _ b0 rfl rfl
    obtain ⟨n1, y1, t1⟩ := hf 1 _ b1 rfl rfl
    obtain ⟨n2, y2, t2⟩ := hf 2 _ b2 rfl rfl
    obtain ⟨n3, y3, t3⟩ := hf 3 _ b3 rfl rfl
    obtain ⟨n4, y4, t4⟩ := hf 4 _ b4 rfl rfl
    obtain ⟨aA, nA, cA, lA, rfl, hA, _, hcA⟩ := field_words Try.underlying22 Try.underlying54 (by kernel_rfl) t0
    obtain ⟨aB, nB, cB, lB, rfl, hB, _, hcB⟩ := field_words Try.underlying22 Try.underlying54 (by kernel_rfl) t1
    obtain ⟨aC, nC, cC, lC, rfl, hC, _, hcC⟩ := field_words Try.underlying22 Try.underlying54 (by kernel_rfl) t2
    obtain ⟨zA, rfl, _⟩ := field_int Try.underlying3 t3
    obtain ⟨zB, rfl, _⟩ := field_int Try.underlying3 t4
    by_cases hbad : (24 : Int) < nA ∨ (24 : Int) < nB ∨ (24 : Int) < nC ∨ (0 : BitVec 32) ∈ lA ∨ (0 : BitVec 32) ∈ lB ∨ (0 : BitVec 32) ∈ lC
    · exact differsShort W aA nA cA lA hA aB nB cB lB hB aC nC cC lC hC zA zB hbad
    · exact differsMain W aA nA cA lA hA hcA aB nB cB lB hB hcB aC nC cC lC hC hcC zA zB (by omega) (by omega) (by omega)
        (fun h => hbad (.inr (.inr (.inr (.inl h))))) (fun h => hbad (.inr (.inr (.inr (.inr (.inl h)))))) (fun h => hbad (.inr (.inr (.inr (.inr (.inr h))))))
end Go.Proofs.Ytamigcbodplmcaa
