/- SipEnds over the premise -/
import Derived.Test.YtenoholdealphaaSiK
import Derived.Test.YtenoholdealphaaHe
import Derived.Test.YtenoholdealphaaFa
import Derived.Test.YtenoholdealphaaAz
import Derived.Deep.Cut
namespace Go.Proofs.Ytenoholdealphaa
open Go Go.RowKit Go.ChangeShapes Go.WideShapes
set_option maxRecDepth 100000 in
set_option maxHeartbeats 16000000 in
theorem endsMain (ok : SipOk) (W : World) (k0 k1 : BitVec 64) (ad : Option Addr) (n cp : Nat) (l : List (BitVec 8)) (z : Int) (hw : Bytes8 W ad n l) (hnc : n ≤ cp) (hc0 : ad = none → cp = 0) (hn : n ≤ 200) :
    Calls Try.prog 16 #[.int .u64 (nb64 k0), .int .u64 (nb64 k1), .slice ad n cp, .int .i64 z] W fun e w' => e = .returned (.bool true) ∧ Below W.heap.size W w' := by
  have g1 : ¬ (200 : Int) < (n : Int) := by omega
  obtain ⟨bz, hbz⟩ : ∃ bz : BitVec 64, IntKind.u64.wrap z = nb64 bz := by
    have h1 : 0 ≤ IntKind.u64.wrap z := by rw [IntKind.wrap_u64]; omega
    have h2 : IntKind.u64.wrap z < 18446744073709551616 := by rw [IntKind.wrap_u64]; omega
    exact u64_of_bounds h1 h2
  obtain ⟨r, hr⟩ : ∃ r : Nat, r = (bz % 7#64).toNat := ⟨_, rfl⟩
  have hr7 : r < 7 := by
    rw [hr, BitVec.toNat_umod]
    exact Nat.mod_lt _ (by decide)
  have hrw : IntKind.i64.wrap (nb64 (bz % 7#64)) = (r : Int) := by
    rw [show nb64 (bz % 7#64) = (r : Int) by rw [hr]; rfl]
    exact IntWalk.i64_in _ (by omega)
  obtain ⟨m, hm⟩ : ∃ m : Nat, m = r + 1 := ⟨_, rfl⟩
  have hm1 : (1 : Int) + (r : Int) = (m : Int) := by omega
  have hmw : IntKind.i64.wrap (m : Int) = (m : Int) := IntWalk.i64_in _ (by omega)
  have hmp : 0 < m := by omega
  have hm8 : m ≤ 7 := by omega
  have HL := Lib.hid (And.intro hw.1 (And.intro hr hm))
  clear hr hm
  go_enter Try.func16, Try.ntmps16
  go_upto_region 7 with (first | (go_at_call 7; refine (alive06 ok W).mono ?_; rintro e w2 ⟨rfl, hb2⟩))
  have hS3 : Has (w2.alloc (.cells #[.int .u64 (nb64 k0), .int .u64 (nb64 k1)] 27)) w2.heap.size 27 #[.int .u64 (nb64 k0), .int .u64 (nb64 k1)] := Has.fresh _ _ _
  have hT3 := hb2.alloc hb2.size (.cells #[.int .u64 (nb64 k0), .int .u64 (nb64 k1)] 27)
  generalize w2.alloc (.cells #[.int .u64 (nb64 k0), .int .u64 (nb64 k1)] 27) = w3 at hS3 hT3 ⊢
  obtain ⟨g, hg⟩ : ∃ g, g = w2.heap.size := ⟨_, rfl⟩
  rw [← hg] at hS3 ⊢
  clear hg
  have s0 : w3.cell? ⟨g, 0, none⟩ = some (.int .u64 (nb64 k0)) := hS3.cell_at rfl
  have s1 : w3.cell? ⟨g, 1, none⟩ = some (.int .u64 (nb64 k1)) := hS3.cell_at rfl
  obtain ⟨h0, hh0⟩ : ∃ h, h = Si.hash k0 k1 l := ⟨_, rfl⟩
  obtain ⟨h1, hh1⟩ : ∃ h, h = Si.hash k0 k1 (l ++ List.replicate m 0#8) := ⟨_, rfl⟩
  obtain ⟨n2, hn2⟩ : ∃ n2, (l ++ List.replicate m 0#8).length = n2 := ⟨_, rfl⟩
  have hn3 : n2 ≤ 300 := by rw [← hn2, List.length_append, List.length_replicate, hw.1]; omega
  have HH := Lib.hid (And.intro hh0 (And.intro hh1 hn2))
  clear hh0 hh1 hn2
  go_upto_region 8 with (first | (go_at_call 8; refine (ok.hash k0 k1 ad n cp l w3 (hw.below hT3) hnc (by omega)).mono ?_; rw [← HH.out.1]; rintro e w4 ⟨rfl, hb4⟩))
  have hS4 := (hS3.under hb4 hS3.lt).draw
  have hT4 := (hT3.trans (hb4.mono hT3.size)).drew
  have hw4 := hw.below hT4
  clear s0 s1
  by_cases hne : h0 = h1
  · subst hne
    refine wp_region_held_drew (S := Held w4.drew) (by kernel_rfl) (Held.refl _) (fun hHeld => ?_)
    obtain ⟨wd, hwd⟩ : ∃ x, x = w4.drew := ⟨_, rfl⟩
    rw [← hwd] at hS4 hT4 hw4 hHeld ⊢
    clear hwd
    have hCwd : Below wd.heap.size wd wd := Below.refl _ _
    refine take_at (v := ?_) 0 27 rfl rfl (by kernel_rfl) (by kernel_rfl) (by kernel_rfl) (fun _ _ _ h => h) hHeld (Or.inl ⟨by rfl, ?_⟩) rfl ?_
    rotate_left
    · intro wq hSw
      go_simp
      try with_reducible rfl
    simp only [List.set_cons_zero, List.set_cons_succ]
    refine take_at (v := ?_) 1 28 rfl rfl (by kernel_rfl) (by kernel_rfl) (by kernel_rfl) (fun _ _ _ h => h) hHeld (Or.inl ⟨by rfl, ?_⟩) rfl ?_
    rotate_left
    · intro wq hSw
      have hst := (hS4.under hSw hS4.lt).cell_at (i := 0) (v := .int .u64 (nb64 k0)) rfl
      have hst2 := (hS4.under hSw hS4.lt).cell_at (i := 1) (v := .int .u64 (nb64 k1)) rfl
      go_simp
      try with_reducible rfl
    simp only [List.set_cons_zero, List.set_cons_succ]
    refine take_at (v := ?_) 3 30 rfl rfl (by kernel_rfl) (by kernel_rfl) (by kernel_rfl) (fun _ _ _ h => h) hHeld (Or.inl ⟨by rfl, ?_⟩) rfl ?_
    rotate_left
    · intro wq hSw
      go_simp
      try with_reducible rfl
    simp only [List.set_cons_zero, List.set_cons_succ]
    refine wpAnyH_ready (rs := [2]) (by kernel_rfl) (by simp) ?_
    refine AllReadyH.cons rfl (fun K hK => ?_) AllReadyH.nil
    go_simp
    skip
    refine hK.out _ _ (Held.of (hCwd.alloc hCwd.size (.cells #[] 5))) (fun _ => ?_)
    clear hK K
    try simp only [Act.put, List.setIfInBounds_toArray, List.set_cons_zero, List.set_cons_succ]
    replace hHeld := Held.of (hCwd.alloc hCwd.size (.cells #[] 5))
    have hoE : OwnB 5 wd.heap.size (wd.alloc (.cells #[] 5)) (.slice (some ⟨wd.heap.size, 0, none⟩) 0 0) [] := OwnB.empty (Nat.le_refl _) (Has.fresh wd _ _)
    refine wpAnyH_ready (rs := [4]) (by kernel_rfl) (by simp) ?_
    refine AllReadyH.cons rfl (fun K hK => ?_) AllReadyH.nil
    refine step_append_bytes (by rfl) (.tmp 29) (.tmp 30) 23 rfl 5 Try.underlying23 info_byte wd.heap.size _ [] (by simp [Act.eval]) hoE ad n cp l (by simp [Act.eval]) ((hw4.below hCwd).past _) hc0 (by simp; omega) (by simp) ?_
    intro va w5 how5 hgw5 hnn
    rw [List.nil_append] at how5
    have hqw5 : Below wd.heap.size wd w5 := below_own_rowb ((Below.refl wd.heap.size wd).alloc (Nat.le_refl _) _) hgw5 hoE.lt
    have hCw5 : Below wd.heap.size wd w5 := hCwd.trans (hqw5.mono hCwd.size)
    obtain ⟨gb, cb', rfl, hcb, hbyw5⟩ := how5.some HL.out.1 (hnn (by simp))
    clear hnn
    refine hK.out _ _ (Held.of hCw5) (fun _ => ?_)
    clear hK K
    try simp only [Act.put]
    try simp only [List.setIfInBounds_toArray]
    try simp only [List.set_cons_zero, List.set_cons_succ]
    replace hHeld := Held.of hCw5
    refine wpAnyH_ready (rs := [5]) (by kernel_rfl) (by simp) ?_
    refine AllReadyH.cons rfl (fun K hK => ?_) AllReadyH.nil
    go_simp
    go_at_call 8; refine (ok.hash k0 k1 _ n cb' l w5 hbyw5 hcb (by omega)).mono ?_; rw [← HH.out.1]; rintro e w6 ⟨rfl, hb6⟩; have hCw6 := hCw5.trans (hb6.mono hCw5.size)
    refine hK.out _ _ (Held.of hCw6) (fun _ => ?_)
    clear hK K
    try simp only [Act.put, List.setIfInBounds_toArray, List.set_cons_zero, List.set_cons_succ]
    replace hHeld := Held.of hCw6
    refine take_at (v := .bool true) 6 33 rfl rfl (by kernel_rfl) (by kernel_rfl) (by kernel_rfl) (fun _ _ _ h => h) hHeld (Or.inl ⟨by rfl, ?_⟩) rfl ?_
    · intro wq hSw
      go_simp
      skip
    simp only [List.set_cons_zero, List.set_cons_succ]
    refine take_at (v := ?_) 7 34 rfl rfl (by kernel_rfl) (by kernel_rfl) (by kernel_rfl) (fun _ _ _ h => h) hHeld (Or.inl ⟨by rfl, ?_⟩) rfl ?_
    rotate_left
    · intro wq hSw
      go_simp
      try with_reducible rfl
    simp only [List.set_cons_zero, List.set_cons_succ]
    refine take_at (v := ?_) 8 35 rfl rfl (by kernel_rfl) (by kernel_rfl) (by kernel_rfl) (fun _ _ _ h => h) hHeld (Or.inl ⟨by rfl, ?_⟩) rfl ?_
    rotate_left
    · intro wq hSw
      go_simp
      try with_reducible rfl
    simp only [List.set_cons_zero, List.set_cons_succ]
    refine take_at (v := ?_) 9 36 rfl rfl (by kernel_rfl) (by kernel_rfl) (by kernel_rfl) (fun _ _ _ h => h) hHeld (Or.inl ⟨by rfl, ?_⟩) rfl ?_
    rotate_left
    · intro wq hSw
      have hst := (hS4.under hSw hS4.lt).cell_at (i := 0) (v := .int .u64 (nb64 k0)) rfl
      have hst2 := (hS4.under hSw hS4.lt).cell_at (i := 1) (v := .int .u64 (nb64 k1)) rfl
      go_simp
      try with_reducible rfl
    simp only [List.set_cons_zero, List.set_cons_succ]
    refine take_at (v := ?_) 11 38 rfl rfl (by kernel_rfl) (by kernel_rfl) (by kernel_rfl) (fun _ _ _ h => h) hHeld (Or.inl ⟨by rfl, ?_⟩) rfl ?_
    rotate_left
    · intro wq hSw
      go_simp
      try with_reducible rfl
    simp only [List.set_cons_zero, List.set_cons_succ]
    refine take_at (v := ?_) 13 40 rfl rfl (by kernel_rfl) (by kernel_rfl) (by kernel_rfl) (fun _ _ _ h => h) hHeld (Or.inl ⟨by rfl, ?_⟩) rfl ?_
    rotate_left
    · intro wq hSw
      go_simp
      try with_reducible rfl
    simp only [List.set_cons_zero, List.set_cons_succ]
    refine wpAnyH_ready (rs := [10]) (by kernel_rfl) (by simp) ?_
    refine AllReadyH.cons rfl (fun K hK => ?_) AllReadyH.nil
    go_simp
    skip
    refine hK.out _ _ (Held.of (hCw6.alloc hCw6.size (.cells #[] 5))) (fun _ => ?_)
    clear hK K
    try simp only [Act.put, List.setIfInBounds_toArray, List.set_cons_zero, List.set_cons_succ]
    replace hHeld := Held.of (hCw6.alloc hCw6.size (.cells #[] 5))
    have hoE : OwnB 5 w6.heap.size (w6.alloc (.cells #[] 5)) (.slice (some ⟨w6.heap.size, 0, none⟩) 0 0) [] := OwnB.empty (Nat.le_refl _) (Has.fresh w6 _ _)
    refine wpAnyH_ready (rs := [12]) (by kernel_rfl) (by simp) ?_
    refine AllReadyH.cons rfl (fun K hK => ?_) AllReadyH.nil
    refine step_append_bytes (by rfl) (.tmp 37) (.tmp 38) 23 rfl 5 Try.underlying23 info_byte w6.heap.size _ [] (by simp [Act.eval]) hoE ad n cp l (by simp [Act.eval]) ((hw4.below hCw6).past _) hc0 (by simp; omega) (by simp) ?_
    intro va w7 how7 hgw7 hnn
    rw [List.nil_append] at how7
    have hqw7 : Below w6.heap.size w6 w7 := below_own_rowb ((Below.refl w6.heap.size w6).alloc (Nat.le_refl _) _) hgw7 hoE.lt
    have hCw7 : Below wd.heap.size wd w7 := hCw6.trans (hqw7.mono hCw6.size)
    obtain ⟨gb, cb', rfl, hcb, hbyw7⟩ := how7.some HL.out.1 (hnn (by simp))
    clear hnn
    refine hK.out _ _ (Held.of hCw7) (fun _ => ?_)
    clear hK K
    try simp only [Act.put]
    try simp only [List.setIfInBounds_toArray]
    try simp only [List.set_cons_zero, List.set_cons_succ]
    replace hHeld := Held.of hCw7
    refine wpAnyH_ready (rs := [14]) (by kernel_rfl) (by simp) ?_
    refine AllReadyH.cons rfl (fun K hK => ?_) AllReadyH.nil
    refine step_append_zeros (by rfl) (.tmp 39) (.tmp 40) 23 3 rfl 5 .i64 .i64 Try.underlying23 Try.underlying3 info_byte w6.heap.size gb n cb' l (by simp [Act.eval]) how7 m hmp (by simp [Act.eval]) (by have := HL.out.1; omega) hqw7.size ?_
    intro vz w8 how8 hgw8
    have hqw8 : Below w6.heap.size w6 w8 := (hqw7.grown hgw8 hqw7.size (fun k e => by injection e with e; subst e; exact (how7.lt _ rfl)))
    have hCw8 : Below wd.heap.size wd w8 := hCw6.trans (hqw8.mono hCw6.size)
    obtain ⟨az, cz, rfl, hcz, _, hbz'⟩ := how8.shape HH.out.2.2
    refine hK.out _ _ (Held.of hCw8) (fun _ => ?_)
    clear hK K
    try simp only [Act.put]
    try simp only [List.setIfInBounds_toArray]
    try simp only [List.set_cons_zero, List.set_cons_succ]
    replace hHeld := Held.of hCw8
    refine wpAnyH_ready (rs := [15]) (by kernel_rfl) (by simp) ?_
    refine AllReadyH.cons rfl (fun K hK => ?_) AllReadyH.nil
    go_simp
    go_at_call 8; refine (ok.hash k0 k1 _ n2 cz (l ++ List.replicate m 0#8) w8 hbz' hcz (by omega)).mono ?_; rw [← HH.out.2.1]; rintro e w9 ⟨rfl, hb9⟩; have hCw9 := hCw8.trans (hb9.mono hCw8.size)
    refine hK.out _ _ (Held.of hCw9) (fun _ => ?_)
    clear hK K
    try simp only [Act.put, List.setIfInBounds_toArray, List.set_cons_zero, List.set_cons_succ]
    replace hHeld := Held.of hCw9
    refine take_at (v := .bool false) 16 43 rfl rfl (by kernel_rfl) (by kernel_rfl) (by kernel_rfl) (fun _ _ _ h => h) hHeld (Or.inl ⟨by rfl, ?_⟩) rfl ?_
    · intro wq hSw
      go_simp
      skip
    simp only [List.set_cons_zero, List.set_cons_succ]
    refine take_at (v := ?_) 17 44 rfl rfl (by kernel_rfl) (by kernel_rfl) (by kernel_rfl) (fun _ _ _ h => h) hHeld (Or.inl ⟨by rfl, ?_⟩) rfl ?_
    rotate_left
    · intro wq hSw
      go_simp
      try with_reducible rfl
    simp only [List.set_cons_zero, List.set_cons_succ]
    refine take_at (v := ?_) 18 45 rfl rfl (by kernel_rfl) (by kernel_rfl) (by kernel_rfl) (fun _ _ _ h => h) hHeld (Or.inl ⟨by rfl, ?_⟩) rfl ?_
    rotate_left
    · intro wq hSw
      have hst := (hS4.under hSw hS4.lt).cell_at (i := 0) (v := .int .u64 (nb64 k0)) rfl
      have hst2 := (hS4.under hSw hS4.lt).cell_at (i := 1) (v := .int .u64 (nb64 k1)) rfl
      go_simp
      try with_reducible rfl
    simp only [List.set_cons_zero, List.set_cons_succ]
    refine take_at (v := ?_) 19 46 rfl rfl (by kernel_rfl) (by kernel_rfl) (by kernel_rfl) (fun _ _ _ h => h) hHeld (Or.inl ⟨by rfl, ?_⟩) rfl ?_
    rotate_left
    · intro wq hSw
      go_simp
      try with_reducible rfl
    simp only [List.set_cons_zero, List.set_cons_succ]
    refine take_at (v := ?_) 21 48 rfl rfl (by kernel_rfl) (by kernel_rfl) (by kernel_rfl) (fun _ _ _ h => h) hHeld (Or.inl ⟨by rfl, ?_⟩) rfl ?_
    rotate_left
    · intro wq hSw
      have hst := (hS4.under hSw hS4.lt).cell_at (i := 0) (v := .int .u64 (nb64 k0)) rfl
      have hst2 := (hS4.under hSw hS4.lt).cell_at (i := 1) (v := .int .u64 (nb64 k1)) rfl
      go_simp
      try with_reducible rfl
    simp only [List.set_cons_zero, List.set_cons_succ]
    refine take_at (v := ?_) 23 50 rfl rfl (by kernel_rfl) (by kernel_rfl) (by kernel_rfl) (fun _ _ _ h => h) hHeld (Or.inl ⟨by rfl, ?_⟩) rfl ?_
    rotate_left
    · intro wq hSw
      go_simp
      try with_reducible rfl
    simp only [List.set_cons_zero, List.set_cons_succ]
    refine take_at (v := ?_) 25 52 rfl rfl (by kernel_rfl) (by kernel_rfl) (by kernel_rfl) (fun _ _ _ h => h) hHeld (Or.inl ⟨by rfl, ?_⟩) rfl ?_
    rotate_left
    · intro wq hSw
      go_simp
      try with_reducible rfl
    simp only [List.set_cons_zero, List.set_cons_succ]
    refine wpAnyH_ready (rs := [20, 22]) (by kernel_rfl) (by simp) ?_
    refine AllReadyH.cons rfl (fun K hK => ?_) (AllReadyH.cons rfl (fun K hK => ?_) AllReadyH.nil)
    · go_simp
      go_at_call 9; refine (shash_any k0 k1 ad n cp l w9 (hw4.below hCw9) (by omega)).mono ?_; rw [← HH.out.1]; rintro e w10 ⟨rfl, hb10⟩; have hCw10 := hCw9.trans (hb10.mono hCw9.size)
      refine hK.out _ _ (Held.of hCw10) (fun _ => ?_)
      clear hK K
      try simp only [Act.put, List.setIfInBounds_toArray, List.set_cons_zero, List.set_cons_succ]
      replace hHeld := Held.of hCw10
      refine wpAnyH_ready (rs := [22]) (by kernel_rfl) (by simp) ?_
      refine AllReadyH.cons rfl (fun K hK => ?_) AllReadyH.nil
      go_simp
      skip
      refine hK.out _ _ (Held.of (hCw10.alloc hCw10.size (.cells #[] 5))) (fun _ => ?_)
      clear hK K
      try simp only [Act.put, List.setIfInBounds_toArray, List.set_cons_zero, List.set_cons_succ]
      replace hHeld := Held.of (hCw10.alloc hCw10.size (.cells #[] 5))
      have hoE : OwnB 5 w10.heap.size (w10.alloc (.cells #[] 5)) (.slice (some ⟨w10.heap.size, 0, none⟩) 0 0) [] := OwnB.empty (Nat.le_refl _) (Has.fresh w10 _ _)
      refine wpAnyH_ready (rs := [24]) (by kernel_rfl) (by simp) ?_
      refine AllReadyH.cons rfl (fun K hK => ?_) AllReadyH.nil
      refine step_append_bytes (by rfl) (.tmp 49) (.tmp 50) 23 rfl 5 Try.underlying23 info_byte w10.heap.size _ [] (by simp [Act.eval]) hoE ad n cp l (by simp [Act.eval]) ((hw4.below hCw10).past _) hc0 (by simp; omega) (by simp) ?_
      intro va w11 how11 hgw11 hnn
      rw [List.nil_append] at how11
      have hqw11 : Below w10.heap.size w10 w11 := below_own_rowb ((Below.refl w10.heap.size w10).alloc (Nat.le_refl _) _) hgw11 hoE.lt
      have hCw11 : Below wd.heap.size wd w11 := hCw10.trans (hqw11.mono hCw10.size)
      obtain ⟨gb, cb', rfl, hcb, hbyw11⟩ := how11.some HL.out.1 (hnn (by simp))
      clear hnn
      refine hK.out _ _ (Held.of hCw11) (fun _ => ?_)
      clear hK K
      try simp only [Act.put]
      try simp only [List.setIfInBounds_toArray]
      try simp only [List.set_cons_zero, List.set_cons_succ]
      replace hHeld := Held.of hCw11
      refine wpAnyH_ready (rs := [26]) (by kernel_rfl) (by simp) ?_
      refine AllReadyH.cons rfl (fun K hK => ?_) AllReadyH.nil
      refine step_append_zeros (by rfl) (.tmp 51) (.tmp 52) 23 3 rfl 5 .i64 .i64 Try.underlying23 Try.underlying3 info_byte w10.heap.size gb n cb' l (by simp [Act.eval]) how11 m hmp (by simp [Act.eval]) (by have := HL.out.1; omega) hqw11.size ?_
      intro vz w12 how12 hgw12
      have hqw12 : Below w10.heap.size w10 w12 := (hqw11.grown hgw12 hqw11.size (fun k e => by injection e with e; subst e; exact (how11.lt _ rfl)))
      have hCw12 : Below wd.heap.size wd w12 := hCw10.trans (hqw12.mono hCw10.size)
      obtain ⟨az, cz, rfl, hcz, _, hbz'⟩ := how12.shape HH.out.2.2
      refine hK.out _ _ (Held.of hCw12) (fun _ => ?_)
      clear hK K
      try simp only [Act.put]
      try simp only [List.setIfInBounds_toArray]
      try simp only [List.set_cons_zero, List.set_cons_succ]
      replace hHeld := Held.of hCw12
      refine wpAnyH_ready (rs := [27]) (by kernel_rfl) (by simp) ?_
      refine AllReadyH.cons rfl (fun K hK => ?_) AllReadyH.nil
      go_simp
      go_at_call 9; refine (shash_any k0 k1 _ n2 cz (l ++ List.replicate m 0#8) w12 hbz' (by omega)).mono ?_; rw [← HH.out.2.1]; rintro e w13 ⟨rfl, hb13⟩; have hCw13 := hCw12.trans (hb13.mono hCw12.size)
      refine hK.out _ _ (Held.of hCw13) (fun _ => ?_)
      clear hK K
      try simp only [Act.put, List.setIfInBounds_toArray, List.set_cons_zero, List.set_cons_succ]
      replace hHeld := Held.of hCw13
      refine take_at (v := .bool true) 28 55 rfl rfl (by kernel_rfl) (by kernel_rfl) (by kernel_rfl) (fun _ _ _ h => h) hHeld (Or.inl ⟨by rfl, ?_⟩) rfl ?_
      · intro wq hSw
        go_simp
        skip
      simp only [List.set_cons_zero, List.set_cons_succ]
      refine take_at (v := ?_) 29 56 rfl rfl (by kernel_rfl) (by kernel_rfl) (by kernel_rfl) (fun _ _ _ h => h) hHeld (Or.inl ⟨by rfl, ?_⟩) rfl ?_
      rotate_left
      · intro wq hSw
        go_simp
        try with_reducible rfl
      simp only [List.set_cons_zero, List.set_cons_succ]
      refine take_at (v := ?_) 30 57 rfl rfl (by kernel_rfl) (by kernel_rfl) (by kernel_rfl) (fun _ _ _ h => h) hHeld (Or.inl ⟨by rfl, ?_⟩) rfl ?_
      rotate_left
      · intro wq hSw
        go_simp
        try with_reducible rfl
      simp only [List.set_cons_zero, List.set_cons_succ]
      refine take_at (v := ?_) 31 8 rfl rfl (by kernel_rfl) (by kernel_rfl) (by kernel_rfl) (fun _ _ _ h => h) hHeld (Or.inl ⟨by rfl, ?_⟩) rfl ?_
      rotate_left
      · intro wq hSw
        go_simp
        try with_reducible rfl
      simp only [List.set_cons_zero, List.set_cons_succ]
      refine wpAnyH_done (by kernel_rfl) ?_ _
      go_wp2_with fail
      go_ret
      exact ⟨rfl, hT4.trans (hCw13.mono hT4.size)⟩
    · go_simp
      skip
      refine hK.out _ _ (Held.of (hCw9.alloc hCw9.size (.cells #[] 5))) (fun _ => ?_)
      clear hK K
      try simp only [Act.put, List.setIfInBounds_toArray, List.set_cons_zero, List.set_cons_succ]
      replace hHeld := Held.of (hCw9.alloc hCw9.size (.cells #[] 5))
      have hCe : Below wd.heap.size wd (w9.alloc (.cells #[] 5)) := hCw9.alloc hCw9.size _
      obtain ⟨we, hwe⟩ : ∃ x, x = w9.alloc (.cells #[] 5) := ⟨_, rfl⟩
      rw [← hwe] at hCe ⊢
      have hHe : Has we w9.heap.size 5 #[] := by rw [hwe]; exact Has.fresh _ _ _
      have hE9 : w9.heap.size ≤ we.heap.size := by rw [hwe]; simp
      have hBe9 : Below w9.heap.size w9 we := by rw [hwe]; exact (Below.refl _ _).alloc (Nat.le_refl _) _
      replace hHeld := Held.of hCe
      clear hwe
      refine wpAnyH_ready (rs := [20]) (by kernel_rfl) (by simp) ?_
      refine AllReadyH.cons rfl (fun K hK => ?_) AllReadyH.nil
      go_simp
      go_at_call 9; refine (shash_any k0 k1 ad n cp l we (hw4.below hCe) (by omega)).mono ?_; rw [← HH.out.1]; rintro e w10 ⟨rfl, hb10⟩; have hCw10 := hCe.trans (hb10.mono hCe.size)
      refine hK.out _ _ (Held.of hCw10) (fun _ => ?_)
      clear hK K
      try simp only [Act.put, List.setIfInBounds_toArray, List.set_cons_zero, List.set_cons_succ]
      replace hHeld := Held.of hCw10
      have hoE : OwnB 5 w9.heap.size w10 (.slice (some ⟨w9.heap.size, 0, none⟩) 0 0) [] := OwnB.empty (Nat.le_refl _) (hHe.under hb10 hHe.lt)
      have hB90 := hBe9.trans (hb10.mono hBe9.size)
      refine wpAnyH_ready (rs := [24]) (by kernel_rfl) (by simp) ?_
      refine AllReadyH.cons rfl (fun K hK => ?_) AllReadyH.nil
      refine step_append_bytes (by rfl) (.tmp 49) (.tmp 50) 23 rfl 5 Try.underlying23 info_byte w9.heap.size _ [] (by simp [Act.eval]) hoE ad n cp l (by simp [Act.eval]) (hw4.below hCw10) hc0 (by simp; omega) hB90.size ?_
      intro va w11 how11 hgw11 hnn
      rw [List.nil_append] at how11
      have hqw11 : Below w9.heap.size w9 w11 := below_own_rowb hB90 hgw11 hoE.lt
      have hCw11 : Below wd.heap.size wd w11 := hCw9.trans (hqw11.mono hCw9.size)
      obtain ⟨gb, cb', rfl, hcb, hbyw11⟩ := how11.some HL.out.1 (hnn (by simp))
      clear hnn
      refine hK.out _ _ (Held.of hCw11) (fun _ => ?_)
      clear hK K
      try simp only [Act.put]
      try simp only [List.setIfInBounds_toArray]
      try simp only [List.set_cons_zero, List.set_cons_succ]
      replace hHeld := Held.of hCw11
      refine wpAnyH_ready (rs := [26]) (by kernel_rfl) (by simp) ?_
      refine AllReadyH.cons rfl (fun K hK => ?_) AllReadyH.nil
      refine step_append_zeros (by rfl) (.tmp 51) (.tmp 52) 23 3 rfl 5 .i64 .i64 Try.underlying23 Try.underlying3 info_byte w9.heap.size gb n cb' l (by simp [Act.eval]) how11 m hmp (by simp [Act.eval]) (by have := HL.out.1; omega) hqw11.size ?_
      intro vz w12 how12 hgw12
      have hqw12 : Below w9.heap.size w9 w12 := (hqw11.grown hgw12 hqw11.size (fun k e => by injection e with e; subst e; exact (how11.lt _ rfl)))
      have hCw12 : Below wd.heap.size wd w12 := hCw9.trans (hqw12.mono hCw9.size)
      obtain ⟨az, cz, rfl, hcz, _, hbz'⟩ := how12.shape HH.out.2.2
      refine hK.out _ _ (Held.of hCw12) (fun _ => ?_)
      clear hK K
      try simp only [Act.put]
      try simp only [List.setIfInBounds_toArray]
      try simp only [List.set_cons_zero, List.set_cons_succ]
      replace hHeld := Held.of hCw12
      refine wpAnyH_ready (rs := [27]) (by kernel_rfl) (by simp) ?_
      refine AllReadyH.cons rfl (fun K hK => ?_) AllReadyH.nil
      go_simp
      go_at_call 9; refine (shash_any k0 k1 _ n2 cz (l ++ List.replicate m 0#8) w12 hbz' (by omega)).mono ?_; rw [← HH.out.2.1]; rintro e w13 ⟨rfl, hb13⟩; have hCw13 := hCw12.trans (hb13.mono hCw12.size)
      refine hK.out _ _ (Held.of hCw13) (fun _ => ?_)
      clear hK K
      try simp only [Act.put, List.setIfInBounds_toArray, List.set_cons_zero, List.set_cons_succ]
      replace hHeld := Held.of hCw13
      refine take_at (v := .bool true) 28 55 rfl rfl (by kernel_rfl) (by kernel_rfl) (by kernel_rfl) (fun _ _ _ h => h) hHeld (Or.inl ⟨by rfl, ?_⟩) rfl ?_
      · intro wq hSw
        go_simp
        skip
      simp only [List.set_cons_zero, List.set_cons_succ]
      refine take_at (v := ?_) 29 56 rfl rfl (by kernel_rfl) (by kernel_rfl) (by kernel_rfl) (fun _ _ _ h => h) hHeld (Or.inl ⟨by rfl, ?_⟩) rfl ?_
      rotate_left
      · intro wq hSw
        go_simp
        try with_reducible rfl
      simp only [List.set_cons_zero, List.set_cons_succ]
      refine take_at (v := ?_) 30 57 rfl rfl (by kernel_rfl) (by kernel_rfl) (by kernel_rfl) (fun _ _ _ h => h) hHeld (Or.inl ⟨by rfl, ?_⟩) rfl ?_
      rotate_left
      · intro wq hSw
        go_simp
        try with_reducible rfl
      simp only [List.set_cons_zero, List.set_cons_succ]
      refine take_at (v := ?_) 31 8 rfl rfl (by kernel_rfl) (by kernel_rfl) (by kernel_rfl) (fun _ _ _ h => h) hHeld (Or.inl ⟨by rfl, ?_⟩) rfl ?_
      rotate_left
      · intro wq hSw
        go_simp
        try with_reducible rfl
      simp only [List.set_cons_zero, List.set_cons_succ]
      refine wpAnyH_done (by kernel_rfl) ?_ _
      go_wp2_with fail
      go_ret
      exact ⟨rfl, hT4.trans (hCw13.mono hT4.size)⟩
  · have hneb : (h0 != h1) = true := by simp [hne]
    have HNE := Lib.hid hne
    clear hne
    refine wp_region_held_drew (S := Held w4.drew) (by kernel_rfl) (Held.refl _) (fun hHeld => ?_)
    obtain ⟨wd, hwd⟩ : ∃ x, x = w4.drew := ⟨_, rfl⟩
    rw [← hwd] at hS4 hT4 hw4 hHeld ⊢
    clear hwd
    have hCwd : Below wd.heap.size wd wd := Below.refl _ _
    refine take_at (v := ?_) 0 27 rfl rfl (by kernel_rfl) (by kernel_rfl) (by kernel_rfl) (fun _ _ _ h => h) hHeld (Or.inl ⟨by rfl, ?_⟩) rfl ?_
    rotate_left
    · intro wq hSw
      go_simp
      try with_reducible rfl
    simp only [List.set_cons_zero, List.set_cons_succ]
    refine take_at (v := ?_) 1 28 rfl rfl (by kernel_rfl) (by kernel_rfl) (by kernel_rfl) (fun _ _ _ h => h) hHeld (Or.inl ⟨by rfl, ?_⟩) rfl ?_
    rotate_left
    · intro wq hSw
      have hst := (hS4.under hSw hS4.lt).cell_at (i := 0) (v := .int .u64 (nb64 k0)) rfl
      have hst2 := (hS4.under hSw hS4.lt).cell_at (i := 1) (v := .int .u64 (nb64 k1)) rfl
      go_simp
      try with_reducible rfl
    simp only [List.set_cons_zero, List.set_cons_succ]
    refine take_at (v := ?_) 3 30 rfl rfl (by kernel_rfl) (by kernel_rfl) (by kernel_rfl) (fun _ _ _ h => h) hHeld (Or.inl ⟨by rfl, ?_⟩) rfl ?_
    rotate_left
    · intro wq hSw
      go_simp
      try with_reducible rfl
    simp only [List.set_cons_zero, List.set_cons_succ]
    refine wpAnyH_ready (rs := [2]) (by kernel_rfl) (by simp) ?_
    refine AllReadyH.cons rfl (fun K hK => ?_) AllReadyH.nil
    go_simp
    skip
    refine hK.out _ _ (Held.of (hCwd.alloc hCwd.size (.cells #[] 5))) (fun _ => ?_)
    clear hK K
    try simp only [Act.put, List.setIfInBounds_toArray, List.set_cons_zero, List.set_cons_succ]
    replace hHeld := Held.of (hCwd.alloc hCwd.size (.cells #[] 5))
    have hoE : OwnB 5 wd.heap.size (wd.alloc (.cells #[] 5)) (.slice (some ⟨wd.heap.size, 0, none⟩) 0 0) [] := OwnB.empty (Nat.le_refl _) (Has.fresh wd _ _)
    refine wpAnyH_ready (rs := [4]) (by kernel_rfl) (by simp) ?_
    refine AllReadyH.cons rfl (fun K hK => ?_) AllReadyH.nil
    refine step_append_bytes (by rfl) (.tmp 29) (.tmp 30) 23 rfl 5 Try.underlying23 info_byte wd.heap.size _ [] (by simp [Act.eval]) hoE ad n cp l (by simp [Act.eval]) ((hw4.below hCwd).past _) hc0 (by simp; omega) (by simp) ?_
    intro va w5 how5 hgw5 hnn
    rw [List.nil_append] at how5
    have hqw5 : Below wd.heap.size wd w5 := below_own_rowb ((Below.refl wd.heap.size wd).alloc (Nat.le_refl _) _) hgw5 hoE.lt
    have hCw5 : Below wd.heap.size wd w5 := hCwd.trans (hqw5.mono hCwd.size)
    obtain ⟨gb, cb', rfl, hcb, hbyw5⟩ := how5.some HL.out.1 (hnn (by simp))
    clear hnn
    refine hK.out _ _ (Held.of hCw5) (fun _ => ?_)
    clear hK K
    try simp only [Act.put]
    try simp only [List.setIfInBounds_toArray]
    try simp only [List.set_cons_zero, List.set_cons_succ]
    replace hHeld := Held.of hCw5
    refine wpAnyH_ready (rs := [5]) (by kernel_rfl) (by simp) ?_
    refine AllReadyH.cons rfl (fun K hK => ?_) AllReadyH.nil
    go_simp
    go_at_call 8; refine (ok.hash k0 k1 _ n cb' l w5 hbyw5 hcb (by omega)).mono ?_; rw [← HH.out.1]; rintro e w6 ⟨rfl, hb6⟩; have hCw6 := hCw5.trans (hb6.mono hCw5.size)
    refine hK.out _ _ (Held.of hCw6) (fun _ => ?_)
    clear hK K
    try simp only [Act.put, List.setIfInBounds_toArray, List.set_cons_zero, List.set_cons_succ]
    replace hHeld := Held.of hCw6
    refine take_at (v := .bool true) 6 33 rfl rfl (by kernel_rfl) (by kernel_rfl) (by kernel_rfl) (fun _ _ _ h => h) hHeld (Or.inl ⟨by rfl, ?_⟩) rfl ?_
    · intro wq hSw
      go_simp
      skip
    simp only [List.set_cons_zero, List.set_cons_succ]
    refine take_at (v := ?_) 7 34 rfl rfl (by kernel_rfl) (by kernel_rfl) (by kernel_rfl) (fun _ _ _ h => h) hHeld (Or.inl ⟨by rfl, ?_⟩) rfl ?_
    rotate_left
    · intro wq hSw
      go_simp
      try with_reducible rfl
    simp only [List.set_cons_zero, List.set_cons_succ]
    refine take_at (v := ?_) 8 35 rfl rfl (by kernel_rfl) (by kernel_rfl) (by kernel_rfl) (fun _ _ _ h => h) hHeld (Or.inl ⟨by rfl, ?_⟩) rfl ?_
    rotate_left
    · intro wq hSw
      go_simp
      try with_reducible rfl
    simp only [List.set_cons_zero, List.set_cons_succ]
    refine take_at (v := ?_) 9 36 rfl rfl (by kernel_rfl) (by kernel_rfl) (by kernel_rfl) (fun _ _ _ h => h) hHeld (Or.inl ⟨by rfl, ?_⟩) rfl ?_
    rotate_left
    · intro wq hSw
      have hst := (hS4.under hSw hS4.lt).cell_at (i := 0) (v := .int .u64 (nb64 k0)) rfl
      have hst2 := (hS4.under hSw hS4.lt).cell_at (i := 1) (v := .int .u64 (nb64 k1)) rfl
      go_simp
      try with_reducible rfl
    simp only [List.set_cons_zero, List.set_cons_succ]
    refine take_at (v := ?_) 11 38 rfl rfl (by kernel_rfl) (by kernel_rfl) (by kernel_rfl) (fun _ _ _ h => h) hHeld (Or.inl ⟨by rfl, ?_⟩) rfl ?_
    rotate_left
    · intro wq hSw
      go_simp
      try with_reducible rfl
    simp only [List.set_cons_zero, List.set_cons_succ]
    refine take_at (v := ?_) 13 40 rfl rfl (by kernel_rfl) (by kernel_rfl) (by kernel_rfl) (fun _ _ _ h => h) hHeld (Or.inl ⟨by rfl, ?_⟩) rfl ?_
    rotate_left
    · intro wq hSw
      go_simp
      try with_reducible rfl
    simp only [List.set_cons_zero, List.set_cons_succ]
    refine wpAnyH_ready (rs := [10]) (by kernel_rfl) (by simp) ?_
    refine AllReadyH.cons rfl (fun K hK => ?_) AllReadyH.nil
    go_simp
    skip
    refine hK.out _ _ (Held.of (hCw6.alloc hCw6.size (.cells #[] 5))) (fun _ => ?_)
    clear hK K
    try simp only [Act.put, List.setIfInBounds_toArray, List.set_cons_zero, List.set_cons_succ]
    replace hHeld := Held.of (hCw6.alloc hCw6.size (.cells #[] 5))
    have hoE : OwnB 5 w6.heap.size (w6.alloc (.cells #[] 5)) (.slice (some ⟨w6.heap.size, 0, none⟩) 0 0) [] := OwnB.empty (Nat.le_refl _) (Has.fresh w6 _ _)
    refine wpAnyH_ready (rs := [12]) (by kernel_rfl) (by simp) ?_
    refine AllReadyH.cons rfl (fun K hK => ?_) AllReadyH.nil
    refine step_append_bytes (by rfl) (.tmp 37) (.tmp 38) 23 rfl 5 Try.underlying23 info_byte w6.heap.size _ [] (by simp [Act.eval]) hoE ad n cp l (by simp [Act.eval]) ((hw4.below hCw6).past _) hc0 (by simp; omega) (by simp) ?_
    intro va w7 how7 hgw7 hnn
    rw [List.nil_append] at how7
    have hqw7 : Below w6.heap.size w6 w7 := below_own_rowb ((Below.refl w6.heap.size w6).alloc (Nat.le_refl _) _) hgw7 hoE.lt
    have hCw7 : Below wd.heap.size wd w7 := hCw6.trans (hqw7.mono hCw6.size)
    obtain ⟨gb, cb', rfl, hcb, hbyw7⟩ := how7.some HL.out.1 (hnn (by simp))
    clear hnn
    refine hK.out _ _ (Held.of hCw7) (fun _ => ?_)
    clear hK K
    try simp only [Act.put]
    try simp only [List.setIfInBounds_toArray]
    try simp only [List.set_cons_zero, List.set_cons_succ]
    replace hHeld := Held.of hCw7
    refine wpAnyH_ready (rs := [14]) (by kernel_rfl) (by simp) ?_
    refine AllReadyH.cons rfl (fun K hK => ?_) AllReadyH.nil
    refine step_append_zeros (by rfl) (.tmp 39) (.tmp 40) 23 3 rfl 5 .i64 .i64 Try.underlying23 Try.underlying3 info_byte w6.heap.size gb n cb' l (by simp [Act.eval]) how7 m hmp (by simp [Act.eval]) (by have := HL.out.1; omega) hqw7.size ?_
    intro vz w8 how8 hgw8
    have hqw8 : Below w6.heap.size w6 w8 := (hqw7.grown hgw8 hqw7.size (fun k e => by injection e with e; subst e; exact (how7.lt _ rfl)))
    have hCw8 : Below wd.heap.size wd w8 := hCw6.trans (hqw8.mono hCw6.size)
    obtain ⟨az, cz, rfl, hcz, _, hbz'⟩ := how8.shape HH.out.2.2
    refine hK.out _ _ (Held.of hCw8) (fun _ => ?_)
    clear hK K
    try simp only [Act.put]
    try simp only [List.setIfInBounds_toArray]
    try simp only [List.set_cons_zero, List.set_cons_succ]
    replace hHeld := Held.of hCw8
    refine wpAnyH_ready (rs := [15]) (by kernel_rfl) (by simp) ?_
    refine AllReadyH.cons rfl (fun K hK => ?_) AllReadyH.nil
    go_simp
    go_at_call 8; refine (ok.hash k0 k1 _ n2 cz (l ++ List.replicate m 0#8) w8 hbz' hcz (by omega)).mono ?_; rw [← HH.out.2.1]; rintro e w9 ⟨rfl, hb9⟩; have hCw9 := hCw8.trans (hb9.mono hCw8.size)
    refine hK.out _ _ (Held.of hCw9) (fun _ => ?_)
    clear hK K
    try simp only [Act.put, List.setIfInBounds_toArray, List.set_cons_zero, List.set_cons_succ]
    replace hHeld := Held.of hCw9
    refine take_at (v := .bool true) 16 43 rfl rfl (by kernel_rfl) (by kernel_rfl) (by kernel_rfl) (fun _ _ _ h => h) hHeld (Or.inl ⟨by rfl, ?_⟩) rfl ?_
    · intro wq hSw
      go_simp
      skip
    simp only [List.set_cons_zero, List.set_cons_succ]
    refine take_at (v := ?_) 17 44 rfl rfl (by kernel_rfl) (by kernel_rfl) (by kernel_rfl) (fun _ _ _ h => h) hHeld (Or.inl ⟨by rfl, ?_⟩) rfl ?_
    rotate_left
    · intro wq hSw
      go_simp
      try with_reducible rfl
    simp only [List.set_cons_zero, List.set_cons_succ]
    refine take_at (v := undef) 18 45 rfl rfl (by kernel_rfl) (by kernel_rfl) (by kernel_rfl) (fun _ _ _ h => h) hHeld (Or.inr ⟨by rfl, rfl⟩) rfl ?_
    simp only [List.set_cons_zero, List.set_cons_succ]
    refine take_at (v := undef) 19 46 rfl rfl (by kernel_rfl) (by kernel_rfl) (by kernel_rfl) (fun _ _ _ h => h) hHeld (Or.inr ⟨by rfl, rfl⟩) rfl ?_
    simp only [List.set_cons_zero, List.set_cons_succ]
    refine take_at (v := undef) 20 47 rfl rfl (by kernel_rfl) (by kernel_rfl) (by kernel_rfl) (fun _ _ _ h => h) hHeld (Or.inr ⟨by rfl, rfl⟩) rfl ?_
    simp only [List.set_cons_zero, List.set_cons_succ]
    refine take_at (v := undef) 21 48 rfl rfl (by kernel_rfl) (by kernel_rfl) (by kernel_rfl) (fun _ _ _ h => h) hHeld (Or.inr ⟨by rfl, rfl⟩) rfl ?_
    simp only [List.set_cons_zero, List.set_cons_succ]
    refine take_at (v := undef) 22 49 rfl rfl (by kernel_rfl) (by kernel_rfl) (by kernel_rfl) (fun _ _ _ h => h) hHeld (Or.inr ⟨by rfl, rfl⟩) rfl ?_
    simp only [List.set_cons_zero, List.set_cons_succ]
    refine take_at (v := undef) 23 50 rfl rfl (by kernel_rfl) (by kernel_rfl) (by kernel_rfl) (fun _ _ _ h => h) hHeld (Or.inr ⟨by rfl, rfl⟩) rfl ?_
    simp only [List.set_cons_zero, List.set_cons_succ]
    refine take_at (v := undef) 24 51 rfl rfl (by kernel_rfl) (by kernel_rfl) (by kernel_rfl) (fun _ _ _ h => h) hHeld (Or.inr ⟨by rfl, rfl⟩) rfl ?_
    simp only [List.set_cons_zero, List.set_cons_succ]
    refine take_at (v := undef) 25 52 rfl rfl (by kernel_rfl) (by kernel_rfl) (by kernel_rfl) (fun _ _ _ h => h) hHeld (Or.inr ⟨by rfl, rfl⟩) rfl ?_
    simp only [List.set_cons_zero, List.set_cons_succ]
    refine take_at (v := undef) 26 53 rfl rfl (by kernel_rfl) (by kernel_rfl) (by kernel_rfl) (fun _ _ _ h => h) hHeld (Or.inr ⟨by rfl, rfl⟩) rfl ?_
    simp only [List.set_cons_zero, List.set_cons_succ]
    refine take_at (v := undef) 27 54 rfl rfl (by kernel_rfl) (by kernel_rfl) (by kernel_rfl) (fun _ _ _ h => h) hHeld (Or.inr ⟨by rfl, rfl⟩) rfl ?_
    simp only [List.set_cons_zero, List.set_cons_succ]
    refine take_at (v := undef) 28 55 rfl rfl (by kernel_rfl) (by kernel_rfl) (by kernel_rfl) (fun _ _ _ h => h) hHeld (Or.inr ⟨by rfl, rfl⟩) rfl ?_
    simp only [List.set_cons_zero, List.set_cons_succ]
    refine take_at (v := ?_) 29 56 rfl rfl (by kernel_rfl) (by kernel_rfl) (by kernel_rfl) (fun _ _ _ h => h) hHeld (Or.inl ⟨by rfl, ?_⟩) rfl ?_
    rotate_left
    · intro wq hSw
      go_simp
      try with_reducible rfl
    simp only [List.set_cons_zero, List.set_cons_succ]
    refine take_at (v := ?_) 30 57 rfl rfl (by kernel_rfl) (by kernel_rfl) (by kernel_rfl) (fun _ _ _ h => h) hHeld (Or.inl ⟨by rfl, ?_⟩) rfl ?_
    rotate_left
    · intro wq hSw
      go_simp
      try with_reducible rfl
    simp only [List.set_cons_zero, List.set_cons_succ]
    refine take_at (v := ?_) 31 8 rfl rfl (by kernel_rfl) (by kernel_rfl) (by kernel_rfl) (fun _ _ _ h => h) hHeld (Or.inl ⟨by rfl, ?_⟩) rfl ?_
    rotate_left
    · intro wq hSw
      go_simp
      try with_reducible rfl
    simp only [List.set_cons_zero, List.set_cons_succ]
    refine wpAnyH_done (by kernel_rfl) ?_ _
    go_wp2_with fail
    go_ret
    exact ⟨rfl, hT4.trans (hCw9.mono hT4.size)⟩
set_option maxRecDepth 100000 in
set_option maxHeartbeats 4000000 in
theorem endsAny (ok : SipOk) (W : World) (k0 k1 : BitVec 64) (ad : Option Addr) (n cp : Nat) (l : List (BitVec 8)) (z : Int) (hw : Bytes8 W ad n l) (hnc : n ≤ cp) (hc0 : ad = none → cp = 0) :
    Calls Try.prog 16 #[.int .u64 (nb64 k0), .int .u64 (nb64 k1), .slice ad n cp, .int .i64 z] W fun e w' => e = .returned (.bool true) ∧ Below W.heap.size W w' := by
  have hmx : n ≤ 9223372036854775807 := hw.2.1
  by_cases g1 : (200 : Int) < (n : Int)
  · go_enter Try.func16, Try.ntmps16
    go_wp2_with (first | (go_at_call 7; refine (alive06 ok W).mono ?_; rintro e w2 ⟨rfl, hb2⟩))
    go_ret
    exact ⟨rfl, hb2⟩
  · exact endsMain ok W k0 k1 ad n cp l z hw hnc hc0 (by omega)
set_option maxRecDepth 100000 in
set_option maxHeartbeats 4000000 in
theorem sipEndsWalkK (ok : SipOk) {H : Type} {enc : TypeId × Value → H} (W : World) (base : Nat) (v0 : Value) (d0 : DataW H) (p0 : List MemPlace)
    (o0 : Value.okWide Try.prog W .any base 45 v0) (h0 : DataW.Trod enc Try.prog W 0 (fun _ => true) true 45 v0 d0 p0) :
    Calls Try.prog 6 #[v0] W fun e w' => e = .returned (.bool true) ∧ Below W.heap.size W w' := by
  obtain ⟨cs, rfl, hl, hf⟩ := arg_fields Try.underlying45 (by kernel_rfl) (by kernel_rfl) o0 h0
  match cs, hl with
  | [b0, b1, b2, b3], _ =>
    obtain ⟨n0, y0, t0⟩ := hf 0 _ b0 rfl rfl
    obtain ⟨n1, y1, t1⟩ := hf 1 _ b1 rfl rfl
    obtain ⟨n2, y2, t2⟩ := hf 2 _ b2 rfl rfl
    obtain ⟨n3, y3, t3⟩ := hf 3 _ b3 rfl rfl
    obtain ⟨k0, rfl⟩ := field_u64 Try.underlying22 t0
    obtain ⟨k1, rfl⟩ := field_u64 Try.underlying22 t1
    obtain ⟨ad, n, cp, l, rfl, hw, hnc, hc0⟩ := field_bytes Try.underlying23 Try.underlying5 (by kernel_rfl) t2
    obtain ⟨z, rfl, _⟩ := field_int Try.underlying3 t3
    clear o0 h0 hf
    have hB1 : Below W.heap.size W (W.alloc (.cells #[.int .u64 (nb64 k0), .int .u64 (nb64 k1), .slice ad n cp, .int .i64 z] 45)) := (Below.refl _ _).alloc (Nat.le_refl _) _
    have hw1 := hw.past (.cells #[.int .u64 (nb64 k0), .int .u64 (nb64 k1), .slice ad n cp, .int .i64 z] 45)
    go_enter Try.func6, Try.ntmps6
    go_wp2_with (first | (go_at_call 16; refine (endsAny ok _ k0 k1 ad n cp l z hw1 hnc hc0).mono ?_; rintro e w2 ⟨rfl, hb2⟩))
    go_ret
    exact ⟨rfl, hB1.trans (hb2.mono hB1.size)⟩
end Go.Proofs.Ytenoholdealphaa
