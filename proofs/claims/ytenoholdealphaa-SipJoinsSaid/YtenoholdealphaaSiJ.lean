/- SipJoins over the premise -/
import Derived.Test.YtenoholdealphaaSiK
import Derived.Test.YtenoholdealphaaHe
namespace Go.Proofs.Ytenoholdealphaa
open Go Go.RowKit Go.ChangeShapes Go.WideShapes
theorem Si.lo_swap (a b : BitVec 64) : (if b ≤ a then b else a) = if a ≤ b then a else b := by
  by_cases h : a ≤ b
  · by_cases g : b ≤ a
    · rw [if_pos h, if_pos g]; exact BitVec.le_antisymm g h
    · rw [if_pos h, if_neg g]
  · rw [if_neg h, if_pos ((BitVec.le_total b a).resolve_right h)]
theorem Si.hi_swap (a b : BitVec 64) : (if b ≤ a then a else b) = if a ≤ b then b else a := by
  by_cases h : a ≤ b
  · by_cases g : b ≤ a
    · rw [if_pos h, if_pos g]; exact BitVec.le_antisymm h g
    · rw [if_pos h, if_neg g]
  · rw [if_neg h, if_pos ((BitVec.le_total b a).resolve_right h)]
theorem Si.lo_hi (a b : BitVec 64) : (if a ≤ b then a else b) ≤ (if a ≤ b then b else a) := by
  by_cases h : a ≤ b
  · rw [if_pos h, if_pos h]; exact h
  · rw [if_neg h, if_neg h]; exact (BitVec.le_total b a).resolve_right h
theorem nb64_le {a b : BitVec 64} (h : a ≤ b) : nb64 a ≤ nb64 b := Int.ofNat_le.2 h
theorem u64_lt_of {a b : BitVec 64} (h : ¬ a ≤ b) : nb64 b < nb64 a := by
  have : b.toNat < a.toNat := Nat.lt_of_not_le h
  simp only [nb64]; omega
theorem u64_nlt {a b : BitVec 64} (h : a ≤ b) : ¬ nb64 b < nb64 a := by
  have : a.toNat ≤ b.toNat := h
  simp only [nb64]; omega
theorem sjoint_any (a b : BitVec 64) (w : World) :
    Calls Try.prog 15 #[.int .u64 (nb64 a), .int .u64 (nb64 b)] w fun e w' => e = .returned (.agg #[.int .u64 (nb64 (if a ≤ b then a else b)), .int .u64 (nb64 (if a ≤ b then b else a))]) ∧ Below w.heap.size w w' := by
  by_cases h : a ≤ b
  · have hlt := u64_nlt h
    rw [if_pos h, if_pos h]
    clear h
    go_enter Try.func15, Try.ntmps15
    go_wp2
    refine bodyPost_ret (v := .agg #[.int .u64 (nb64 a), .int .u64 (nb64 b)]) (by simp [results, Try.results15, go_sem]) rfl ⟨rfl, (Below.refl _ _).alloc (Nat.le_refl _) _⟩
  · have hlt := u64_lt_of h
    rw [if_neg h, if_neg h]
    clear h
    go_enter Try.func15, Try.ntmps15
    go_wp2
    refine bodyPost_ret (v := .agg #[.int .u64 (nb64 b), .int .u64 (nb64 a)]) (by simp [results, Try.results15, go_sem]) rfl ⟨rfl, (Below.refl _ _).alloc (Nat.le_refl _) _⟩
set_option maxRecDepth 100000 in
set_option maxHeartbeats 4000000 in
theorem sipJoinsWalkK (ok : SipOk) {H : Type} {enc : TypeId × Value → H} (W : World) (base : Nat) (v0 : Value) (d0 : DataW H) (p0 : List MemPlace) (v1 : Value) (d1 : DataW H) (p1 : List MemPlace) (v2 : Value) (d2 : DataW H) (p2 : List MemPlace)
    (o0 : Value.okWide Try.prog W .any base 22 v0) (o1 : Value.okWide Try.prog W .any base 22 v1) (o2 : Value.okWide Try.prog W .any base 34 v2)
    (h0 : DataW.Trod enc Try.prog W 0 (fun _ => true) true 22 v0 d0 p0) (h1 : DataW.Trod enc Try.prog W 0 (fun _ => true) true 22 v1 d1 p1) (h2 : DataW.Trod enc Try.prog W 0 (fun _ => true) true 34 v2 d2 p2) :
    Calls Try.prog 5 #[v0, v1, v2] W fun e w' => e = .returned (.bool true) ∧ Below W.heap.size W w' := by
  obtain ⟨a, rfl⟩ := arg_u64 Try.underlying22 o0 h0
  obtain ⟨b, rfl⟩ := arg_u64 Try.underlying22 o1 h1
  obtain ⟨l, rfl, hl⟩ := arg_bytes32 Try.underlying34 Try.underlying5 (by kernel_rfl) (by kernel_rfl) o2 h2
  clear o0 h0 o1 h1 o2 h2
  obtain ⟨lo, hlo⟩ : ∃ lo, lo = if a ≤ b then a else b := ⟨_, rfl⟩
  obtain ⟨hi, hhi⟩ : ∃ hi, hi = if a ≤ b then b else a := ⟨_, rfl⟩
  have hle : nb64 lo ≤ nb64 hi := by rw [hlo, hhi]; exact nb64_le (Si.lo_hi a b)
  have HL := Lib.hid (And.intro hl (And.intro hlo hhi))
  clear hl hlo hhi
  go_enter Try.func5, Try.ntmps5
  go_upto_region 1 with fail
  obtain ⟨W1, hW1⟩ : ∃ x, x = W.alloc (.cells (blist l).toArray 34) := ⟨_, rfl⟩
  rw [← hW1]
  have hH1 : Has W1 W.heap.size 34 (blist l).toArray := by rw [hW1]; exact Has.fresh _ _ _
  have hT1 : Below W.heap.size W W1 := by rw [hW1]; exact (Below.refl _ _).alloc (Nat.le_refl _) _
  clear hW1
  go_upto_region 4 with (first
    | (go_at_call 14; refine (ok.joint a b w2).mono ?_; rintro e w3 ⟨rfl, hb3⟩; rw [← HL.out.2.1, ← HL.out.2.2])
    | (go_at_call 7; refine (alive06 ok W1).mono ?_; rintro e w2 ⟨rfl, hb2⟩))
  have hS4 : Has (w3.alloc (.cells #[.int .u64 (nb64 lo), .int .u64 (nb64 hi)] 27)) w3.heap.size 27 #[.int .u64 (nb64 lo), .int .u64 (nb64 hi)] := Has.fresh _ _ _
  have hT3 := hT1.trans ((hb2.trans (hb3.mono hb2.size)).mono hT1.size)
  have hH4 := (hH1.under (hb2.trans (hb3.mono hb2.size)) hH1.lt).past (.cells #[.int .u64 (nb64 lo), .int .u64 (nb64 hi)] 27)
  have hT4 := hT3.alloc hT3.size (.cells #[.int .u64 (nb64 lo), .int .u64 (nb64 hi)] 27)
  generalize w3.alloc (.cells #[.int .u64 (nb64 lo), .int .u64 (nb64 hi)] 27) = w4 at hS4 hH4 hT4 ⊢
  obtain ⟨g, hg⟩ : ∃ g, g = w3.heap.size := ⟨_, rfl⟩
  rw [← hg] at hS4 ⊢
  clear hg
  have hSd := hS4.draw
  have hHd := hH4.draw
  have hTd := hT4.drew
  refine wp_region_held_drew (S := Held w4.drew) (by kernel_rfl) (Held.refl _) (fun hHeld => ?_)
  refine take_at (v := ?_) 0 13 rfl rfl (by kernel_rfl) (by kernel_rfl) (by kernel_rfl) (fun _ _ _ h => h) hHeld (Or.inl ⟨by rfl, ?_⟩) rfl ?_
  rotate_left
  · intro wq hSw
    have hst := (hSd.under hSw hSd.lt).cell_at (i := 0) (v := .int .u64 (nb64 lo)) rfl
    have hst2 := (hSd.under hSw hSd.lt).cell_at (i := 1) (v := .int .u64 (nb64 hi)) rfl
    go_simp
    try with_reducible rfl
  simp only [List.set_cons_zero, List.set_cons_succ]
  refine take_at (v := ?_) 1 14 rfl rfl (by kernel_rfl) (by kernel_rfl) (by kernel_rfl) (fun _ _ _ h => h) hHeld (Or.inl ⟨by rfl, ?_⟩) rfl ?_
  rotate_left
  · intro wq hSw
    go_simp
    try with_reducible rfl
  simp only [List.set_cons_zero, List.set_cons_succ]
  refine take_at (v := ?_) 2 15 rfl rfl (by kernel_rfl) (by kernel_rfl) (by kernel_rfl) (fun _ _ _ h => h) hHeld (Or.inl ⟨by rfl, ?_⟩) rfl ?_
  rotate_left
  · intro wq hSw
    go_simp
    try with_reducible rfl
  simp only [List.set_cons_zero, List.set_cons_succ]
  refine wpAnyH_ready (rs := [3]) (by kernel_rfl) (by simp) ?_
  refine AllReadyH.cons rfl (fun K hK => ?_) AllReadyH.nil
  go_simp
  go_at_call 14; refine (ok.joint b a w4.drew).mono ?_; rintro e w5 ⟨rfl, hB5⟩; rw [Si.lo_swap, Si.hi_swap, ← HL.out.2.1, ← HL.out.2.2]
  refine hK.out _ _ (Held.of hB5) (fun _ => ?_)
  clear hK K
  try simp only [Act.put, List.setIfInBounds_toArray, List.set_cons_zero, List.set_cons_succ]
  refine held_grow (w1 := w5) (Held.of hB5) ?_
  clear hHeld
  have hHeld : Held w5 w5 := Held.refl _
  replace hSd := hSd.under hB5 hSd.lt
  replace hHd := hHd.under hB5 hHd.lt
  replace hTd := hTd.trans (hB5.mono hTd.size)
  refine take_at (v := .bool true) 4 17 rfl rfl (by kernel_rfl) (by kernel_rfl) (by kernel_rfl) (fun _ _ _ h => h) hHeld (Or.inl ⟨by rfl, ?_⟩) rfl ?_
  · intro wq hSw
    go_simp
    skip
  simp only [List.set_cons_zero, List.set_cons_succ]
  refine take_at (v := ?_) 5 18 rfl rfl (by kernel_rfl) (by kernel_rfl) (by kernel_rfl) (fun _ _ _ h => h) hHeld (Or.inl ⟨by rfl, ?_⟩) rfl ?_
  rotate_left
  · intro wq hSw
    go_simp
    try with_reducible rfl
  simp only [List.set_cons_zero, List.set_cons_succ]
  refine take_at (v := ?_) 6 19 rfl rfl (by kernel_rfl) (by kernel_rfl) (by kernel_rfl) (fun _ _ _ h => h) hHeld (Or.inl ⟨by rfl, ?_⟩) rfl ?_
  rotate_left
  · intro wq hSw
    have hst := (hSd.under hSw hSd.lt).cell_at (i := 0) (v := .int .u64 (nb64 lo)) rfl
    have hst2 := (hSd.under hSw hSd.lt).cell_at (i := 1) (v := .int .u64 (nb64 hi)) rfl
    go_simp
    try with_reducible rfl
  simp only [List.set_cons_zero, List.set_cons_succ]
  refine take_at (v := ?_) 7 20 rfl rfl (by kernel_rfl) (by kernel_rfl) (by kernel_rfl) (fun _ _ _ h => h) hHeld (Or.inl ⟨by rfl, ?_⟩) rfl ?_
  rotate_left
  · intro wq hSw
    go_simp
    try with_reducible rfl
  simp only [List.set_cons_zero, List.set_cons_succ]
  refine take_at (v := ?_) 8 21 rfl rfl (by kernel_rfl) (by kernel_rfl) (by kernel_rfl) (fun _ _ _ h => h) hHeld (Or.inl ⟨by rfl, ?_⟩) rfl ?_
  rotate_left
  · intro wq hSw
    go_simp
    try with_reducible rfl
  simp only [List.set_cons_zero, List.set_cons_succ]
  refine wpAnyH_ready (rs := [9]) (by kernel_rfl) (by simp) ?_
  refine AllReadyH.cons rfl (fun K hK => ?_) AllReadyH.nil
  go_simp
  go_at_call 15; refine (sjoint_any a b w5).mono ?_; rintro e w6 ⟨rfl, hB6⟩; rw [← HL.out.2.1, ← HL.out.2.2]
  refine hK.out _ _ (Held.of hB6) (fun _ => ?_)
  clear hK K
  try simp only [Act.put, List.setIfInBounds_toArray, List.set_cons_zero, List.set_cons_succ]
  refine held_grow (w1 := w6) (Held.of hB6) ?_
  clear hHeld
  have hHeld : Held w6 w6 := Held.refl _
  replace hSd := hSd.under hB6 hSd.lt
  replace hHd := hHd.under hB6 hHd.lt
  replace hTd := hTd.trans (hB6.mono hTd.size)
  refine take_at (v := .bool true) 10 23 rfl rfl (by kernel_rfl) (by kernel_rfl) (by kernel_rfl) (fun _ _ _ h => h) hHeld (Or.inl ⟨by rfl, ?_⟩) rfl ?_
  · intro wq hSw
    go_simp
    skip
  simp only [List.set_cons_zero, List.set_cons_succ]
  refine take_at (v := ?_) 11 24 rfl rfl (by kernel_rfl) (by kernel_rfl) (by kernel_rfl) (fun _ _ _ h => h) hHeld (Or.inl ⟨by rfl, ?_⟩) rfl ?_
  rotate_left
  · intro wq hSw
    go_simp
    try with_reducible rfl
  simp only [List.set_cons_zero, List.set_cons_succ]
  refine take_at (v := ?_) 12 25 rfl rfl (by kernel_rfl) (by kernel_rfl) (by kernel_rfl) (fun _ _ _ h => h) hHeld (Or.inl ⟨by rfl, ?_⟩) rfl ?_
  rotate_left
  · intro wq hSw
    go_simp
    try with_reducible rfl
  simp only [List.set_cons_zero, List.set_cons_succ]
  refine take_at (v := ?_) 13 26 rfl rfl (by kernel_rfl) (by kernel_rfl) (by kernel_rfl) (fun _ _ _ h => h) hHeld (Or.inl ⟨by rfl, ?_⟩) rfl ?_
  rotate_left
  · intro wq hSw
    have hst := (hSd.under hSw hSd.lt).cell_at (i := 0) (v := .int .u64 (nb64 lo)) rfl
    have hst2 := (hSd.under hSw hSd.lt).cell_at (i := 1) (v := .int .u64 (nb64 hi)) rfl
    go_simp
    try with_reducible rfl
  simp only [List.set_cons_zero, List.set_cons_succ]
  refine take_at (v := .agg (blist l).toArray) 14 27 rfl rfl (by kernel_rfl) (by kernel_rfl) (by kernel_rfl) (fun _ _ _ h => h) hHeld (yieldsIf_load_mid (by rfl) 34 (.tmp 5) rfl W.heap.size 0 (by rfl) (blist l) _ (fun wq hSw => Has.range8 (hHd.under hSw hHd.lt)) Try.underlying34 rfl (size_hash HL.out.1)) rfl ?_
  simp only [List.set_cons_zero, List.set_cons_succ]
  refine take_at (v := ?_) 16 29 rfl rfl (by kernel_rfl) (by kernel_rfl) (by kernel_rfl) (fun _ _ _ h => h) hHeld (Or.inl ⟨by rfl, ?_⟩) rfl ?_
  rotate_left
  · intro wq hSw
    go_simp
    try with_reducible rfl
  simp only [List.set_cons_zero, List.set_cons_succ]
  refine take_at (v := ?_) 17 30 rfl rfl (by kernel_rfl) (by kernel_rfl) (by kernel_rfl) (fun _ _ _ h => h) hHeld (Or.inl ⟨by rfl, ?_⟩) rfl ?_
  rotate_left
  · intro wq hSw
    go_simp
    try with_reducible rfl
  simp only [List.set_cons_zero, List.set_cons_succ]
  refine take_at (v := .agg (blist l).toArray) 19 32 rfl rfl (by kernel_rfl) (by kernel_rfl) (by kernel_rfl) (fun _ _ _ h => h) hHeld (yieldsIf_load_mid (by rfl) 34 (.tmp 5) rfl W.heap.size 0 (by rfl) (blist l) _ (fun wq hSw => Has.range8 (hHd.under hSw hHd.lt)) Try.underlying34 rfl (size_hash HL.out.1)) rfl ?_
  simp only [List.set_cons_zero, List.set_cons_succ]
  refine wpAnyH_ready (rs := [15]) (by kernel_rfl) (by simp) ?_
  refine AllReadyH.cons rfl (fun K hK => ?_) AllReadyH.nil
  go_simp
  go_at_call 11; refine (ok.short lo hi l w6 HL.out.1).mono ?_; rintro e w7 ⟨rfl, hB7⟩
  refine hK.out _ _ (Held.of hB7) (fun _ => ?_)
  clear hK K
  try simp only [Act.put, List.setIfInBounds_toArray, List.set_cons_zero, List.set_cons_succ]
  refine held_grow (w1 := w7) (Held.of hB7) ?_
  clear hHeld
  have hHeld : Held w7 w7 := Held.refl _
  replace hSd := hSd.under hB7 hSd.lt
  replace hHd := hHd.under hB7 hHd.lt
  replace hTd := hTd.trans (hB7.mono hTd.size)
  refine wpAnyH_ready (rs := [18]) (by kernel_rfl) (by simp) ?_
  refine AllReadyH.cons rfl (fun K hK => ?_) AllReadyH.nil
  go_simp
  go_at_call 14; refine (ok.joint b a w7).mono ?_; rintro e w8 ⟨rfl, hB8⟩; rw [Si.lo_swap, Si.hi_swap, ← HL.out.2.1, ← HL.out.2.2]
  refine hK.out _ _ (Held.of hB8) (fun _ => ?_)
  clear hK K
  try simp only [Act.put, List.setIfInBounds_toArray, List.set_cons_zero, List.set_cons_succ]
  refine held_grow (w1 := w8) (Held.of hB8) ?_
  clear hHeld
  have hHeld : Held w8 w8 := Held.refl _
  replace hSd := hSd.under hB8 hSd.lt
  replace hHd := hHd.under hB8 hHd.lt
  replace hTd := hTd.trans (hB8.mono hTd.size)
  refine wpAnyH_ready (rs := [20]) (by kernel_rfl) (by simp) ?_
  refine AllReadyH.cons rfl (fun K hK => ?_) AllReadyH.nil
  go_simp
  go_at_call 11; refine (ok.short lo hi l w8 HL.out.1).mono ?_; rintro e w9 ⟨rfl, hB9⟩
  refine hK.out _ _ (Held.of hB9) (fun _ => ?_)
  clear hK K
  try simp only [Act.put, List.setIfInBounds_toArray, List.set_cons_zero, List.set_cons_succ]
  refine held_grow (w1 := w9) (Held.of hB9) ?_
  clear hHeld
  have hHeld : Held w9 w9 := Held.refl _
  replace hSd := hSd.under hB9 hSd.lt
  replace hHd := hHd.under hB9 hHd.lt
  replace hTd := hTd.trans (hB9.mono hTd.size)
  refine take_at (v := .bool true) 21 34 rfl rfl (by kernel_rfl) (by kernel_rfl) (by kernel_rfl) (fun _ _ _ h => h) hHeld (Or.inl ⟨by rfl, ?_⟩) rfl ?_
  · intro wq hSw
    go_simp
    skip
  simp only [List.set_cons_zero, List.set_cons_succ]
  refine take_at (v := ?_) 22 35 rfl rfl (by kernel_rfl) (by kernel_rfl) (by kernel_rfl) (fun _ _ _ h => h) hHeld (Or.inl ⟨by rfl, ?_⟩) rfl ?_
  rotate_left
  · intro wq hSw
    go_simp
    try with_reducible rfl
  simp only [List.set_cons_zero, List.set_cons_succ]
  refine take_at (v := ?_) 23 36 rfl rfl (by kernel_rfl) (by kernel_rfl) (by kernel_rfl) (fun _ _ _ h => h) hHeld (Or.inl ⟨by rfl, ?_⟩) rfl ?_
  rotate_left
  · intro wq hSw
    go_simp
    try with_reducible rfl
  simp only [List.set_cons_zero, List.set_cons_succ]
  refine take_at (v := ?_) 24 37 rfl rfl (by kernel_rfl) (by kernel_rfl) (by kernel_rfl) (fun _ _ _ h => h) hHeld (Or.inl ⟨by rfl, ?_⟩) rfl ?_
  rotate_left
  · intro wq hSw
    go_simp
    try with_reducible rfl
  simp only [List.set_cons_zero, List.set_cons_succ]
  refine take_at (v := ?_) 25 38 rfl rfl (by kernel_rfl) (by kernel_rfl) (by kernel_rfl) (fun _ _ _ h => h) hHeld (Or.inl ⟨by rfl, ?_⟩) rfl ?_
  rotate_left
  · intro wq hSw
    have hst := (hSd.under hSw hSd.lt).cell_at (i := 0) (v := .int .u64 (nb64 lo)) rfl
    have hst2 := (hSd.under hSw hSd.lt).cell_at (i := 1) (v := .int .u64 (nb64 hi)) rfl
    go_simp
    try with_reducible rfl
  simp only [List.set_cons_zero, List.set_cons_succ]
  refine take_at (v := ?_) 26 39 rfl rfl (by kernel_rfl) (by kernel_rfl) (by kernel_rfl) (fun _ _ _ h => h) hHeld (Or.inl ⟨by rfl, ?_⟩) rfl ?_
  rotate_left
  · intro wq hSw
    go_simp
    try with_reducible rfl
  simp only [List.set_cons_zero, List.set_cons_succ]
  refine take_at (v := ?_) 27 40 rfl rfl (by kernel_rfl) (by kernel_rfl) (by kernel_rfl) (fun _ _ _ h => h) hHeld (Or.inl ⟨by rfl, ?_⟩) rfl ?_
  rotate_left
  · intro wq hSw
    have hst := (hSd.under hSw hSd.lt).cell_at (i := 0) (v := .int .u64 (nb64 lo)) rfl
    have hst2 := (hSd.under hSw hSd.lt).cell_at (i := 1) (v := .int .u64 (nb64 hi)) rfl
    go_simp
    try with_reducible rfl
  simp only [List.set_cons_zero, List.set_cons_succ]
  refine take_at (v := .bool true) 28 41 rfl rfl (by kernel_rfl) (by kernel_rfl) (by kernel_rfl) (fun _ _ _ h => h) hHeld (Or.inl ⟨by rfl, ?_⟩) rfl ?_
  · intro wq hSw
    go_simp
    skip
  simp only [List.set_cons_zero, List.set_cons_succ]
  refine take_at (v := ?_) 29 42 rfl rfl (by kernel_rfl) (by kernel_rfl) (by kernel_rfl) (fun _ _ _ h => h) hHeld (Or.inl ⟨by rfl, ?_⟩) rfl ?_
  rotate_left
  · intro wq hSw
    go_simp
    try with_reducible rfl
  simp only [List.set_cons_zero, List.set_cons_succ]
  refine take_at (v := ?_) 30 6 rfl rfl (by kernel_rfl) (by kernel_rfl) (by kernel_rfl) (fun _ _ _ h => h) hHeld (Or.inl ⟨by rfl, ?_⟩) rfl ?_
  rotate_left
  · intro wq hSw
    go_simp
    try with_reducible rfl
  simp only [List.set_cons_zero, List.set_cons_succ]
  refine wpAnyH_done (by kernel_rfl) ?_ _
  go_wp2_with fail
  go_ret
  exact ⟨rfl, hTd⟩
end Go.Proofs.Ytenoholdealphaa
