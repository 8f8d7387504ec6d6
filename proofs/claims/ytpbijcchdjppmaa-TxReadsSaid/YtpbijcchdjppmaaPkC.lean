/- the reference's Count, Text, Hash -/
import Derived.Test.YtpbijcchdjppmaaPkR
namespace Go.Proofs.Ytpbijcchdjppmaa
open Go Go.RowKit Go.ChangeShapes Go.WideShapes
theorem int_to_u64 (z : Int) : IntKind.u64.wrap z = nb64 (BitVec.ofInt 64 z) := by
  rw [IntKind.wrap_u64]
  simp only [nb64, BitVec.toNat_ofInt]
  omega
set_option maxRecDepth 100000 in
set_option maxHeartbeats 4000000 in
theorem rcount_big (z : Int) (t : BitVec 8) (K : Nat) (hK : t = 253#8 ∧ K = 2 ∧ 252 < z ∧ z ≤ 65535 ∨ t = 254#8 ∧ K = 4 ∧ 65535 < z ∧ z ≤ 4294967295 ∨ t = 255#8 ∧ K = 8 ∧ 4294967295 < z) (w : World) :
    Calls Try.prog 65 #[.int .i64 z] w (BytesPost8 5 w.heap.size ([t] ++ Pk.le (BitVec.ofInt 64 z) K) w) := by
  have hcv := int_to_u64 z
  obtain ⟨x, hx⟩ : ∃ x, x = BitVec.ofInt 64 z := ⟨_, rfl⟩
  rw [← hx] at hcv ⊢
  have hL := Has.fresh w 5 (blist [t]).toArray
  have hB1 : Below w.heap.size w (w.alloc (.cells (blist [t]).toArray 5)) := (Below.refl _ _).alloc (Nat.le_refl _) _
  have HO := Lib.hid (ownB_of_has (B := w.heap.size) (n := 1) (Nat.le_refl _) hL rfl (by omega))
  have HB := Lib.hid hB1
  clear hL hB1 hx
  rcases hK with ⟨rfl, rfl, h1, h2⟩ | ⟨rfl, rfl, h1, h2⟩ | ⟨rfl, rfl, h1⟩
  case' inl => have hN := fun w => rnum_2 x w
  case' inr.inl => have hN := fun w => rnum_4 x w
  case' inr.inr => have hN := fun w => rnum_8 x w
  case' inl => have hz3 : z ≤ 65535 := h2
  case' inr.inl => have hz3 : ¬ (z ≤ 65535) := by omega
  case' inr.inr => have hz3 : ¬ (z ≤ 65535) := by omega
  case' inl => have hz4 : z ≤ 4294967295 := by omega
  case' inr.inl => have hz4 : z ≤ 4294967295 := by omega
  case' inr.inr => have hz4 : ¬ (z ≤ 4294967295) := by omega
  all_goals
    have hz1 : ¬ (z < 0) := by omega
    have hz2 : ¬ (z ≤ 252) := by omega
    have HN := Lib.hid hN
    clear hN h1
    try clear h2
    go_enter Try.func65, Try.ntmps65
  case inl =>
    go_wp2_with (first
      | (at_builtin; have ho2 := HO.out.below hb2; refine wpList_append_bytes rfl (.tmp 15) (.tmp 18) 38 rfl 5 Try.underlying38 info_byte w.heap.size _ _ rfl ho2 a2 2 c2 _ rfl hr2 hc2 (by simp) (Nat.le_trans HB.out.size hb2.size) ?_; intro v3 w3 ho3 hg3)
      | (go_at_call 67; refine (HN.out _).mono ?_; rintro e w2 ⟨v2, rfl, hv2, hb2⟩; obtain ⟨a2, c2, rfl, _, hc2, hr2⟩ := hv2.shape (Pk.le_len _ 2)))
    go_ret
    exact ⟨_, rfl, ho3, below_own_rowb (HB.out.trans (hb2.mono HB.out.size)) hg3 ho2.lt⟩
  case inr.inl =>
    go_wp2_with (first
      | (at_builtin; have ho2 := HO.out.below hb2; refine wpList_append_bytes rfl (.tmp 23) (.tmp 26) 38 rfl 5 Try.underlying38 info_byte w.heap.size _ _ rfl ho2 a2 4 c2 _ rfl hr2 hc2 (by simp) (Nat.le_trans HB.out.size hb2.size) ?_; intro v3 w3 ho3 hg3)
      | (go_at_call 67; refine (HN.out _).mono ?_; rintro e w2 ⟨v2, rfl, hv2, hb2⟩; obtain ⟨a2, c2, rfl, _, hc2, hr2⟩ := hv2.shape (Pk.le_len _ 4)))
    go_ret
    exact ⟨_, rfl, ho3, below_own_rowb (HB.out.trans (hb2.mono HB.out.size)) hg3 ho2.lt⟩
  case inr.inr =>
    go_wp2_with (first
      | (at_builtin; have ho2 := HO.out.below hb2; refine wpList_append_bytes rfl (.tmp 28) (.tmp 31) 38 rfl 5 Try.underlying38 info_byte w.heap.size _ _ rfl ho2 a2 8 c2 _ rfl hr2 hc2 (by simp) (Nat.le_trans HB.out.size hb2.size) ?_; intro v3 w3 ho3 hg3)
      | (go_at_call 67; refine (HN.out _).mono ?_; rintro e w2 ⟨v2, rfl, hv2, hb2⟩; obtain ⟨a2, c2, rfl, _, hc2, hr2⟩ := hv2.shape (Pk.le_len _ 8)))
    go_ret
    exact ⟨_, rfl, ho3, below_own_rowb (HB.out.trans (hb2.mono HB.out.size)) hg3 ho2.lt⟩
theorem rcount_any (z : Int) (w : World) : Calls Try.prog 65 #[.int .i64 z] w (BytesPost8 5 w.heap.size (Pk.count z) w) := by
  unfold Pk.count
  by_cases h0 : z < 0
  · rw [if_pos h0]
    go_enter Try.func65, Try.ntmps65
    go_wp2
    go_ret
    exact ⟨_, rfl, OwnB.nil _ _ _, Below.refl _ _⟩
  · rw [if_neg h0]
    by_cases h1 : z ≤ 252
    · rw [if_pos h1]
      have hcv := int_to_u64 z
      obtain ⟨x, hx⟩ : ∃ x, x = BitVec.ofInt 64 z := ⟨_, rfl⟩
      rw [← hx] at hcv ⊢
      clear hx
      have HN := Lib.hid (rnum_1 x w)
      go_enter Try.func65, Try.ntmps65
      go_wp2_with (go_at_call 67; refine HN.out.mono ?_; rintro e w2 ⟨v2, rfl, hv2, hb2⟩)
      go_ret
      exact ⟨_, rfl, hv2, hb2⟩
    · rw [if_neg h1]
      by_cases h2 : z ≤ 65535
      · rw [if_pos h2]
        exact rcount_big z _ 2 (.inl ⟨rfl, rfl, by omega, h2⟩) w
      · rw [if_neg h2]
        by_cases h3 : z ≤ 4294967295
        · rw [if_pos h3]
          exact rcount_big z _ 4 (.inr (.inl ⟨rfl, rfl, by omega, h3⟩)) w
        · rw [if_neg h3]
          exact rcount_big z _ 8 (.inr (.inr ⟨rfl, rfl, by omega⟩)) w
end Go.Proofs.Ytpbijcchdjppmaa
