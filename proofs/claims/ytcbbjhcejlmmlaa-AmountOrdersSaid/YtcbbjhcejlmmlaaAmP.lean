/- how fee-rates are ordered, pure: for AmountOrders -/
import Derived.Test.YtcbbjhcejlmmlaaAmR
namespace Go.Proofs.Ytcbbjhcejlmmlaa.Am
theorem cmpN_same (x y : Nat) : cmpN x y x y = 0 := by
  unfold cmpN
  rw [if_neg (Nat.lt_irrefl _), if_neg (Nat.lt_irrefl _)]
theorem cmpN_le {x y u v : Nat} : cmpN x y u v ≤ 0 ↔ x * v ≤ u * y := by
  unfold cmpN
  by_cases h : x * v < u * y
  · rw [if_pos h]; omega
  · rw [if_neg h]
    by_cases g : u * y < x * v
    · rw [if_pos g]; omega
    · rw [if_neg g]; omega
theorem cmpN_lt {x y u v : Nat} : cmpN x y u v < 0 ↔ x * v < u * y := by
  unfold cmpN
  by_cases h : x * v < u * y
  · rw [if_pos h]; omega
  · rw [if_neg h]
    by_cases g : u * y < x * v
    · rw [if_pos g]; omega
    · rw [if_neg g]; omega
theorem cmpN_eq {x y u v : Nat} : cmpN x y u v = 0 ↔ x * v = u * y := by
  unfold cmpN
  by_cases h : x * v < u * y
  · rw [if_pos h]; omega
  · rw [if_neg h]
    by_cases g : u * y < x * v
    · rw [if_pos g]; omega
    · rw [if_neg g]; omega
theorem cmpN_trans {x y u v s t : Nat} (hv : 0 < v) (h : cmpN x y u v ≤ 0) (g : cmpN u v s t ≤ 0) : cmpN x y s t ≤ 0 := by
  rw [cmpN_le] at h g ⊢
  have h1 : x * v * t ≤ u * y * t := Nat.mul_le_mul_right _ h
  have h2 : u * t * y ≤ s * v * y := Nat.mul_le_mul_right _ g
  have e1 : u * y * t = u * t * y := Nat.mul_right_comm _ _ _
  have e2 : x * v * t = x * t * v := Nat.mul_right_comm _ _ _
  have e3 : s * v * y = s * y * v := Nat.mul_right_comm _ _ _
  exact Nat.le_of_mul_le_mul_right (by omega : x * t * v ≤ s * y * v) hv
/-- the mediant lies between -/
theorem cmpN_left {x y u v : Nat} : (cmpN x y u v ≤ 0 → cmpN x y (x + u) (y + v) ≤ 0) ∧ (cmpN x y u v < 0 → cmpN x y (x + u) (y + v) < 0) := by
  rw [cmpN_le, cmpN_le, cmpN_lt, cmpN_lt, Nat.mul_add, Nat.add_mul]
  omega
theorem cmpN_right {x y u v : Nat} : (cmpN x y u v ≤ 0 → cmpN (x + u) (y + v) u v ≤ 0) ∧ (cmpN x y u v < 0 → cmpN (x + u) (y + v) u v < 0) := by
  rw [cmpN_le, cmpN_le, cmpN_lt, cmpN_lt, Nat.mul_add, Nat.add_mul]
  omega
theorem cmp_neg (f v g u : Int) : cmp f v g u = -cmp g u f v := by
  unfold cmp
  by_cases h : Right f v ∧ Right g u
  · rw [if_pos h, if_pos ⟨h.2, h.1⟩, cmpN_neg]
  · rw [if_neg h, if_neg (fun e => h ⟨e.2, e.1⟩)]; rfl
theorem cmp_same (f v : Int) : cmp f v f v = 0 := by
  unfold cmp
  by_cases h : Right f v ∧ Right f v
  · rw [if_pos h, cmpN_same]
  · rw [if_neg h]
theorem cmp_pos {f v g u : Int} (ha : Right f v) (hb : Right g u) : cmp f v g u = cmpN f.toNat v.toNat g.toNat u.toNat := if_pos ⟨ha, hb⟩
theorem cmp_trans {f v g u h k : Int} (ha : Right f v) (hb : Right g u) (hc : Right h k) (h1 : cmp f v g u ≤ 0) (h2 : cmp g u h k ≤ 0) : cmp f v h k ≤ 0 := by
  rw [cmp_pos ha hb] at h1
  rw [cmp_pos hb hc] at h2
  rw [cmp_pos ha hc]
  exact cmpN_trans (by have := hb.2.1; omega) h1 h2
/-- two put together lie between both -/
theorem cmp_between {f v g u : Int} (ha : Right f v) (hb : Right g u) (hm : Right (f + g) (v + u)) (h : cmp f v g u ≤ 0) :
    cmp f v (f + g) (v + u) ≤ 0 ∧ cmp (f + g) (v + u) g u ≤ 0 ∧ (cmp f v g u = 0 ∨ cmp f v (f + g) (v + u) < 0 ∧ cmp (f + g) (v + u) g u < 0) := by
  have e1 : (f + g).toNat = f.toNat + g.toNat := by have := ha.1.1; have := hb.1.1; omega
  have e2 : (v + u).toNat = v.toNat + u.toNat := by have := ha.2.1; have := hb.2.1; omega
  rw [cmp_pos ha hb] at h ⊢
  rw [cmp_pos ha hm, cmp_pos hm hb, e1, e2]
  refine ⟨cmpN_left.1 h, cmpN_right.1 h, ?_⟩
  by_cases h0 : cmpN f.toNat v.toNat g.toNat u.toNat = 0
  · exact Or.inl h0
  · exact Or.inr ⟨cmpN_left.2 (by omega), cmpN_right.2 (by omega)⟩
theorem cmp_between' {f v g u : Int} (ha : Right f v) (hb : Right g u) (hm : Right (f + g) (v + u)) (h : 0 < cmp f v g u) :
    cmp g u (f + g) (v + u) ≤ 0 ∧ cmp (f + g) (v + u) f v ≤ 0 ∧ (cmp g u f v = 0 ∨ cmp g u (f + g) (v + u) < 0 ∧ cmp (f + g) (v + u) f v < 0) := by
  have hn := cmp_neg f v g u
  have := cmp_between hb ha (by rw [Int.add_comm g f, Int.add_comm u v]; exact hm) (by omega)
  rw [Int.add_comm g f, Int.add_comm u v] at this
  exact this
end Go.Proofs.Ytcbbjhcejlmmlaa.Am
