/- The reference's powers and traces. -/
import Derived.Test.YtlackhjlnoefcaaGfRef
namespace Go.Proofs.Ytlackhjlnoefcaa
open Go.RowKit
theorem u64_two (n : BitVec 64) : n.toNat = 2 * (n / 2#64).toNat + (if n % 2#64 == 1#64 then 1 else 0) := by
  have e : n % 2#64 = 1#64 ↔ n.toNat % 2 = 1 := by
    rw [← BitVec.toNat_inj, BitVec.toNat_umod]
    simp only [BitVec.toNat_ofNat, Nat.reducePow, Nat.reduceMod]
  have e2 : (n / 2#64).toNat = n.toNat / 2 := by rw [BitVec.toNat_udiv]; rfl
  rw [e2]
  by_cases h : n % 2#64 = 1#64
  · rw [if_pos (by rw [beq_iff_eq]; exact h)]
    have := e.1 h
    omega
  · rw [if_neg (by rw [beq_iff_eq]; exact h)]
    have : ¬ n.toNat % 2 = 1 := fun hh => h (e.2 hh)
    omega
theorem pow_even (a : BitVec 32) (n : BitVec 64) (h : (n % 2#64 == 1#64) = false) : Gf.mul (Gf.pow a (n / 2#64).toNat) (Gf.pow a (n / 2#64).toNat) = Gf.pow a n.toNat := by
  have := u64_two n
  rw [h] at this
  rw [this, ← Gf.pow_add]
  congr 1
  simp; omega
theorem pow_odd (a : BitVec 32) (n : BitVec 64) (h : (n % 2#64 == 1#64) = true) : Gf.mul (Gf.mul (Gf.pow a (n / 2#64).toNat) (Gf.pow a (n / 2#64).toNat)) a = Gf.pow a n.toNat := by
  have := u64_two n
  rw [h] at this
  rw [this, ← Gf.pow_add, if_pos rfl, show 2 * (n / 2#64).toNat = (n / 2#64).toNat + (n / 2#64).toNat from by omega]
  rfl
def powQ (a : BitVec 32) (n : BitVec 64) : BitVec 32 := Gf.pow a n.toNat
theorem powQ_two (a : BitVec 32) (k : Nat) (h : k < 32) : powQ a (1#64 <<< k) = Gf.squares a k := by
  unfold powQ
  rw [Gf.squares_pow]
  congr 1
  rw [BitVec.toNat_shiftLeft, Nat.shiftLeft_eq]
  simp only [BitVec.toNat_ofNat, Nat.reducePow, Nat.reduceMod, Nat.one_mul]
  exact Nat.mod_eq_of_lt (Nat.lt_of_lt_of_le (Nat.pow_lt_pow_right (by omega) h) (by decide))
end Go.Proofs.Ytlackhjlnoefcaa
