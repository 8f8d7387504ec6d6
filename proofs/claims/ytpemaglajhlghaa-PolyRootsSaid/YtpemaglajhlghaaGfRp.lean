/- The reference's powers and traces. -/
import Derived.Test.YtpemaglajhlghaaGfRef
namespace Go.Proofs.Ytpemaglajhlghaa
open Go.RowKit
theorem u64_two (n : BitVec 64) : n.toNat = 2 * (n / 2#64).toNat + (if n % 2#64 == 1#64 then 1 else 0) := by
  have e : n % 2#64 = 1#64 ↔ n.toNat % 2 = 1 := by
    rw [← BitVec.toNat_inj, BitVec.toNat_umod]
    simp only [BitVec.toNat_ofNat, Nat.reducePow, Nat.reduceMod]
  have e2 : (n / 2#64).toNat = n.toNat / 2 := by rw [BitVec.toNat_udiv]; rfl
  rw [e2]
  by_cases h : n % 2#64 = 1#64
  · rw [if_pos (by rw [beq_iff_eq]; exact h)]
    have := e.1 h
    omega
  · rw [if_neg (by rw [beq_iff_eq]; exact h)]
    have : ¬ n.toNat % 2 = 1 := fun hh => h (e.2 hh)
    omega
theorem pow_even (a : BitVec 32) (n : BitVec 64) (h : (n % 2#64 == 1#64) = false) : Gf.mul (Gf.pow a (n / 2#64).toNat) (Gf.pow a (n / 2#64).toNat) = Gf.pow a n.toNat := by
  have := u64_two n
  rw [h] at this
  rw [this, ← Gf.pow_add]
  congr 1
  simp; omega
theorem pow_odd (a : BitVec 32) (n : BitVec 64) (h : (n % 2#64 == 1#64) = true) : Gf.mul (Gf.mul (Gf.pow a (n / 2#64).toNat) (Gf.pow a (n / 2#64).toNat)) a = Gf.pow a n.toNat := by
  have := u64_two n
  rw [h] at this
  rw [this, ← Gf.pow_add, if_pos rfl, show 2 * (n / 2#64).toNat = (n / 2#64).toNat + (n / 2#64).toNat from by omega]
  rfl
def powQ (a : BitVec 32) (n : BitVec 64) : BitVec 32 := Gf.pow a n.toNat
theorem rpower_any (a : BitVec 32) : ∀ (k : Nat) (n : BitVec 64), n.toNat ≤ k → ∀ w : World,
    Calls Try.prog 44 #[.int .u32 (nb32 a), .int .u64 (nb64 n)] w fun e w' => e = .returned (.int .u32 (nb32 (powQ a n))) ∧ w = w' := by
  intro k
  induction k with
  | zero =>
    intro n hn w
    obtain rfl : n = 0#64 := BitVec.eq_of_toNat_eq (by simpa using hn)
    go_enter Try.func44, Try.ntmps44
    go_wp2
    go_ret
    exact ⟨rfl, rfl⟩
  | succ k ih =>
    intro n hn w
    by_cases h0 : n = 0#64
    · subst h0
      clear ih hn
      go_enter Try.func44, Try.ntmps44
      go_wp2
      go_ret
      exact ⟨rfl, rfl⟩
    · have hz : (n == 0#64) = false := by rw [beq_eq_false_iff_ne]; exact h0
      have h0' : n.toNat ≠ 0 := fun h => h0 (BitVec.eq_of_toNat_eq h)
      have ih' := ih (n / 2#64) (by rw [BitVec.toNat_udiv]; show n.toNat / 2 ≤ k; omega)
      have IH : Hid (∀ w : World, Calls Try.prog 44 #[.int .u32 (nb32 a), .int .u64 (nb64 (n / 2#64))] w fun e w' => e = .returned (.int .u32 (nb32 (powQ a (n / 2#64)))) ∧ w = w') := ih'
      clear ih ih' hn h0 h0'
      cases hb : (n % 2#64 == 1#64)
      · have hf : Gf.mul (powQ a (n / 2#64)) (powQ a (n / 2#64)) = powQ a n := pow_even a n hb
        have HF := Lib.hid hf
        clear hf
        go_enter Try.func44, Try.ntmps44
        go_wp2_with (first
          | (go_at_call 44; refine (IH.out _).mono ?_; rintro e w' ⟨rfl, rfl⟩)
          | (go_at_call 40; refine (rmul_any _ _ _).mono ?_; rintro e w' ⟨rfl, rfl⟩))
        go_ret
        exact ⟨ret_v (by rw [← HF.out]; rfl), rfl⟩
      · have hf : Gf.mul (Gf.mul (powQ a (n / 2#64)) (powQ a (n / 2#64))) a = powQ a n := pow_odd a n hb
        have HF := Lib.hid hf
        clear hf
        go_enter Try.func44, Try.ntmps44
        go_wp2_with (first
          | (go_at_call 44; refine (IH.out _).mono ?_; rintro e w' ⟨rfl, rfl⟩)
          | (go_at_call 40; refine (rmul_any _ _ _).mono ?_; rintro e w' ⟨rfl, rfl⟩))
        go_ret
        exact ⟨ret_v (by rw [← HF.out]; rfl), rfl⟩
theorem rpow (a : BitVec 32) (n : BitVec 64) (w : World) :
    Calls Try.prog 44 #[.int .u32 (nb32 a), .int .u64 (nb64 n)] w fun e w' => e = .returned (.int .u32 (nb32 (powQ a n))) ∧ w = w' := rpower_any a n.toNat n (Nat.le_refl _) w
theorem powQ_two (a : BitVec 32) (k : Nat) (h : k < 32) : powQ a (1#64 <<< k) = Gf.squares a k := by
  unfold powQ
  rw [Gf.squares_pow]
  congr 1
  rw [BitVec.toNat_shiftLeft, Nat.shiftLeft_eq]
  simp only [BitVec.toNat_ofNat, Nat.reducePow, Nat.reduceMod, Nat.one_mul]
  exact Nat.mod_eq_of_lt (Nat.lt_of_lt_of_le (Nat.pow_lt_pow_right (by omega) h) (by decide))
end Go.Proofs.Ytpemaglajhlghaa
