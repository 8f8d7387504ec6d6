/- The reference's powers and traces. -/
import Derived.Test.YtjcfnlmmebhldaaGfRef
namespace Go.Proofs.Ytjcfnlmmebhldaa
open Go.RowKit
theorem u64_two (n : BitVec 64) : n.toNat = 2 * (n / 2#64).toNat + (if n % 2#64 == 1#64 then 1 else 0) := by
  have e : n % 2#64 = 1#64 ↔ n.toNat % 2 = 1 := by
    rw [← BitVec.toNat_inj, BitVec.toNat_umod]
    simp only [BitVec.toNat_ofNat, Nat.reducePow, Nat.reduceMod]
  have e2 : (n / 2#64).toNat = n.toNat / 2 := by rw [BitVec.toNat_udiv]; rfl
  rw [e2]
  by_cases h : n % 2#64 = 1#64
  · rw [if_pos (by rw [beq_iff_eq]; exact h)]
    have := e.1 h
    omega
  · rw [if_neg (by rw [beq_iff_eq]; exact h)]
    have : ¬ n.toNat % 2 = 1 := fun hh => h (e.2 hh)
    omega
theorem pow_even (a : BitVec 32) (n : BitVec 64) (h : (n % 2#64 == 1#64) = false) : Gf.mul (Gf.pow a (n / 2#64).toNat) (Gf.pow a (n / 2#64).toNat) = Gf.pow a n.toNat := by
  have := u64_two n
  rw [h] at this
  rw [this, ← Gf.pow_add]
  congr 1
  simp; omega
theorem pow_odd (a : BitVec 32) (n : BitVec 64) (h : (n % 2#64 == 1#64) = true) : Gf.mul (Gf.mul (Gf.pow a (n / 2#64).toNat) (Gf.pow a (n / 2#64).toNat)) a = Gf.pow a n.toNat := by
  have := u64_two n
  rw [h] at this
  rw [this, ← Gf.pow_add, if_pos rfl, show 2 * (n / 2#64).toNat = (n / 2#64).toNat + (n / 2#64).toNat from by omega]
  rfl
def powQ (a : BitVec 32) (n : BitVec 64) : BitVec 32 := Gf.pow a n.toNat
theorem rpower_any (a : BitVec 32) : ∀ (k : Nat) (n : BitVec 64), n.toNat ≤ k → ∀ w : World,
    Calls Try.prog 18 #[.int .u32 (nb32 a), .int .u64 (nb64 n)] w fun e w' => e = .returned (.int .u32 (nb32 (powQ a n))) ∧ w = w' := by
  intro k
  induction k with
  | zero =>
    intro n hn w
    obtain rfl : n = 0#64 := BitVec.eq_of_toNat_eq (by simpa using hn)
    go_enter Try.func18, Try.ntmps18
    go_wp2
    go_ret
    exact ⟨rfl, rfl⟩
  | succ k ih =>
    intro n hn w
    by_cases h0 : n = 0#64
    · subst h0
      clear ih hn
      go_enter Try.func18, Try.ntmps18
      go_wp2
      go_ret
      exact ⟨rfl, rfl⟩
    · have hz : (n == 0#64) = false := by rw [beq_eq_false_iff_ne]; exact h0
      have h0' : n.toNat ≠ 0 := fun h => h0 (BitVec.eq_of_toNat_eq h)
      have ih' := ih (n / 2#64) (by rw [BitVec.toNat_udiv]; show n.toNat / 2 ≤ k; omega)
      have IH : Hid (∀ w : World, Calls Try.prog 18 #[.int .u32 (nb32 a), .int .u64 (nb64 (n / 2#64))] w fun e w' => e = .returned (.int .u32 (nb32 (powQ a (n / 2#64)))) ∧ w = w') := ih'
      clear ih ih' hn h0 h0'
      cases hb : (n % 2#64 == 1#64)
      · have hf : Gf.mul (powQ a (n / 2#64)) (powQ a (n / 2#64)) = powQ a n := pow_even a n hb
        have HF := Lib.hid hf
        clear hf
        go_enter Try.func18, Try.ntmps18
        go_wp2_with (first
          | (go_at_call 18; refine (IH.out _).mono ?_; rintro e w' ⟨rfl, rfl⟩)
          | (go_at_call 13; refine (rmul_any _ _ _).mono ?_; rintro e w' ⟨rfl, rfl⟩))
        go_ret
        exact ⟨ret_v (by rw [← HF.out]; rfl), rfl⟩
      · have hf : Gf.mul (Gf.mul (powQ a (n / 2#64)) (powQ a (n / 2#64))) a = powQ a n := pow_odd a n hb
        have HF := Lib.hid hf
        clear hf
        go_enter Try.func18, Try.ntmps18
        go_wp2_with (first
          | (go_at_call 18; refine (IH.out _).mono ?_; rintro e w' ⟨rfl, rfl⟩)
          | (go_at_call 13; refine (rmul_any _ _ _).mono ?_; rintro e w' ⟨rfl, rfl⟩))
        go_ret
        exact ⟨ret_v (by rw [← HF.out]; rfl), rfl⟩
theorem rpow (a : BitVec 32) (n : BitVec 64) (w : World) :
    Calls Try.prog 18 #[.int .u32 (nb32 a), .int .u64 (nb64 n)] w fun e w' => e = .returned (.int .u32 (nb32 (powQ a n))) ∧ w = w' := rpower_any a n.toNat n (Nat.le_refl _) w
theorem rroot_any (a : BitVec 32) (w : World) :
    Calls Try.prog 22 #[.int .u32 (nb32 a)] w fun e w' => e = .returned (.int .u32 (nb32 (Gf.squares a 31))) ∧ w = w' := by
  have hf : powQ a 2147483648#64 = Gf.squares a 31 := (Gf.squares_pow a 31).symm
  have h : ∀ w : World, Calls Try.prog 18 #[.int .u32 (nb32 a), .int .u64 2147483648] w fun e w' => e = .returned (.int .u32 (nb32 (Gf.squares a 31))) ∧ w = w' := fun w => by
    have := rpow a 2147483648#64 w
    rwa [hf] at this
  have H : Hid (∀ w : World, Calls Try.prog 18 #[.int .u32 (nb32 a), .int .u64 2147483648] w fun e w' => e = .returned (.int .u32 (nb32 (Gf.squares a 31))) ∧ w = w') := h
  clear h hf
  go_enter Try.func22, Try.ntmps22
  go_wp2_with (go_at_call 18; refine (H.out _).mono ?_; rintro e w' ⟨rfl, rfl⟩)
  go_ret
  exact ⟨rfl, rfl⟩
theorem powQ_two (a : BitVec 32) (k : Nat) (h : k < 32) : powQ a (1#64 <<< k) = Gf.squares a k := by
  unfold powQ
  rw [Gf.squares_pow]
  congr 1
  rw [BitVec.toNat_shiftLeft, Nat.shiftLeft_eq]
  simp only [BitVec.toNat_ofNat, Nat.reducePow, Nat.reduceMod, Nat.one_mul]
  exact Nat.mod_eq_of_lt (Nat.lt_of_lt_of_le (Nat.pow_lt_pow_right (by omega) h) (by decide))
theorem rtrace_any (a : BitVec 32) (w : World) :
    Calls Try.prog 26 #[.int .u32 (nb32 a)] w fun e w' => e = .returned (.int .u32 (nb32 (Gf.trace a 32))) ∧ w = w' := by
  go_enter Try.func26, Try.ntmps26
  go_wp2
  go_loop [3, 4] (fun t i => ∃ k : Nat, k ≤ 32 ∧ i = .int .i64 k ∧ t = .int .u32 (nb32 (Gf.trace a k))) (fun _ i => 32 - (intOf i).toNat)
  case atStart => exact ⟨0, Nat.zero_le _, rfl, rfl⟩
  case round =>
    obtain ⟨k, hk, rfl, rfl⟩ := hrel
    by_cases hlt : k < 32
    · have hs : Gf.trace a k ^^^ powQ a (1#64 <<< k) = Gf.trace a (k + 1) := by rw [powQ_two a k hlt]; rfl
      have HS := Lib.hid hs
      clear hs
      go_wp2_with (go_at_call 18; refine (rpow _ _ _).mono ?_; rintro e w' ⟨rfl, rfl⟩)
      go_round
      case rel => exact ⟨k + 1, by omega, by go_num, by rw [HS.out]⟩
      case measure => simp [intOf]; omega
    · obtain rfl : k = 32 := by omega
      go_wp2
      go_ret
      exact ⟨rfl, rfl⟩
end Go.Proofs.Ytjcfnlmmebhldaa
