/- Powers, inverses, roots, traces and solutions of package gf. -/
import Derived.Test.YtlackhjlnoefcaaGfW
import Derived.Test.YtlackhjlnoefcaaGfA
import Derived.Lib.Hide
namespace Go.Proofs.Ytlackhjlnoefcaa
open Go.RowKit
theorem u64_halves (n : BitVec 64) : n.toNat = 2 * (n >>> 1).toNat + (if n &&& 1#64 == 1#64 then 1 else 0) := by
  have e : n &&& 1#64 = 1#64 ↔ n.toNat % 2 = 1 := by
    rw [← BitVec.toNat_inj, BitVec.toNat_and]
    simp only [BitVec.toNat_ofNat, Nat.reducePow, Nat.reduceMod, Nat.and_one_is_mod]
  rw [BitVec.toNat_ushiftRight, Nat.shiftRight_eq_div_pow]
  by_cases h : n &&& 1#64 = 1#64
  · simp only [h, beq_self_eq_true, if_true]
    have := e.1 h
    omega
  · have : ¬ n.toNat % 2 = 1 := fun hh => h (e.2 hh)
    simp only [beq_iff_eq, h, if_false]
    omega
theorem power_round (p a : BitVec 32) (n : BitVec 64) (r : BitVec 32) (h : Gf.mul p (Gf.pow a n.toNat) = r) :
    Gf.mul (if n &&& 1#64 == 1#64 then Gf.mul p a else p) (Gf.pow (Gf.square a) (n >>> 1).toNat) = r := by
  rw [← h, Gf.pow_square]
  have := u64_halves n
  by_cases hc : (n &&& 1#64 == 1#64) = true
  · rw [if_pos hc] at this ⊢
    rw [this, Gf.pow, Gf.mul_assoc, Gf.mul_comm a]
  · rw [if_neg hc] at this ⊢
    rw [this]; rfl
def PowRel (a0 : BitVec 32) (n0 : BitVec 64) (p a : BitVec 32) (n : BitVec 64) : Prop := Gf.mul p (Gf.pow a n.toNat) = Gf.pow a0 n0.toNat
set_option maxHeartbeats 400000 in
theorem power_any (a : BitVec 32) (n : BitVec 64) (w : World) :
    Calls Try.prog 72 #[.int .u32 (nb32 a), .int .u64 (nb64 n)] w fun e w' => e = .returned (.int .u32 (nb32 (Gf.pow a n.toNat))) ∧ w = w' := by
  go_enter Try.func72, Try.ntmps72
  go_wp2
  go_loop [0, 1, 5] (fun x y z => ∃ (p b : BitVec 32) (m : BitVec 64), x = .int .u32 (nb32 b) ∧ y = .int .u64 (nb64 m) ∧ z = .int .u32 (nb32 p) ∧ PowRel a n p b m) (fun _ y _ => (intOf y).toNat)
  case atStart => exact ⟨1, a, n, rfl, rfl, rfl, Gf.one_mul _⟩
  case round =>
    obtain ⟨p, b, m, rfl, rfl, rfl, hr⟩ := hrel
    by_cases hm : m = 0#64
    · subst hm
      go_wp2
      go_ret
      refine ⟨ret_v ?_, rfl⟩
      have : Gf.mul p 1 = Gf.pow a n.toNat := hr
      rw [← this, Gf.mul_one]
      rfl
    · have hlt : (m >>> 1).toNat < m.toNat := by
        have h0 : m.toNat ≠ 0 := fun h => hm (BitVec.eq_of_toNat_eq h)
        rw [BitVec.toNat_ushiftRight, Nat.shiftRight_eq_div_pow]
        omega
      have hs := power_round p b m _ hr
      have HS := Lib.hid hs
      clear hs hr
      by_cases hb : (m &&& 1#64 == 1#64) = true
      · go_wp2_with (first
          | (go_at_call 24; refine (mul_any _ _ _).mono ?_; rintro e w' ⟨rfl, rfl⟩)
          | (go_at_call 46; refine (square_any _ _).mono ?_; rintro e w' ⟨rfl, rfl⟩))
        go_round
        case rel => exact ⟨Gf.mul p b, Gf.square b, m >>> 1, rfl, rfl, rfl, by have := HS.out; rwa [if_pos hb] at this⟩
        case measure => exact hlt
      · have hb' : (m &&& 1#64 == 1#64) = false := by simpa using hb
        go_wp2_with (go_at_call 46; refine (square_any _ _).mono ?_; rintro e w' ⟨rfl, rfl⟩)
        go_round
        case rel => exact ⟨p, Gf.square b, m >>> 1, rfl, rfl, rfl, by have := HS.out; rwa [if_neg hb] at this⟩
        case measure => exact hlt
theorem power_inv (a : BitVec 32) (w : World) :
    Calls Try.prog 72 #[.int .u32 (nb32 a), .int .u64 4294967294] w fun e w' => e = .returned (.int .u32 (nb32 (Gf.inv a))) ∧ w = w' :=
  power_any a 4294967294#64 w
theorem inverse_any (a : BitVec 32) (w : World) :
    Calls Try.prog 65 #[.int .u32 (nb32 a)] w fun e w' => e = .returned (.int .u32 (nb32 (Gf.inv a))) ∧ w = w' := by
  go_enter Try.func65, Try.ntmps65
  go_wp2_with (go_at_call 72; refine (power_inv _ _).mono ?_; rintro e w' ⟨rfl, rfl⟩)
  go_ret
  exact ⟨rfl, rfl⟩
theorem trace_any (a : BitVec 32) (w : World) :
    Calls Try.prog 23 #[.int .u32 (nb32 a)] w fun e w' => e = .returned (.int .u32 (nb32 (Gf.trace a 32))) ∧ w = w' := by
  go_enter Try.func23, Try.ntmps23
  go_wp2
  go_loop [0, 3, 4] (fun x t i => ∃ k : Nat, k ≤ 32 ∧ i = .int .i64 k ∧ x = .int .u32 (nb32 (Gf.squares a k)) ∧ t = .int .u32 (nb32 (Gf.trace a k))) (fun _ _ i => 32 - (intOf i).toNat)
  case atStart => exact ⟨0, Nat.zero_le _, rfl, rfl, rfl⟩
  case round =>
    obtain ⟨k, hk, rfl, rfl, rfl⟩ := hrel
    by_cases hlt : k < 32
    · go_wp2_with (go_at_call 46; refine (square_any _ _).mono ?_; rintro e w' ⟨rfl, rfl⟩)
      go_round
      case rel => exact ⟨k + 1, by omega, by go_num, rfl, rfl⟩
      case measure => simp [intOf]; omega
    · obtain rfl : k = 32 := by omega
      go_wp2
      go_ret
      exact ⟨rfl, rfl⟩
/-- Solve's two answers -/
def solveY (c : BitVec 32) : BitVec 32 := if Gf.trace c 32 = 0 then Gf.half c 32 &&& ~~~1#32 else 0
def solveB (c : BitVec 32) : Bool := Gf.trace c 32 == 0
end Go.Proofs.Ytlackhjlnoefcaa
