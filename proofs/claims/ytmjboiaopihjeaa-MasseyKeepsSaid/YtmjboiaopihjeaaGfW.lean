/- What the plain functions of package gf answer. -/
import Derived.Test.YtmjboiaopihjeaaRows
import Derived.Test.YtmjboiaopihjeaaU
import Derived.Test.YtmjboiaopihjeaaGfM
import Derived.WalkKit
import Derived.ProofKit
namespace Go.Proofs.Ytmjboiaopihjeaa
open Go.RowKit
theorem ret_v {v v' : Value} (h : v = v') : Ending.returned v = Ending.returned v' := by rw [h]

theorem fold_any (x : BitVec 64) (w : World) :
    Calls Try.prog 35 #[.int .u64 (nb64 x)] w fun e w' => e = .returned (.int .u64 (nb64 (Gf.fold x))) ∧ w = w' := by
  go_enter Try.func35, Try.ntmps35
  go_wp2
  go_ret
  exact ⟨rfl, rfl⟩
theorem reduce_any (x : BitVec 64) (w : World) :
    Calls Try.prog 29 #[.int .u64 (nb64 x)] w fun e w' => e = .returned (.int .u32 (nb32 (Gf.reduce x))) ∧ w = w' := by
  go_enter Try.func29, Try.ntmps29
  go_wp2_with (go_at_call 35; refine (fold_any _ _).mono ?_; rintro e w' ⟨rfl, rfl⟩)
  go_ret
  exact ⟨rfl, rfl⟩
theorem double_any (x : BitVec 32) (w : World) :
    Calls Try.prog 34 #[.int .u32 (nb32 x)] w fun e w' => e = .returned (.int .u32 (nb32 (Gf.double x))) ∧ w = w' := by
  go_enter Try.func34, Try.ntmps34
  go_wp2_with (go_at_call 29; refine (reduce_any _ _).mono ?_; rintro e w' ⟨rfl, rfl⟩)
  go_ret
  exact ⟨rfl, rfl⟩
theorem spread_any (x : BitVec 32) (w : World) :
    Calls Try.prog 38 #[.int .u32 (nb32 x)] w fun e w' => e = .returned (.int .u64 (nb64 (Gf.spread x))) ∧ w = w' := by
  go_enter Try.func38, Try.ntmps38
  go_wp2
  go_ret
  exact ⟨rfl, rfl⟩
theorem square_any (x : BitVec 32) (w : World) :
    Calls Try.prog 36 #[.int .u32 (nb32 x)] w fun e w' => e = .returned (.int .u32 (nb32 (Gf.square x))) ∧ w = w' := by
  go_enter Try.func36, Try.ntmps36
  go_wp2_with (first
    | (go_at_call 29; refine (reduce_any _ _).mono ?_; rintro e w' ⟨rfl, rfl⟩)
    | (go_at_call 38; refine (spread_any _ _).mono ?_; rintro e w' ⟨rfl, rfl⟩))
  go_ret
  exact ⟨rfl, rfl⟩
theorem mul_any (a b : BitVec 32) (w : World) :
    Calls Try.prog 20 #[.int .u32 (nb32 a), .int .u32 (nb32 b)] w fun e w' => e = .returned (.int .u32 (nb32 (Gf.mul a b))) ∧ w = w' := by
  go_enter Try.func20, Try.ntmps20
  go_wp2
  go_loop [5, 8] (fun p i => ∃ k : Nat, k ≤ 32 ∧ i = .int .i64 k ∧ p = .int .u64 (nb64 (Gf.clm a b k))) (fun _ i => 32 - (intOf i).toNat)
  case atStart => exact ⟨0, Nat.zero_le _, rfl, rfl⟩
  case round =>
    obtain ⟨k, hk, rfl, rfl⟩ := hrel
    by_cases hlt : k < 32
    · go_wp2
      go_round
      case rel => exact ⟨k + 1, by omega, by go_num, rfl⟩
      case measure => simp [intOf]; omega
    · obtain rfl : k = 32 := by omega
      go_wp2_with (go_at_call 29; refine (reduce_any _ _).mono ?_; rintro e w' ⟨rfl, rfl⟩)
      go_ret
      exact ⟨rfl, rfl⟩
end Go.Proofs.Ytmjboiaopihjeaa
