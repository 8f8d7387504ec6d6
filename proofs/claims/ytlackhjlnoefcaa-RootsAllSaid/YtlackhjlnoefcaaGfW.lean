/- What the plain functions of package gf answer. -/
import Derived.Test.YtlackhjlnoefcaaRows
import Derived.Test.YtlackhjlnoefcaaU
import Derived.Test.YtlackhjlnoefcaaGfM
import Derived.WalkKit
import Derived.ProofKit
namespace Go.Proofs.Ytlackhjlnoefcaa
open Go.RowKit
theorem ret_v {v v' : Value} (h : v = v') : Ending.returned v = Ending.returned v' := by rw [h]

theorem fold_any (x : BitVec 64) (w : World) :
    Calls Try.prog 64 #[.int .u64 (nb64 x)] w fun e w' => e = .returned (.int .u64 (nb64 (Gf.fold x))) ∧ w = w' := by
  go_enter Try.func64, Try.ntmps64
  go_wp2
  go_ret
  exact ⟨rfl, rfl⟩
theorem reduce_any (x : BitVec 64) (w : World) :
    Calls Try.prog 47 #[.int .u64 (nb64 x)] w fun e w' => e = .returned (.int .u32 (nb32 (Gf.reduce x))) ∧ w = w' := by
  go_enter Try.func47, Try.ntmps47
  go_wp2_with (go_at_call 64; refine (fold_any _ _).mono ?_; rintro e w' ⟨rfl, rfl⟩)
  go_ret
  exact ⟨rfl, rfl⟩
theorem double_any (x : BitVec 32) (w : World) :
    Calls Try.prog 61 #[.int .u32 (nb32 x)] w fun e w' => e = .returned (.int .u32 (nb32 (Gf.double x))) ∧ w = w' := by
  go_enter Try.func61, Try.ntmps61
  go_wp2_with (go_at_call 47; refine (reduce_any _ _).mono ?_; rintro e w' ⟨rfl, rfl⟩)
  go_ret
  exact ⟨rfl, rfl⟩
theorem spread_any (x : BitVec 32) (w : World) :
    Calls Try.prog 63 #[.int .u32 (nb32 x)] w fun e w' => e = .returned (.int .u64 (nb64 (Gf.spread x))) ∧ w = w' := by
  go_enter Try.func63, Try.ntmps63
  go_wp2
  go_ret
  exact ⟨rfl, rfl⟩
theorem square_any (x : BitVec 32) (w : World) :
    Calls Try.prog 46 #[.int .u32 (nb32 x)] w fun e w' => e = .returned (.int .u32 (nb32 (Gf.square x))) ∧ w = w' := by
  go_enter Try.func46, Try.ntmps46
  go_wp2_with (first
    | (go_at_call 47; refine (reduce_any _ _).mono ?_; rintro e w' ⟨rfl, rfl⟩)
    | (go_at_call 63; refine (spread_any _ _).mono ?_; rintro e w' ⟨rfl, rfl⟩))
  go_ret
  exact ⟨rfl, rfl⟩
theorem mul_any (a b : BitVec 32) (w : World) :
    Calls Try.prog 24 #[.int .u32 (nb32 a), .int .u32 (nb32 b)] w fun e w' => e = .returned (.int .u32 (nb32 (Gf.mul a b))) ∧ w = w' := by
  go_enter Try.func24, Try.ntmps24
  go_wp2
  go_loop [5, 8] (fun p i => ∃ k : Nat, k ≤ 32 ∧ i = .int .i64 k ∧ p = .int .u64 (nb64 (Gf.clm a b k))) (fun _ i => 32 - (intOf i).toNat)
  case atStart => exact ⟨0, Nat.zero_le _, rfl, rfl⟩
  case round =>
    obtain ⟨k, hk, rfl, rfl⟩ := hrel
    by_cases hlt : k < 32
    · go_wp2
      go_round
      case rel => exact ⟨k + 1, by omega, by go_num, rfl⟩
      case measure => simp [intOf]; omega
    · obtain rfl : k = 32 := by omega
      go_wp2_with (go_at_call 47; refine (reduce_any _ _).mono ?_; rintro e w' ⟨rfl, rfl⟩)
      go_ret
      exact ⟨rfl, rfl⟩
end Go.Proofs.Ytlackhjlnoefcaa
