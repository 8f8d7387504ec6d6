/- The reference's inverse walked; the statement GfPowers of layer 1. -/
import Derived.Test.YtlackhjlnoefcaaGfEu
import Derived.Test.YtlackhjlnoefcaaGfRp
import Derived.Test.YtlackhjlnoefcaaGfLaws
namespace Go.Proofs.Ytlackhjlnoefcaa
open Go.ChangeShapes Go.WideShapes Go.ChangeAt Go.RowKit
/-- the degree of a polynomial, -1 of 0 -/
def dg (n : Nat) : Int := if n = 0 then -1 else (n.log2 : Int)
theorem dg_half (n : Nat) (h : n ≠ 0) : dg n = dg (n / 2) + 1 := by
  unfold dg
  rw [if_neg h, Nat.log2_def]
  by_cases h2 : 2 ≤ n
  · rw [if_pos h2, if_neg (by omega)]; omega
  · have : n = 1 := by omega
    subst this
    rfl
theorem dg_bounds (x : BitVec 64) : -1 ≤ dg x.toNat ∧ dg x.toNat ≤ 63 := by
  unfold dg
  split
  · omega
  · rename_i h
    have := (Nat.log2_lt h).2 x.isLt
    omega
theorem degree_any (x : BitVec 64) (w : World) :
    Calls Try.prog 84 #[.int .u64 (nb64 x)] w fun e w' => e = .returned (.int .i64 (dg x.toNat)) ∧ w = w' := by
  go_enter Try.func84, Try.ntmps84
  go_wp2
  go_loop [0, 3] (fun p n => ∃ (q : BitVec 64) (j : Int), p = .int .u64 (nb64 q) ∧ n = .int .i64 j ∧ -1 ≤ j ∧ j ≤ 63 ∧ j + 1 + dg q.toNat = dg x.toNat) (fun p _ => (intOf p).toNat)
  case atStart => exact ⟨x, -1, rfl, rfl, by omega, by omega, by omega⟩
  case round =>
    obtain ⟨q, j, rfl, rfl, hj1, hj2, hj⟩ := hrel
    have hb := dg_bounds x
    by_cases hq : q = 0#64
    · subst hq
      have hd : dg (0#64).toNat = -1 := rfl
      rw [hd] at hj
      have hj' : j = dg x.toNat := by omega
      have HJ := Lib.hid hj'
      clear hj hj' hd hb
      go_wp2
      go_ret
      exact ⟨ret_v (by rw [← HJ.out]; rfl), rfl⟩
    · have hq0 : q.toNat ≠ 0 := fun h => hq (BitVec.eq_of_toNat_eq h)
      have hd := dg_half q.toNat hq0
      have he : (q / 2#64).toNat = q.toNat / 2 := by rw [BitVec.toNat_udiv]; rfl
      rw [← he] at hd
      have hb2 := dg_bounds (q / 2#64)
      have hlt : (q / 2#64).toNat < q.toNat := by omega
      have h3 : j + 1 + 1 + dg (q / 2#64).toNat = dg x.toNat := by omega
      have h4 : j ≤ 62 := by omega
      have H3 := Lib.hid h3
      clear hj hd he hb2 h3 hb hq0
      go_wp2
      go_round
      case rel => exact ⟨q / 2#64, j + 1, rfl, rfl, by omega, by omega, H3.out⟩
      case measure => exact hlt
theorem euc_round (a : BitVec 32) (u v x y : BitVec 64) (hd : (dg v.toNat) ≤ dg u.toNat) (h : Gf.Euc a u v x y) : ∃ k : Nat, dg u.toNat - dg v.toNat = (k : Int) ∧ k ≤ 64 ∧ Gf.Euc a (u ^^^ v <<< k) v (x ^^^ y <<< k) y ∧ (u ^^^ v <<< k).toNat < u.toNat := by
  have hu0 : u.toNat ≠ 0 := fun e => h.u0 (BitVec.eq_of_toNat_eq e)
  have hv0 : v.toNat ≠ 0 := by have := h.v1; omega
  have eu : dg u.toNat = (u.toNat.log2 : Int) := if_neg hu0
  have ev : dg v.toNat = (v.toNat.log2 : Int) := if_neg hv0
  have bu := dg_bounds u
  rw [eu] at bu
  have hle : v.toNat.log2 ≤ u.toNat.log2 := by rw [eu, ev] at hd; omega
  refine ⟨u.toNat.log2 - v.toNat.log2, by rw [eu, ev]; omega, by omega, ?_⟩
  exact h.step hle
theorem dg_pos (u : BitVec 64) (h : u ≠ 0) : 0 < dg u.toNat ↔ 2 ≤ u.toNat := by
  have hu0 : u.toNat ≠ 0 := fun e => h (BitVec.eq_of_toNat_eq e)
  rw [show dg u.toNat = (u.toNat.log2 : Int) from if_neg hu0]
  constructor
  · intro hh
    rcases Nat.lt_or_ge u.toNat 2 with h2 | h2
    · have : u.toNat = 1 := by omega
      rw [this] at hh
      have e : (1 : Nat).log2 = 0 := by decide +kernel
      rw [e] at hh
      omega
    · exact h2
  · intro hh
    have : 1 ≤ u.toNat.log2 := (Nat.le_log2 hu0).2 hh
    omega
set_option maxHeartbeats 1000000 in
theorem rinverse_any (a : BitVec 32) (w : World) :
    Calls Try.prog 69 #[.int .u32 (nb32 a)] w fun e w' => e = .returned (.int .u32 (nb32 (Gf.inv a))) ∧ w = w' := by
  by_cases ha : a = 0#32
  · subst ha
    have HI := Lib.hid (show Gf.inv 0#32 = 0#32 from Gf.inv_zero)
    go_enter Try.func69, Try.ntmps69
    go_wp2
    go_ret
    exact ⟨ret_v (by rw [HI.out]; rfl), rfl⟩
  · have ha' : (a == 0#32) = false := by rw [beq_eq_false_iff_ne]; exact ha
    have HA := Lib.hid ha
    clear ha
    go_enter Try.func69, Try.ntmps69
    go_wp2
    go_loop [3, 4, 5, 6] (fun p q r s => ∃ u v x y : BitVec 64, p = .int .u64 (nb64 u) ∧ q = .int .u64 (nb64 v) ∧ r = .int .u64 (nb64 x) ∧ s = .int .u64 (nb64 y) ∧ Gf.Euc a u v x y) (fun p q _ _ => (intOf p).toNat + (intOf q).toNat)
    case atStart => exact ⟨_, Gf.modulus, 1, 0, rfl, rfl, rfl, rfl, Gf.Euc.start HA.out⟩
    case round =>
      obtain ⟨u, v, x, y, rfl, rfl, rfl, rfl, he⟩ := hrel
      have bu := dg_bounds u
      have bv := dg_bounds v
      by_cases hu : 0 < dg u.toNat
      · by_cases hlt : dg u.toNat < dg v.toNat
        · obtain ⟨k, hk, hk64, he2, hm⟩ := euc_round a v u y x (by omega) (he.swap ((dg_pos u he.u0).1 hu))
          have hconv : IntKind.u64.wrap (dg v.toNat - dg u.toNat) = (k : Int) := by rw [hk, IntKind.wrap_u64]; omega
          have HE := Lib.hid he2
          have HM := Lib.hid hm
          clear he2 hm hk he
          go_wp2_with (go_at_call 84; refine (degree_any _ _).mono ?_; rintro e w' ⟨rfl, rfl⟩)
          go_round
          case rel => exact ⟨_, _, _, _, rfl, rfl, rfl, rfl, HE.out⟩
          case measure => have := HM.out; simp only [intOf, u64_toNat]; omega
        · obtain ⟨k, hk, hk64, he2, hm⟩ := euc_round a u v x y (by omega) he
          have hconv : IntKind.u64.wrap (dg u.toNat - dg v.toNat) = (k : Int) := by rw [hk, IntKind.wrap_u64]; omega
          have HE := Lib.hid he2
          have HM := Lib.hid hm
          clear he2 hm hk he
          go_wp2_with (go_at_call 84; refine (degree_any _ _).mono ?_; rintro e w' ⟨rfl, rfl⟩)
          go_round
          case rel => exact ⟨_, _, _, _, rfl, rfl, rfl, rfl, HE.out⟩
          case measure => have := HM.out; simp only [intOf, u64_toNat]; omega
      · have hend : Gf.rst x = Gf.inv a := he.ends HA.out (by have := (dg_pos u he.u0).2; omega)
        have HE := Lib.hid hend
        clear hend he
        go_wp2_with (first
          | (go_at_call 84; refine (degree_any _ _).mono ?_; rintro e w' ⟨rfl, rfl⟩)
          | (go_at_call 85; refine (rest_any _ _).mono ?_; rintro e w' ⟨rfl, rfl⟩))
        go_ret
        exact ⟨ret_v (by rw [← HE.out]; rfl), rfl⟩
end Go.Proofs.Ytlackhjlnoefcaa
