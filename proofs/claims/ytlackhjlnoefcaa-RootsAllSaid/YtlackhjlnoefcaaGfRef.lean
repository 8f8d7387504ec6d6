/- The reference's product, and sums. -/
import Derived.Test.YtlackhjlnoefcaaGfT
import Derived.Test.YtlackhjlnoefcaaRow
namespace Go.Proofs.Ytlackhjlnoefcaa
open Go.RowKit
namespace Gf
/-- one step of the reference's rest -/
def restStep (p : BitVec 64) (i : Nat) : BitVec 64 := if p.getLsbD i then p ^^^ (4294967437#64 <<< (i - 32)) else p
/-- the bits from 63 down to n -/
def restDown (p : BitVec 64) : Nat → BitVec 64
  | 0 => p
  | k + 1 => restStep (restDown p k) (63 - k)
theorem lin_restStep (i : Nat) : Lin (fun p => restStep p i) := fun x y => by
  show restStep (x ^^^ y) i = restStep x i ^^^ restStep y i
  unfold restStep
  rw [BitVec.getLsbD_xor]
  generalize 4294967437#64 <<< (i - 32) = c
  have e : ∀ a b c : BitVec 64, a ^^^ c ^^^ (b ^^^ c) = a ^^^ b ^^^ (c ^^^ c) := fun a b c => by ac_rfl
  cases x.getLsbD i <;> cases y.getLsbD i <;> simp
  · ac_rfl
  · ac_rfl
  · rw [e, BitVec.xor_self, BitVec.xor_zero]
theorem lin_restDown : ∀ k, Lin (fun p => restDown p k)
  | 0 => Lin.id
  | k + 1 => (lin_restStep _).comp (lin_restDown k)
theorem rest_reduce (p : BitVec 64) (h : p &&& 0x7fffffffffffffff#64 = p) : (restDown p 32).setWidth 32 = reduce p := by
  have := lin_ext (f := fun p => (restDown (p &&& 0x7fffffffffffffff#64) 32).setWidth 32) (g := fun p => reduce (p &&& 0x7fffffffffffffff#64))
    ((lin_setWidth 32).comp ((lin_restDown 32).comp (lin_and _))) (lin_reduce.comp (lin_and _)) (by decide +kernel) p
  simpa only [h] using this
theorem clm_low (a b : BitVec 32) : ∀ k, k ≤ 32 → clm a b k &&& 0x7fffffffffffffff#64 = clm a b k
  | 0, _ => by simp [clm]
  | k + 1, h => by
    rw [clm, show ∀ p q m : BitVec 64, (p ^^^ q) &&& m = (p &&& m) ^^^ (q &&& m) from fun p q m => lin_and m p q, clm_low a b k (by omega)]
    congr 1
    generalize a &&& mask b k = x
    exact lin_ext (f := fun x : BitVec 32 => x.setWidth 64 <<< k &&& 0x7fffffffffffffff#64) (g := fun x : BitVec 32 => x.setWidth 64 <<< k)
      ((lin_and _).comp ((lin_shl k).comp (lin_setWidth 64))) ((lin_shl k).comp (lin_setWidth 64)) (by
        have : ∀ k, k < 32 → ∀ i, i < 32 → (BitVec.twoPow 32 i).setWidth 64 <<< k &&& 0x7fffffffffffffff#64 = (BitVec.twoPow 32 i).setWidth 64 <<< k := by decide +kernel
        exact this k (by omega)) x
theorem clm_bit (a b : BitVec 32) (k : Nat) : clm a b (k + 1) = if b.getLsbD k then clm a b k ^^^ (a.setWidth 64 <<< k) else clm a b k := by
  rw [clm, mask_eq]
  cases b.getLsbD k
  · simp
  · rw [if_pos rfl, if_pos rfl, BitVec.and_allOnes]
end Gf
theorem rest_any (p : BitVec 64) (w : World) :
    Calls Try.prog 85 #[.int .u64 (nb64 p)] w fun e w' => e = .returned (.int .u32 (nb32 ((Gf.restDown p 32).setWidth 32))) ∧ w = w' := by
  go_enter Try.func85, Try.ntmps85
  go_wp2
  go_loop [0, 3] (fun x i => ∃ k : Nat, k ≤ 32 ∧ i = .int .i64 ((63 - k : Nat) : Int) ∧ x = .int .u64 (nb64 (Gf.restDown p k))) (fun _ i => (intOf i).toNat)
  case atStart => exact ⟨0, Nat.zero_le _, rfl, rfl⟩
  case round =>
    obtain ⟨k, hk, rfl, rfl⟩ := hrel
    by_cases hlt : k < 32
    · obtain ⟨n, hn, hn1, hn2⟩ : ∃ n, n = 63 - k ∧ 32 ≤ n ∧ n ≤ 63 := ⟨63 - k, rfl, by omega, by omega⟩
      have hs : Gf.restStep (Gf.restDown p k) n = Gf.restDown p (k + 1) := by rw [hn]; rfl
      have hm : n - 1 = 63 - (k + 1) := by omega
      rw [← hn]
      have HS := Lib.hid hs
      have HM := Lib.hid hm
      have HN := Lib.hid hn
      have h1 : IntKind.u64.wrap ((n : Int) - 32) = ((n - 32 : Nat) : Int) := by rw [IntKind.wrap_u64]; omega
      have hbit := u64_bit (Gf.restDown p k) n
      clear hs hm hn
      cases hb : (Gf.restDown p k).getLsbD n
      · have HS2 : Hid (Gf.restDown p k = Gf.restDown p (k + 1)) := by have := HS.out; rw [Gf.restStep, hb] at this; exact this
        rw [hb] at hbit
        clear hb
        go_wp2
        go_round
        case rel => exact ⟨k + 1, by omega, by rw [← HM.out]; congr 1; omega, by rw [HS2.out]⟩
        case measure => simp [intOf]; omega
      · have HS2 : Hid (Gf.restDown p k ^^^ (4294967437#64 <<< (n - 32)) = Gf.restDown p (k + 1)) := by have := HS.out; rw [Gf.restStep, hb] at this; exact this
        rw [hb] at hbit
        clear hb
        go_wp2
        go_round
        case rel => exact ⟨k + 1, by omega, by rw [← HM.out]; congr 1; omega, by rw [HS2.out]⟩
        case measure => simp [intOf]; omega
    · obtain rfl : k = 32 := by omega
      go_wp2
      go_ret
      exact ⟨rfl, rfl⟩
theorem rmul_any (a b : BitVec 32) (w : World) :
    Calls Try.prog 71 #[.int .u32 (nb32 a), .int .u32 (nb32 b)] w fun e w' => e = .returned (.int .u32 (nb32 (Gf.mul a b))) ∧ w = w' := by
  have hfin : (Gf.restDown (Gf.clm a b 32) 32).setWidth 32 = Gf.mul a b := Gf.rest_reduce _ (Gf.clm_low a b 32 (Nat.le_refl _))
  have HF := Lib.hid hfin
  clear hfin
  go_enter Try.func71, Try.ntmps71
  go_wp2
  go_loop [5, 6] (fun p i => ∃ k : Nat, k ≤ 32 ∧ i = .int .i64 k ∧ p = .int .u64 (nb64 (Gf.clm a b k))) (fun _ i => 32 - (intOf i).toNat)
  case atStart => exact ⟨0, Nat.zero_le _, rfl, rfl⟩
  case round =>
    obtain ⟨k, hk, rfl, rfl⟩ := hrel
    by_cases hlt : k < 32
    · have hs := Gf.clm_bit a b k
      have hbit := u32_bit b k
      cases hb : b.getLsbD k
      · rw [hb] at hbit hs
        have HS := Lib.hid hs
        clear hb hs
        go_wp2
        go_round
        case rel => exact ⟨k + 1, by omega, by go_num, by rw [HS.out]; rfl⟩
        case measure => simp [intOf]; omega
      · rw [hb] at hbit hs
        have HS := Lib.hid hs
        clear hb hs
        go_wp2
        go_round
        case rel => exact ⟨k + 1, by omega, by go_num, by rw [HS.out]; rfl⟩
        case measure => simp [intOf]; omega
    · obtain rfl : k = 32 := by omega
      go_wp2_with (go_at_call 85; refine (rest_any _ _).mono ?_; rintro e w' ⟨rfl, rfl⟩)
      go_ret
      exact ⟨ret_v (by rw [← HF.out]; rfl), rfl⟩
theorem sum_any (a : Option Addr) (n c : Nat) (l : List (BitVec 32)) (w : World) (h : Words32 w a n l) :
    Calls Try.prog 44 #[.slice a n c] w fun e w' => e = .returned (.int .u32 (nb32 (xors l))) ∧ w = w' := by
  obtain ⟨hl, hm, hc⟩ := h
  unfold maxLen at hm
  go_enter Try.func44, Try.ntmps44
  go_wp2
  go_loop [3, 8] (fun s i => ∃ k : Nat, k ≤ n ∧ i = .int .i64 k ∧ s = .int .u32 (nb32 (xors (l.take k)))) (fun _ i => n - (intOf i).toNat)
  case atStart => exact ⟨0, Nat.zero_le _, rfl, rfl⟩
  case round =>
    obtain ⟨k, hk, rfl, rfl⟩ := hrel
    by_cases hlt : k < n
    · obtain ⟨x, rfl, hx⟩ := hc k hlt
      have hs := xors_take l k (by omega)
      have HS := Lib.hid hs
      clear hs hc hl
      go_wp2
      go_round
      case rel => exact ⟨k + 1, by omega, by go_num, by rw [HS.out, List.getD_eq_getElem?_getD]; rfl⟩
      case measure => simp [intOf]; omega
    · obtain rfl : k = n := by omega
      have ht : l.take k = l := List.take_of_length_le (by omega)
      have HT := Lib.hid ht
      clear ht hl hc
      go_wp2
      go_ret
      exact ⟨ret_v (by rw [HT.out]; rfl), rfl⟩
end Go.Proofs.Ytlackhjlnoefcaa
