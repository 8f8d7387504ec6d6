/- the reference's same, Of, goes -/
import Derived.Test.YtamigcbodplmcaaSkM
import Derived.Test.YtamigcbodplmcaaPz
import Derived.Test.YtamigcbodplmcaaWe
import Derived.Test.YtamigcbodplmcaaGz
import Derived.BigQuiet
import Derived.StillTailTactics
namespace Go.Proofs.Ytamigcbodplmcaa
open Go Go.RowKit Go.ChangeShapes Go.WideShapes
/-- the sums of odd powers -/
def Sk.syn (c : Nat) (A : List (BitVec 32)) : List (BitVec 32) := Po.mk c (fun k => Sk.ps A (2 * k + 1))
theorem Sk.ps_snoc {l : List (BitVec 32)} {i k : Nat} (h : i < l.length) : Sk.ps (l.take (i + 1)) k = Sk.ps (l.take i) k ^^^ Gf.pow (Po.cf l i) k := by
  rw [Po.take_snoc h]
  unfold Sk.ps
  rw [Sk.S_append]
  congr 1
  show Gf.pow (l.getD i 0) k ^^^ 0 = _
  exact Po.xz _
set_option maxRecDepth 100000 in
set_option maxHeartbeats 2000000 in
theorem rof_any (C n c : Nat) (a : Option Addr) (l : List (BitVec 32)) (w : World) (h : Words32 w a n l) (hC : C ≤ 1000) :
    Calls Try.prog 17 #[.int .i64 C, .slice a n c] w fun e w' => (∃ v, e = .returned v ∧ OwnW 54 w.heap.size w' v (Sk.syn C l)) ∧ Below w.heap.size w w' := by
  have hl := h.1
  have hmx : n ≤ 9223372036854775807 := h.2.1
  go_enter Try.func17, Try.ntmps17
  go_wp2
  go_loopw [5, 6] (fun vo kv wr => ∃ k : Nat, k ≤ C ∧ kv = .int .i64 k ∧ OwnW 54 w.heap.size wr vo (Sk.syn k l) ∧ Below w.heap.size w wr) (fun _ kv _ => C - (intOf kv).toNat)
  case atStart => exact ⟨0, Nat.zero_le _, rfl, OwnW.nil _ _ _, Below.refl _ _⟩
  case round =>
    obtain ⟨k, hk, rfl, hown, hb⟩ := hrel
    have hlen : (Sk.syn k l).length = k := Po.mk_length _ _
    by_cases hlt : k < C
    · have hw1 : IntKind.i64.wrap (2 * (k : Int)) = 2 * (k : Int) := IntWalk.i64_in _ (by omega)
      have hw2 : IntKind.i64.wrap (2 * (k : Int) + 1) = 2 * (k : Int) + 1 := IntWalk.i64_in _ (by omega)
      have hw3 : IntKind.u64.wrap (2 * (k : Int) + 1) = nb64 (BitVec.ofNat 64 (2 * k + 1)) := by rw [← u64_lit (2 * k + 1) (by omega), IntKind.wrap_u64]; omega
      go_wp2
      rename World => wA
      go_loop [7, 8] (fun xv iv => ∃ i : Nat, i ≤ n ∧ iv = .int .i64 i ∧ xv = .int .u32 (nb32 (Sk.ps (l.take i) (2 * k + 1)))) (fun _ iv => n - (intOf iv).toNat)
      case atStart => exact ⟨0, Nat.zero_le _, rfl, rfl⟩
      case round =>
        obtain ⟨i, hi, rfl, rfl⟩ := hrel
        by_cases hlti : i < n
        · obtain ⟨ad, rfl, hx⟩ := (h.below hb).2.2 i hlti
          obtain ⟨x, hxe⟩ : ∃ x, x = l.getD i 0 := ⟨_, rfl⟩
          rw [← hxe] at hx
          have hst : Sk.ps (l.take (i + 1)) (2 * k + 1) = Sk.ps (l.take i) (2 * k + 1) ^^^ powQ x (BitVec.ofNat 64 (2 * k + 1)) := by
            rw [Sk.ps_snoc (by omega), hxe]
            unfold powQ
            rw [BitVec.toNat_ofNat, Nat.mod_eq_of_lt (by omega)]
            rfl
          have HS := Lib.hid hst
          clear hst hxe
          generalize Sk.ps (l.take i) (2 * k + 1) = s0 at HS ⊢
          go_wp2_with (first | (go_at_call 31; refine (rpower_any x _ (BitVec.ofNat 64 (2 * k + 1)) (Nat.le_refl _) _).mono ?_; rintro e w1 ⟨rfl, rfl⟩))
          go_round
          case rel => exact ⟨i + 1, by omega, by go_num, by rw [HS.out]⟩
          case measure => (simp [intOf]; try omega)
        · have hin : l.take i = l := List.take_of_length_le (by omega)
          have hii : ¬ (i : Int) < (n : Int) := by omega
          rw [hin]
          clear hin
          have hle : (Sk.syn k l).length + 1 ≤ 1099511627776 := by omega
          go_wp2_with (first
            | (at_builtin; refine wpList_append_word rfl (.tmp 31) (.tmp 33) 22 rfl 54 Try.underlying22 info_word w.heap.size _ (Sk.syn k l) rfl hown (Sk.ps l (2 * k + 1)) rfl hle hb.size ?_; intro v' w2 h2 h3))
          go_roundw
          case rel => exact ⟨k + 1, by omega, by go_num, own_snoc h2 rfl, below_own_row (hb.alloc hb.size _) h3 hown.lt⟩
          case measure => (simp [intOf]; try omega)
    · obtain rfl : k = C := by omega
      go_wp2
      go_ret
      exact ⟨⟨_, rfl, hown⟩, hb⟩
end Go.Proofs.Ytamigcbodplmcaa
