/- massey: lastSum, isRecurrence, Keeps -/
import Derived.Test.YtamigcbodplmcaaMsR
import Derived.Test.YtamigcbodplmcaaPz
namespace Go.Proofs.Ytamigcbodplmcaa
open Go Go.RowKit Go.ChangeShapes Go.WideShapes
set_option maxHeartbeats 1000000 in
theorem lastsum_any (a b : Option Addr) (n c m d q : Nat) (lc l : List (BitVec 32)) (w : World) (hc : Words32 w a n lc) (h : Words32 w b m l) (hq : m = q + 1) (hn : n ≤ m) (hm : m ≤ 1099511627776) :
    Calls Try.prog 44 #[.slice a n c, .slice b m d] w fun e w' => e = .returned (.int .u32 (nb32 (Po.mulL lc (Po.cf l) q))) ∧ Below w.heap.size w w' := by
  have hlc := hc.1
  have hl := h.1
  have hqe : (m : Int) - 1 = (q : Int) := by omega
  have HQ := Lib.hid hq
  clear hq
  go_enter Try.func44, Try.ntmps44
  go_wp2
  go_loopw [5, 14] (fun s i wr => ∃ j : Nat, j ≤ n ∧ i = .int .i64 j ∧ s = .int .u32 (nb32 (Po.mulL (lc.take j) (Po.cf l) q)) ∧ Below w.heap.size w wr) (fun _ i _ => n - (intOf i).toNat)
  case atStart => exact ⟨0, Nat.zero_le _, rfl, rfl, Below.refl _ _⟩
  case round =>
    obtain ⟨j, hj, rfl, rfl, hb⟩ := hrel
    by_cases hlt : j < n
    · obtain ⟨ad, rfl, hx⟩ := hc.2.2 j hlt
      obtain ⟨p, hp⟩ : ∃ p, p = q - j := ⟨_, rfl⟩
      have hpm : p < m := by have := HQ.out; omega
      have hjq : j ≤ q := by have := HQ.out; omega
      obtain ⟨bd, rfl, hz⟩ := h.2.2 p hpm
      have hst := Ms.take_step (lc := lc) (l := l) (j := j) (q := q) (by omega) (by omega)
      rw [← hp, show Po.cf lc j = lc.getD j 0 from rfl, show Po.cf l p = l.getD p 0 from rfl] at hst
      have hwr : IntKind.i64.wrap ((q : Int) - (j : Int)) = (p : Int) := by rw [IntWalk.i64_in _ (by omega)]; omega
      have hp0 : (0 : Int) ≤ (p : Int) := by omega
      have hpm' : (p : Int) < (m : Int) := by omega
      have HS := Lib.hid hst
      have hcx := (hb.cell (isSome_lt (by rw [hx]; rfl))).trans hx
      have hcz := (hb.cell (isSome_lt (by rw [hz]; rfl))).trans hz
      generalize lc.getD j 0 = y at hcx hx HS
      generalize l.getD p 0 = z at hcz hz HS
      clear hst hp hx hz
      go_wp2_with (first
        | (go_at_call 46; refine (mul_any _ _ _).mono ?_; rintro e w1 ⟨rfl, rfl⟩)
        | (go_at_call 32; refine (sum2 _ _ _).mono ?_; rintro e w1 ⟨rfl, rfl⟩))
      go_roundw
      case rel => exact ⟨j + 1, by omega, by go_num, by rw [HS.out], hb.alloc hb.size _⟩
      case measure => simp [intOf]; omega
    · have hjj : lc.take j = lc := List.take_of_length_le (by omega)
      rw [hjj]
      go_wp2
      go_ret
      exact ⟨rfl, hb⟩
/-- is it a recurrence? -/
def Ms.isR (lc : List (BitVec 32)) : Bool := decide (lc.length ≠ 0) && lc.getD 0 0 == 1
theorem Ms.isR_true {lc : List (BitVec 32)} : Ms.isR lc = true ↔ lc.length ≠ 0 ∧ Po.cf lc 0 = 1 := by
  unfold Ms.isR
  rw [Bool.and_eq_true, decide_eq_true_eq, beq_iff_eq]
  rfl
theorem Ms.mulL_in (c : List (BitVec 32)) (l : List (BitVec 32)) {k q : Nat} (hq : q < k) : Po.mulL c (Po.cf (l.take k)) q = Po.mulL c (Po.cf l) q :=
  Ms.at_congr c q fun i hi => by rw [Po.cf_take, if_pos (by omega)]
end Go.Proofs.Ytamigcbodplmcaa
