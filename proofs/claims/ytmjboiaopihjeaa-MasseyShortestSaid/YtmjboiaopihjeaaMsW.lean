/- massey: lastSum, isRecurrence, Keeps -/
import Derived.Test.YtmjboiaopihjeaaMsR
import Derived.Test.YtmjboiaopihjeaaWd
namespace Go.Proofs.Ytmjboiaopihjeaa
open Go Go.RowKit Go.ChangeShapes Go.WideShapes
set_option maxHeartbeats 1000000 in
theorem lastsum_any (a b : Option Addr) (n c m d q : Nat) (lc l : List (BitVec 32)) (w : World) (hc : Words32 w a n lc) (h : Words32 w b m l) (hq : m = q + 1) (hn : n ≤ m) (hm : m ≤ 1099511627776) :
    Calls Try.prog 18 #[.slice a n c, .slice b m d] w fun e w' => e = .returned (.int .u32 (nb32 (Po.mulL lc (Po.cf l) q))) ∧ Below w.heap.size w w' := by
  have hlc := hc.1
  have hl := h.1
  have hqe : (m : Int) - 1 = (q : Int) := by omega
  have HQ := Lib.hid hq
  clear hq
  go_enter Try.func18, Try.ntmps18
  go_wp2
  go_loopw [5, 14] (fun s i wr => ∃ j : Nat, j ≤ n ∧ i = .int .i64 j ∧ s = .int .u32 (nb32 (Po.mulL (lc.take j) (Po.cf l) q)) ∧ Below w.heap.size w wr) (fun _ i _ => n - (intOf i).toNat)
  case atStart => exact ⟨0, Nat.zero_le _, rfl, rfl, Below.refl _ _⟩
  case round =>
    obtain ⟨j, hj, rfl, rfl, hb⟩ := hrel
    by_cases hlt : j < n
    · obtain ⟨ad, rfl, hx⟩ := hc.2.2 j hlt
      obtain ⟨p, hp⟩ : ∃ p, p = q - j := ⟨_, rfl⟩
      have hpm : p < m := by have := HQ.out; omega
      have hjq : j ≤ q := by have := HQ.out; omega
      obtain ⟨bd, rfl, hz⟩ := h.2.2 p hpm
      have hst := Ms.take_step (lc := lc) (l := l) (j := j) (q := q) (by omega) (by omega)
      rw [← hp, show Po.cf lc j = lc.getD j 0 from rfl, show Po.cf l p = l.getD p 0 from rfl] at hst
      have hwr : IntKind.i64.wrap ((q : Int) - (j : Int)) = (p : Int) := by rw [IntWalk.i64_in _ (by omega)]; omega
      have hp0 : (0 : Int) ≤ (p : Int) := by omega
      have hpm' : (p : Int) < (m : Int) := by omega
      have HS := Lib.hid hst
      have hcx := (hb.cell (isSome_lt (by rw [hx]; rfl))).trans hx
      have hcz := (hb.cell (isSome_lt (by rw [hz]; rfl))).trans hz
      generalize lc.getD j 0 = y at hcx hx HS
      generalize l.getD p 0 = z at hcz hz HS
      clear hst hp hx hz
      go_wp2_with (first
        | (go_at_call 20; refine (mul_any _ _ _).mono ?_; rintro e w1 ⟨rfl, rfl⟩)
        | (go_at_call 26; refine (sum2 _ _ _).mono ?_; rintro e w1 ⟨rfl, rfl⟩))
      go_roundw
      case rel => exact ⟨j + 1, by omega, by go_num, by rw [HS.out], hb.alloc hb.size _⟩
      case measure => simp [intOf]; omega
    · have hjj : lc.take j = lc := List.take_of_length_le (by omega)
      rw [hjj]
      go_wp2
      go_ret
      exact ⟨rfl, hb⟩
/-- is it a recurrence? -/
def Ms.isR (lc : List (BitVec 32)) : Bool := decide (lc.length ≠ 0) && lc.getD 0 0 == 1
theorem isrec_any (a : Option Addr) (n c : Nat) (lc : List (BitVec 32)) (w : World) (hc : Words32 w a n lc) :
    Calls Try.prog 24 #[.slice a n c] w fun e w' => e = .returned (.bool (Ms.isR lc)) ∧ w = w' := by
  have hlc := hc.1
  by_cases h0 : n = 0
  · have hr : Ms.isR lc = false := by unfold Ms.isR; rw [hlc, h0]; rfl
    have h1 : ¬ (0 : Int) < (n : Int) := by omega
    rw [hr]
    clear hr
    subst h0
    go_enter Try.func24, Try.ntmps24
    go_wp2
    go_ret
    exact ⟨rfl, rfl⟩
  · have hr : Ms.isR lc = (lc.getD 0 0 == 1#32) := by unfold Ms.isR; rw [hlc, decide_eq_true (by exact h0)]; rfl
    have h1 : (0 : Int) < (n : Int) := by omega
    obtain ⟨ad, rfl, hx⟩ := hc.2.2 0 (by omega)
    rw [show ad.add 0 = ad from by unfold Addr.add; cases ad; simp] at hx
    rw [hr]
    clear hr
    generalize lc.getD 0 0 = x at hx
    go_enter Try.func24, Try.ntmps24
    go_wp2
    go_ret
    exact ⟨rfl, rfl⟩
theorem Ms.isR_true {lc : List (BitVec 32)} : Ms.isR lc = true ↔ lc.length ≠ 0 ∧ Po.cf lc 0 = 1 := by
  unfold Ms.isR
  rw [Bool.and_eq_true, decide_eq_true_eq, beq_iff_eq]
  rfl
theorem Ms.mulL_in (c : List (BitVec 32)) (l : List (BitVec 32)) {k q : Nat} (hq : q < k) : Po.mulL c (Po.cf (l.take k)) q = Po.mulL c (Po.cf l) q :=
  Ms.at_congr c q fun i hi => by rw [Po.cf_take, if_pos (by omega)]
set_option maxHeartbeats 1000000 in
theorem keeps_any (a b : Option Addr) (n c m d : Nat) (lc l : List (BitVec 32)) (w : World) (hc : Words32 w a n lc) (h : Words32 w b m l) (hmd : m ≤ d) (hn : n ≤ 1000000) (hm : m ≤ 1000000) (r : Bool) (hr : r = true ↔ (n ≠ 0 ∧ Ms.Rec lc (n - 1) (Po.cf l) m)) :
    Calls Try.prog 13 #[.slice a n c, .slice b m d] w fun e w' => e = .returned (.bool r) ∧ Below w.heap.size w w' := by
  have hlc := hc.1
  have hl := h.1
  by_cases hR : Ms.isR lc = true
  · obtain ⟨h0, h1⟩ := Ms.isR_true.1 hR
    obtain ⟨L, hL⟩ : ∃ L, n = L + 1 := ⟨n - 1, by omega⟩
    have HR : RowKit.Hid (r = true ↔ ∀ i, L ≤ i → i < m → Po.mulL lc (Po.cf l) i = 0) := Lib.hid (by
      rw [hr, show n - 1 = L from by omega]
      constructor
      · rintro ⟨_, h1⟩
        exact h1.zero
      · intro h2
        exact ⟨by omega, h1, fun j hj => Po.cf_ge (by omega), h2⟩)
    have HL := Lib.hid hL
    clear hr h0 h1 hL
    go_enter Try.func13, Try.ntmps13
    go_wp2_with (first
      | (go_at_call 24; refine (isrec_any _ _ _ lc _ hc).mono ?_; rintro e w1 ⟨rfl, rfl⟩; rw [hR]))
    go_loopw [5] (fun i wr => ∃ k : Nat, n ≤ k ∧ (k ≤ m + 1 ∨ k = n) ∧ i = .int .i64 k ∧ Below w.heap.size w wr ∧ RowKit.Hid (∀ i', L ≤ i' → i' + 1 < k → Po.mulL lc (Po.cf l) i' = 0)) (fun i _ => m + 1 - (intOf i).toNat)
    case atStart => exact ⟨n, Nat.le_refl _, Or.inr rfl, rfl, Below.refl _ _, Lib.hid fun i' h1 h2 => by have := HL.out; omega⟩
    case round =>
      obtain ⟨k, hk1, hk2, rfl, hb, HA⟩ := hrel
      by_cases hlt : k ≤ m
      · have hk0 : 0 < k := by have := HL.out; omega
        obtain ⟨q, hq⟩ : ∃ q, k = q + 1 := ⟨k - 1, by omega⟩
        have hkd : (k : Int) ≤ (d : Int) := by omega
        have hk5 : (0 : Int) ≤ (k : Int) := by omega
        have hmu := Ms.mulL_in lc l (k := k) (q := q) (by omega)
        obtain ⟨s, hs⟩ : ∃ s, s = Po.mulL lc (Po.cf l) q := ⟨_, rfl⟩
        rw [← hs] at hmu
        have HS := Lib.hid hs
        have HQ := Lib.hid hq
        have hkm : k ≤ 1099511627776 := by omega
        clear hs hq
        by_cases hs0 : s = 0
        · have hsb : (s != 0#32) = false := by rw [hs0]; rfl
          have HA2 : RowKit.Hid (∀ i', L ≤ i' → i' + 1 < k + 1 → Po.mulL lc (Po.cf l) i' = 0) := Lib.hid (fun i' g1 g2 => by
            by_cases e : i' = q
            · rw [e, ← HS.out, hs0]
            · exact HA.out i' g1 (by have := HQ.out; omega))
          clear hs0
          go_wp2_with (first
            | (go_at_call 18; refine (lastsum_any _ _ _ _ k d q lc (l.take k) _ (hc.below hb) ((h.below hb).take hlt) HQ.out hk1 hkm).mono ?_; rw [hmu]; rintro e w1 ⟨rfl, hb1⟩))
          go_roundw
          case rel => exact ⟨k + 1, by omega, Or.inl (by omega), by go_num, hb.trans (hb1.mono hb.size), HA2⟩
          case measure => simp [intOf]; omega
        · have hsb : (s != 0#32) = true := by simpa using hs0
          have hrf : r = false := by
            cases hrr : r
            · rfl
            · exact (hs0 (by rw [HS.out]; exact HR.out.1 hrr q (by have := HQ.out; have := HL.out; omega) (by have := HQ.out; omega))).elim
          clear hs0
          subst hrf
          go_wp2_with (first
            | (go_at_call 18; refine (lastsum_any _ _ _ _ k d q lc (l.take k) _ (hc.below hb) ((h.below hb).take hlt) HQ.out hk1 hkm).mono ?_; rw [hmu]; rintro e w1 ⟨rfl, hb1⟩))
          go_ret
          exact ⟨rfl, hb.trans (hb1.mono hb.size)⟩
      · have hrt : r = true := HR.out.2 fun i h1 h2 => HA.out i h1 (by omega)
        subst hrt
        go_wp2
        go_ret
        exact ⟨rfl, hb⟩
  · have hRf : Ms.isR lc = false := by simpa using hR
    have hrf : r = false := by
      cases hrr : r
      · rfl
      · obtain ⟨h1, h2⟩ := hr.1 hrr
        exact (hR (Ms.isR_true.2 ⟨by omega, h2.one⟩)).elim
    clear hr hR
    subst hrf
    go_enter Try.func13, Try.ntmps13
    go_wp2_with (first
      | (go_at_call 24; refine (isrec_any _ _ _ lc _ hc).mono ?_; rintro e w1 ⟨rfl, rfl⟩; rw [hRf]))
    go_ret
    exact ⟨rfl, Below.refl _ _⟩
end Go.Proofs.Ytmjboiaopihjeaa
