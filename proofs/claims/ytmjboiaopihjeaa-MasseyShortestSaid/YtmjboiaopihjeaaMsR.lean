/- the reference's Length, Keeps -/
import Derived.Test.YtmjboiaopihjeaaMsS
namespace Go.Proofs.Ytmjboiaopihjeaa
open Go Go.RowKit Go.ChangeShapes Go.WideShapes
set_option maxHeartbeats 1000000 in
theorem rlength_any (a : Option Addr) (n c Lm : Nat) (l : List (BitVec 32)) (w : World) (h : Words32 w a n l) (hn : n ≤ 1000) (hLm : Ms.Least (Po.cf l) n Lm) :
    Calls Try.prog 10 #[.slice a n c] w fun e w' => e = .returned (.int .i64 Lm) ∧ Below w.heap.size w w' := by
  have hLn := hLm.le
  have HL := Lib.hid hLm
  clear hLm
  go_enter Try.func10, Try.ntmps10
  go_wp2
  go_loopw [3] (fun i wr => ∃ k : Nat, k ≤ Lm ∧ i = .int .i64 k ∧ Below w.heap.size w wr) (fun i _ => Lm - (intOf i).toNat)
  case atStart => exact ⟨0, Nat.zero_le _, rfl, Below.refl _ _⟩
  case round =>
    obtain ⟨k, hk, rfl, hbw⟩ := hrel
    by_cases hlt : k < Lm
    · have HR : RowKit.Hid (false = true ↔ Ms.Sol k (Ms.sysR (Po.cf l) k) 0 (n - k)) := Lib.hid ⟨fun e => Bool.noConfusion e, fun hs => (by
        obtain ⟨c', hc'⟩ := Ms.sys_rec.1 hs
        have := HL.out.least c' k hc'
        omega)⟩
      have hkn : k ≤ n := by omega
      go_wp2_with (first | (go_at_call 22; refine (solvable_any a n c k l _ (h.below hbw) hn hkn false HR.out).mono ?_; rintro e w1 ⟨rfl, hb1⟩))
      go_roundw
      case rel => exact ⟨k + 1, by omega, by go_num, hbw.trans (hb1.mono hbw.size)⟩
      case measure => simp [intOf]; omega
    · obtain rfl : k = Lm := by omega
      have HR : RowKit.Hid (true = true ↔ Ms.Sol k (Ms.sysR (Po.cf l) k) 0 (n - k)) := Lib.hid ⟨fun _ => Ms.sys_rec.2 HL.out.ex, fun _ => rfl⟩
      go_wp2_with (first | (go_at_call 22; refine (solvable_any a n c k l _ (h.below hbw) hn hLn true HR.out).mono ?_; rintro e w1 ⟨rfl, hb1⟩))
      go_ret
      exact ⟨rfl, hbw.trans (hb1.mono hbw.size)⟩
theorem Ms.take_step {lc l : List (BitVec 32)} {j q : Nat} (hj : j < lc.length) (hq : j ≤ q) : Po.mulL (lc.take (j + 1)) (Po.cf l) q = Po.mulL (lc.take j) (Po.cf l) q ^^^ Gf.mul (Po.cf lc j) (Po.cf l (q - j)) := by
  rw [Po.mulL_take hj]
  show _ ^^^ (if j ≤ q then Gf.mul (Po.cf lc j) (Po.cf l (q - j)) else 0) = _
  rw [if_pos hq]
set_option maxHeartbeats 1000000 in
theorem rkeeps_any (a b : Option Addr) (n c m d : Nat) (lc l : List (BitVec 32)) (w : World) (hc : Words32 w a n lc) (h : Words32 w b m l) (hn : n ≤ 1000000) (hm : m ≤ 1000000) (r : Bool) (hr : r = true ↔ (n ≠ 0 ∧ Ms.Rec lc (n - 1) (Po.cf l) m)) :
    Calls Try.prog 12 #[.slice a n c, .slice b m d] w fun e w' => e = .returned (.bool r) ∧ Drawn w w' := by
  have hlc := hc.1
  have hl := h.1
  by_cases hn0 : n = 0
  · subst hn0
    have hrf : r = false := by
      cases hrr : r
      · rfl
      · exact ((hr.1 hrr).1 rfl).elim
    clear hr
    subst hrf
    go_enter Try.func12, Try.ntmps12
    go_wp2
    go_ret
    exact ⟨rfl, Drawn.refl _⟩
  · obtain ⟨L, hL⟩ : ∃ L, n = L + 1 := ⟨n - 1, by omega⟩
    subst hL
    obtain ⟨ad, rfl, hx⟩ := hc.2.2 0 (by omega)
    obtain ⟨x, hxe⟩ : ∃ x, x = lc.getD 0 0 := ⟨_, rfl⟩
    rw [← hxe] at hx
    rw [show ad.add 0 = ad from by unfold Addr.add; cases ad; simp] at hx
    have hL0 : ((L : Int) + 1 == 0) = false := by simpa using (show ¬ (L : Int) + 1 = 0 by omega)
    by_cases hx1 : x = 1
    · have hxb : (x != 1#32) = false := by rw [hx1]; rfl
      have HR : RowKit.Hid (r = true ↔ ∀ i, L ≤ i → i < m → Po.mulL lc (Po.cf l) i = 0) := Lib.hid (by
        rw [hr]
        constructor
        · rintro ⟨_, h1⟩
          exact h1.zero
        · intro h1
          exact ⟨hn0, by show Po.cf lc 0 = 1; rw [← hx1, hxe]; rfl, fun j hj => Po.cf_ge (by omega), h1⟩)
      clear hr hx1 hxe
      go_enter Try.func12, Try.ntmps12
      go_wp2
      go_loopw [5] (fun i wr => ∃ q : Nat, Drawn w wr ∧ L ≤ q ∧ (q ≤ m ∨ q = L) ∧ i = .int .i64 q ∧ RowKit.Hid (∀ i', L ≤ i' → i' < q → Po.mulL lc (Po.cf l) i' = 0)) (fun i _ => m - (intOf i).toNat)
      case atStart => exact ⟨L, Drawn.refl _, Nat.le_refl _, Or.inr rfl, by go_num, Lib.hid fun i' h1 h2 => by omega⟩
      case round =>
        obtain ⟨q, hd, hq1, hq2, rfl, HA⟩ := hrel
        by_cases hlt : q < m
        · go_wp2
          rename World => wA
          go_loopw [6, 7] (fun s i wr => ∃ j : Nat, Drawn w wr ∧ j ≤ L + 1 ∧ i = .int .i64 j ∧ s = .int .u32 (nb32 (Po.mulL (lc.take j) (Po.cf l) q))) (fun _ i _ => L + 1 - (intOf i).toNat)
          case atStart => exact ⟨0, hd, Nat.zero_le _, rfl, rfl⟩
          case round =>
            obtain ⟨j, hd2, hj, rfl, rfl⟩ := hrel
            by_cases hltj : j < L + 1
            · obtain ⟨ad1, e1, hy⟩ := (hc.below (hd2.below _)).2.2 j hltj
              injection e1 with e1
              subst e1
              obtain ⟨p, hp⟩ : ∃ p, p = q - j := ⟨_, rfl⟩
              have hpm : p < m := by omega
              obtain ⟨bd, rfl, hz⟩ := (h.below (hd2.below _)).2.2 p hpm
              have hst := Ms.take_step (lc := lc) (l := l) (j := j) (q := q) (by omega) (by omega)
              rw [← hp, show Po.cf lc j = lc.getD j 0 from rfl, show Po.cf l p = l.getD p 0 from rfl] at hst
              have hwr : IntKind.i64.wrap ((q : Int) - (j : Int)) = (p : Int) := by rw [IntWalk.i64_in _ (by omega)]; omega
              have hp0 : (0 : Int) ≤ (p : Int) := by omega
              have hpm' : (p : Int) < (m : Int) := by omega
              have hjL : (j : Int) < (L : Int) + 1 := by omega
              have HS := Lib.hid hst
              generalize lc.getD j 0 = y at hy HS
              generalize l.getD p 0 = z at hz HS
              clear hst hp
              go_wp2
              refine wp_region_still_lit rfl (by kernel_rfl) ?_
              repeat still_step
              still_call ((rmul_any _ _ _).mono fun e w' h => ⟨h.1, h.2.symm⟩)
              repeat still_step
              refine wpStill_nil ?_
              go_wp2
              go_roundw
              case rel => exact ⟨j + 1, hd2.drew, by omega, by go_num, by rw [HS.out]⟩
              case measure => simp [intOf]; omega
            · have hjj : j = L + 1 := by omega
              have hjl : ¬ (j : Int) < (L : Int) + 1 := by omega
              have hfull : lc.take j = lc := List.take_of_length_le (by omega)
              obtain ⟨s, hs⟩ : ∃ s, s = Po.mulL lc (Po.cf l) q := ⟨_, rfl⟩
              rw [hfull, ← hs]
              have HS := Lib.hid hs
              clear hs hfull hjj
              by_cases hs0 : s = 0
              · have hsb : (s != 0#32) = false := by rw [hs0]; rfl
                have HA2 : RowKit.Hid (∀ i', L ≤ i' → i' < q + 1 → Po.mulL lc (Po.cf l) i' = 0) := Lib.hid (fun i' g1 g2 => by
                  by_cases e : i' = q
                  · rw [e, ← HS.out, hs0]
                  · exact HA.out i' g1 (by omega))
                clear hs0
                go_wp2
                go_roundw
                case rel => exact ⟨q + 1, hd2, by omega, Or.inl (by omega), by go_num, HA2⟩
                case measure => simp [intOf]; omega
              · have hsb : (s != 0#32) = true := by simpa using hs0
                have hrf : r = false := by
                  cases hrr : r
                  · rfl
                  · exact (hs0 (by rw [HS.out]; exact HR.out.1 hrr q hq1 hlt)).elim
                clear hs0
                subst hrf
                go_wp2
                go_ret
                exact ⟨rfl, hd2⟩
        · have hrt : r = true := HR.out.2 fun i h1 h2 => HA.out i h1 (by omega)
          subst hrt
          go_wp2
          go_ret
          exact ⟨rfl, hd⟩
    · have hxb : (x != 1#32) = true := by simpa using hx1
      have hrf : r = false := by
        cases hrr : r
        · rfl
        · exact (hx1 (by rw [hxe]; exact (hr.1 hrr).2.one)).elim
      clear hr hxe hx1
      subst hrf
      go_enter Try.func12, Try.ntmps12
      go_wp2
      go_ret
      exact ⟨rfl, Drawn.refl _⟩
end Go.Proofs.Ytmjboiaopihjeaa
