/- the reference: Good, Right, Need, Pays, With -/
import Derived.Test.YtcbbjhcejlmmlaaRows
import Derived.Test.YtcbbjhcejlmmlaaB
import Derived.Test.YtcbbjhcejlmmlaaAmM
import Derived.Lib.Hide
import Derived.IntWalk
import Derived.OpenShut
import Derived.ProofKit
namespace Go.Proofs.Ytcbbjhcejlmmlaa
open Go Go.RowKit Go.ChangeShapes Go.WideShapes
theorem agood_any (z : Int) (b : Bool) (hb : b = true ↔ Am.Good z) (w : World) :
    Calls Try.prog 14 #[.int .i64 z] w fun e w' => e = .returned (.bool b) ∧ w = w' := by
  have HB := Lib.hid hb
  clear hb
  by_cases h1 : 0 ≤ z
  · by_cases h2 : z ≤ 2100000000000000
    · obtain rfl : b = true := HB.out.2 ⟨h1, h2⟩
      clear HB
      go_enter Try.func14, Try.ntmps14
      go_wp2
      go_ret
      exact ⟨rfl, rfl⟩
    · obtain rfl : b = false := by
        cases b
        · rfl
        · exact absurd (HB.out.1 rfl).2 h2
      clear HB
      go_enter Try.func14, Try.ntmps14
      go_wp2
      go_ret
      exact ⟨rfl, rfl⟩
  · obtain rfl : b = false := by
      cases b
      · rfl
      · exact absurd (HB.out.1 rfl).1 h1
    clear HB
    go_enter Try.func14, Try.ntmps14
    go_wp2
    go_ret
    exact ⟨rfl, rfl⟩
theorem dec_iff (p : Prop) [Decidable p] : decide p = true ↔ p := decide_eq_true_iff
set_option maxHeartbeats 1000000 in
theorem aright_any (f v : Int) (b : Bool) (hb : b = true ↔ Am.Right f v) (w : World) :
    Calls Try.prog 19 #[.agg #[.int .i64 f, .int .i64 v]] w fun e w' => e = .returned (.bool b) ∧ Below w.heap.size w w' := by
  have HB := Lib.hid hb
  clear hb
  have hBx : Below w.heap.size w (w.alloc (.cells #[.int .i64 f, .int .i64 v] 38)) := (Below.refl _ _).alloc (Nat.le_refl _) _
  by_cases h1 : Am.Good f
  · by_cases h2 : 1 ≤ v
    · by_cases h3 : v ≤ 1099511627776
      · obtain rfl : b = true := HB.out.2 ⟨h1, h2, h3⟩
        have H1 := Lib.hid h1
        clear HB h1
        go_enter Try.func19, Try.ntmps19
        go_wp2_with (first | (go_at_call 14; refine (agood_any f true ⟨fun _ => H1.out, fun _ => rfl⟩ _).mono ?_; rintro e w1 ⟨rfl, rfl⟩))
        go_ret
        exact ⟨rfl, hBx⟩
      · obtain rfl : b = false := by
          cases b
          · rfl
          · exact absurd (HB.out.1 rfl).2.2 h3
        have h3b : decide (v ≤ 1099511627776) = false := decide_eq_false h3
        have H1 := Lib.hid h1
        clear HB h1
        go_enter Try.func19, Try.ntmps19
        go_wp2_with (first | (go_at_call 14; refine (agood_any f true ⟨fun _ => H1.out, fun _ => rfl⟩ _).mono ?_; rintro e w1 ⟨rfl, rfl⟩))
        go_ret
        exact ⟨rfl, hBx⟩
    · obtain rfl : b = false := by
        cases b
        · rfl
        · exact absurd (HB.out.1 rfl).2.1 h2
      have h2b : decide (1 ≤ v) = false := decide_eq_false h2
      have H1 := Lib.hid h1
      clear HB h1
      go_enter Try.func19, Try.ntmps19
      go_wp2_with (first | (go_at_call 14; refine (agood_any f true ⟨fun _ => H1.out, fun _ => rfl⟩ _).mono ?_; rintro e w1 ⟨rfl, rfl⟩))
      go_ret
      exact ⟨rfl, hBx⟩
  · obtain rfl : b = false := by
      cases b
      · rfl
      · exact absurd (HB.out.1 rfl).1 h1
    have H1 := Lib.hid h1
    clear HB h1
    go_enter Try.func19, Try.ntmps19
    go_wp2_with (first | (go_at_call 14; refine (agood_any f false ⟨fun e => absurd e Bool.false_ne_true, fun e => absurd e H1.out⟩ _).mono ?_; rintro e w1 ⟨rfl, rfl⟩))
    go_ret
    exact ⟨rfl, hBx⟩
set_option maxHeartbeats 1000000 in
theorem aneed_no (v per : Int) (h : ¬ Am.needs v per) (w : World) :
    Calls Try.prog 23 #[.int .i64 v, .int .i64 per] w fun e w' => e = .returned (.tuple #[.int .i64 0, .int .i64 1]) ∧ w = w' := by
  have HN := Lib.hid h
  clear h
  by_cases h1 : v < 1
  · go_enter Try.func23, Try.ntmps23
    go_wp2
    go_ret2
    exact ⟨rfl, rfl⟩
  · by_cases h2 : 1048576 < v
    · go_enter Try.func23, Try.ntmps23
      go_wp2
      go_ret2
      exact ⟨rfl, rfl⟩
    · by_cases h3 : per < 0
      · go_enter Try.func23, Try.ntmps23
        go_wp2
        go_ret2
        exact ⟨rfl, rfl⟩
      · have h4 : 1048576 < per := Decidable.byContradiction fun g => HN.out ⟨by omega, by omega, by omega, by omega⟩
        go_enter Try.func23, Try.ntmps23
        go_wp2
        go_ret2
        exact ⟨rfl, rfl⟩
set_option maxHeartbeats 1000000 in
theorem aneed_ok (v per : Int) (h : Am.needs v per) (w : World) :
    Calls Try.prog 23 #[.int .i64 v, .int .i64 per] w fun e w' => e = .returned (.tuple #[.int .i64 (Am.need v per), .int .i64 0]) ∧ w = w' := by
  obtain ⟨h1, h2, h3, h4⟩ := h
  have g1 : ¬ v < 1 := by omega
  have g2 : ¬ 1048576 < v := by omega
  have g3 : ¬ per < 0 := by omega
  have g4 : ¬ 1048576 < per := by omega
  have p0 : 0 ≤ v * per := Int.mul_nonneg (by omega) h3
  have p1 : v * per ≤ 1099511627776 := by
    have := Int.mul_le_mul h2 h4 h3 (show (0 : Int) ≤ 1048576 by omega)
    omega
  obtain ⟨p, hp⟩ : ∃ p, p = v * per := ⟨_, rfl⟩
  rw [← hp] at p0 p1
  obtain ⟨q, hq⟩ : ∃ q, q = p / 1000 := ⟨_, rfl⟩
  have hq1 : p.tdiv 1000 = q := by rw [hq, Int.tdiv_eq_ediv_of_nonneg p0]
  have hq0 : 0 ≤ q := by omega
  have hq2 : q ≤ 1099511628 := by omega
  have hw1 : IntKind.i64.wrap (v * per) = p := by rw [← hp]; exact IntWalk.i64_in _ (by omega)
  have hE : Am.need v per = if q * 1000 < p then q + 1 else q := by
    unfold Am.need
    rw [← hp, hq]
    split <;> omega
  have HE := Lib.hid (And.intro hE hq)
  have hp' := hp.symm
  clear hE hq hp
  by_cases hr : q * 1000 < p
  · have HX := Lib.hid (show Am.need v per = q + 1 by rw [HE.out.1, if_pos hr])
    go_enter Try.func23, Try.ntmps23
    go_wp2
    go_ret2
    exact ⟨by rw [HX.out]; rfl, rfl⟩
  · have HX := Lib.hid (show Am.need v per = q by rw [HE.out.1, if_neg hr])
    go_enter Try.func23, Try.ntmps23
    go_wp2
    go_ret2
    exact ⟨by rw [HX.out]; rfl, rfl⟩
/-- does a fee-rate pay? -/
def Am.Pays (f v per least : Int) : Prop := Am.needs v per ∧ Am.Right f v ∧ Am.need v per ≤ f ∧ least ≤ f
instance (f v per least : Int) : Decidable (Am.Pays f v per least) := inferInstanceAs (Decidable (_ ∧ _))
set_option maxRecDepth 100000 in
set_option maxHeartbeats 1000000 in
theorem apays_any (f v per least : Int) (b : Bool) (hb : b = true ↔ Am.Pays f v per least) (w : World) :
    Calls Try.prog 25 #[.agg #[.int .i64 f, .int .i64 v], .int .i64 per, .int .i64 least] w fun e w' => e = .returned (.bool b) ∧ Below w.heap.size w w' := by
  have HB := Lib.hid hb
  clear hb
  have hBx : Below w.heap.size w (w.alloc (.cells #[.int .i64 f, .int .i64 v] 38)) := (Below.refl _ _).alloc (Nat.le_refl _) _
  by_cases h1 : Am.needs v per
  · by_cases h2 : Am.Right f v
    · obtain ⟨q, hq⟩ : ∃ q, q = Am.need v per := ⟨_, rfl⟩
      by_cases h3 : q ≤ f
      · by_cases h4 : least ≤ f
        · obtain rfl : b = true := HB.out.2 ⟨h1, h2, hq ▸ h3, h4⟩
          have H := Lib.hid (And.intro h1 (And.intro h2 hq))
          clear HB h1 h2 hq
          go_enter Try.func25, Try.ntmps25
          go_wp2_with (first
            | (go_at_call 19; refine (aright_any f v true ⟨fun _ => H.out.2.1, fun _ => rfl⟩ _).mono ?_; rintro e w1 ⟨rfl, hb1⟩; have hR1 := (Has.fresh w 38 #[.int .i64 f, .int .i64 v]).under hb1 (Has.fresh w _ _).lt; have c0 : w1.cell? ⟨w.heap.size, 0, none⟩ = some (.int .i64 f) := hR1.cell_at rfl)
            | (go_at_call 23; refine (aneed_ok v per H.out.1 _).mono ?_; rw [← H.out.2.2]; rintro e w1 ⟨rfl, rfl⟩))
          go_ret
          exact ⟨rfl, hBx.trans (hb1.mono hBx.size)⟩
        · obtain rfl : b = false := by
            cases b
            · rfl
            · exact absurd (HB.out.1 rfl).2.2.2 h4
          have h4b : decide (least ≤ f) = false := decide_eq_false h4
          have H := Lib.hid (And.intro h1 (And.intro h2 hq))
          clear HB h1 h2 hq
          go_enter Try.func25, Try.ntmps25
          go_wp2_with (first
            | (go_at_call 19; refine (aright_any f v true ⟨fun _ => H.out.2.1, fun _ => rfl⟩ _).mono ?_; rintro e w1 ⟨rfl, hb1⟩; have hR1 := (Has.fresh w 38 #[.int .i64 f, .int .i64 v]).under hb1 (Has.fresh w _ _).lt; have c0 : w1.cell? ⟨w.heap.size, 0, none⟩ = some (.int .i64 f) := hR1.cell_at rfl)
            | (go_at_call 23; refine (aneed_ok v per H.out.1 _).mono ?_; rw [← H.out.2.2]; rintro e w1 ⟨rfl, rfl⟩))
          go_ret
          exact ⟨rfl, hBx.trans (hb1.mono hBx.size)⟩
      · obtain rfl : b = false := by
          cases b
          · rfl
          · exact absurd (hq ▸ (HB.out.1 rfl).2.2.1) h3
        have h3b : decide (q ≤ f) = false := decide_eq_false h3
        have H := Lib.hid (And.intro h1 (And.intro h2 hq))
        clear HB h1 h2 hq
        go_enter Try.func25, Try.ntmps25
        go_wp2_with (first
          | (go_at_call 19; refine (aright_any f v true ⟨fun _ => H.out.2.1, fun _ => rfl⟩ _).mono ?_; rintro e w1 ⟨rfl, hb1⟩; have hR1 := (Has.fresh w 38 #[.int .i64 f, .int .i64 v]).under hb1 (Has.fresh w _ _).lt; have c0 : w1.cell? ⟨w.heap.size, 0, none⟩ = some (.int .i64 f) := hR1.cell_at rfl)
          | (go_at_call 23; refine (aneed_ok v per H.out.1 _).mono ?_; rw [← H.out.2.2]; rintro e w1 ⟨rfl, rfl⟩))
        go_ret
        exact ⟨rfl, hBx.trans (hb1.mono hBx.size)⟩
    · obtain rfl : b = false := by
        cases b
        · rfl
        · exact absurd (HB.out.1 rfl).2.1 h2
      have H := Lib.hid (And.intro h1 h2)
      clear HB h1 h2
      go_enter Try.func25, Try.ntmps25
      go_wp2_with (first
        | (go_at_call 19; refine (aright_any f v false ⟨fun e => absurd e Bool.false_ne_true, fun e => absurd e H.out.2⟩ _).mono ?_; rintro e w1 ⟨rfl, hb1⟩)
        | (go_at_call 23; refine (aneed_ok v per H.out.1 _).mono ?_; rintro e w1 ⟨rfl, rfl⟩))
      go_ret
      exact ⟨rfl, hBx.trans (hb1.mono hBx.size)⟩
  · obtain rfl : b = false := by
      cases b
      · rfl
      · exact absurd (HB.out.1 rfl).1 h1
    have H := Lib.hid h1
    clear HB h1
    go_enter Try.func25, Try.ntmps25
    go_wp2_with (first
      | (go_at_call 23; refine (aneed_no v per H.out _).mono ?_; rintro e w1 ⟨rfl, rfl⟩))
    go_ret
    exact ⟨rfl, hBx⟩
end Go.Proofs.Ytcbbjhcejlmmlaa
