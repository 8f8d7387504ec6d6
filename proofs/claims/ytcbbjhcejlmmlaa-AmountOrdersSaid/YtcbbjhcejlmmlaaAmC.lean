/- package amount: Good, Fee, Need, Pays, Total, as the premise asks (mkamc.py) -/
import Derived.Test.YtcbbjhcejlmmlaaAmK
namespace Go.Proofs.Ytcbbjhcejlmmlaa
open Go Go.RowKit Go.ChangeShapes Go.WideShapes
set_option maxRecDepth 100000 in
set_option maxHeartbeats 2000000 in
theorem pgood_any (z : Int) (b : Bool) (hb : b = true ↔ Am.Good z) (w : World) :
    Calls Try.prog 13 #[.int .i64 z] w fun e w' => e = .returned (.bool b) ∧ w = w' := by
  have HB := Lib.hid hb
  clear hb
  by_cases h1 : 0 ≤ z
  · by_cases h2 : z ≤ 2100000000000000
    · obtain rfl : b = true := HB.out.2 ⟨h1, h2⟩
      clear HB
      go_enter Try.func13, Try.ntmps13
      go_wp2
      go_ret
      exact ⟨rfl, rfl⟩
    · obtain rfl : b = false := by
        cases b
        · rfl
        · exact absurd (HB.out.1 rfl).2 h2
      clear HB
      go_enter Try.func13, Try.ntmps13
      go_wp2
      go_ret
      exact ⟨rfl, rfl⟩
  · obtain rfl : b = false := by
      cases b
      · rfl
      · exact absurd (HB.out.1 rfl).1 h1
    clear HB
    go_enter Try.func13, Try.ntmps13
    go_wp2
    go_ret
    exact ⟨rfl, rfl⟩
set_option maxRecDepth 100000 in
set_option maxHeartbeats 2000000 in
theorem pright_any (f v : Int) (b : Bool) (hb : b = true ↔ Am.Right f v) (w : World) :
    Calls Try.prog 18 #[.agg #[.int .i64 f, .int .i64 v]] w fun e w' => e = .returned (.bool b) ∧ Below w.heap.size w w' := by
  have HB := Lib.hid hb
  clear hb
  have hBx : Below w.heap.size w (w.alloc (.cells #[.int .i64 f, .int .i64 v] 39)) := (Below.refl _ _).alloc (Nat.le_refl _) _
  by_cases h1 : Am.Good f
  · by_cases h2 : 1 ≤ v
    · by_cases h3 : v ≤ 1099511627776
      · obtain rfl : b = true := HB.out.2 ⟨h1, h2, h3⟩
        have H1 := Lib.hid h1
        clear HB h1
        go_enter Try.func18, Try.ntmps18
        go_wp2_with (first | (go_at_call 13; refine (pgood_any f true ⟨fun _ => H1.out, fun _ => rfl⟩ _).mono ?_; rintro e w1 ⟨rfl, rfl⟩))
        go_ret
        exact ⟨rfl, hBx⟩
      · obtain rfl : b = false := by
          cases b
          · rfl
          · exact absurd (HB.out.1 rfl).2.2 h3
        have h3b : decide (v ≤ 1099511627776) = false := decide_eq_false h3
        have H1 := Lib.hid h1
        clear HB h1
        go_enter Try.func18, Try.ntmps18
        go_wp2_with (first | (go_at_call 13; refine (pgood_any f true ⟨fun _ => H1.out, fun _ => rfl⟩ _).mono ?_; rintro e w1 ⟨rfl, rfl⟩))
        go_ret
        exact ⟨rfl, hBx⟩
    · obtain rfl : b = false := by
        cases b
        · rfl
        · exact absurd (HB.out.1 rfl).2.1 h2
      have h2b : decide (1 ≤ v) = false := decide_eq_false h2
      have H1 := Lib.hid h1
      clear HB h1
      go_enter Try.func18, Try.ntmps18
      go_wp2_with (first | (go_at_call 13; refine (pgood_any f true ⟨fun _ => H1.out, fun _ => rfl⟩ _).mono ?_; rintro e w1 ⟨rfl, rfl⟩))
      go_ret
      exact ⟨rfl, hBx⟩
  · obtain rfl : b = false := by
      cases b
      · rfl
      · exact absurd (HB.out.1 rfl).1 h1
    have H1 := Lib.hid h1
    clear HB h1
    go_enter Try.func18, Try.ntmps18
    go_wp2_with (first | (go_at_call 13; refine (pgood_any f false ⟨fun e => absurd e Bool.false_ne_true, fun e => absurd e H1.out⟩ _).mono ?_; rintro e w1 ⟨rfl, rfl⟩))
    go_ret
    exact ⟨rfl, hBx⟩
set_option maxRecDepth 100000 in
set_option maxHeartbeats 2000000 in
theorem pneed_no (v per : Int) (h : ¬ Am.needs v per) (w : World) :
    Calls Try.prog 22 #[.int .i64 v, .int .i64 per] w fun e w' => e = .returned (.tuple #[.int .i64 0, erro 1]) ∧ w = w' := by
  have HN := Lib.hid h
  clear h
  by_cases h1 : v < 1
  · go_enter Try.func22, Try.ntmps22
    go_wp2
    go_ret2
    exact ⟨rfl, rfl⟩
  · by_cases h2 : 1048576 < v
    · go_enter Try.func22, Try.ntmps22
      go_wp2
      go_ret2
      exact ⟨rfl, rfl⟩
    · by_cases h3 : per < 0
      · go_enter Try.func22, Try.ntmps22
        go_wp2
        go_ret2
        exact ⟨rfl, rfl⟩
      · have h4 : 1048576 < per := Decidable.byContradiction fun g => HN.out ⟨by omega, by omega, by omega, by omega⟩
        go_enter Try.func22, Try.ntmps22
        go_wp2
        go_ret2
        exact ⟨rfl, rfl⟩
set_option maxRecDepth 100000 in
set_option maxHeartbeats 2000000 in
theorem pneed_ok (v per : Int) (h : Am.needs v per) (w : World) :
    Calls Try.prog 22 #[.int .i64 v, .int .i64 per] w fun e w' => e = .returned (.tuple #[.int .i64 (Am.need v per), .nilIface]) ∧ w = w' := by
  obtain ⟨h1, h2, h3, h4⟩ := h
  have g1 : ¬ v < 1 := by omega
  have g2 : ¬ 1048576 < v := by omega
  have g3 : ¬ per < 0 := by omega
  have g4 : ¬ 1048576 < per := by omega
  obtain ⟨p, hp⟩ : ∃ p, per * v = p := ⟨_, rfl⟩
  have p0 : 0 ≤ p := by rw [← hp]; exact Int.mul_nonneg h3 (by omega)
  have p1 : p ≤ 1099511627776 := by
    have := Int.mul_le_mul h4 h2 (show (0 : Int) ≤ v by omega) (show (0 : Int) ≤ 1048576 by omega)
    omega
  have hE : Am.need v per = (p + 1000 - 1) / 1000 := by
    unfold Am.need
    rw [Int.mul_comm v per, hp]
    omega
  have hw1 : IntKind.i64.wrap p = p := IntWalk.i64_in _ (by omega)
  have hw2 : IntKind.i64.wrap (p + 1000) = p + 1000 := IntWalk.i64_in _ (by omega)
  have hw3 : IntKind.i64.wrap (p + 1000 - 1) = p + 1000 - 1 := IntWalk.i64_in _ (by omega)
  obtain ⟨q, hq⟩ : ∃ q, q = (p + 1000 - 1) / 1000 := ⟨_, rfl⟩
  have hq1 : (p + 1000 - 1).tdiv 1000 = q := by rw [hq, Int.tdiv_eq_ediv_of_nonneg (by omega)]
  have hq0 : 0 ≤ q := by omega
  have hq2 : q ≤ 1099511629 := by omega
  have hw4 : IntKind.i64.wrap q = q := IntWalk.i64_in _ (by omega)
  rw [← hq] at hE
  have HX := Lib.hid hE
  clear hE hq
  go_enter Try.func22, Try.ntmps22
  go_wp2
  go_ret2
  exact ⟨by rw [HX.out]; rfl, rfl⟩
set_option maxRecDepth 100000 in
set_option maxHeartbeats 2000000 in
theorem pfee_ok (a b : Int) (h : Am.Fees a b) (w : World) :
    Calls Try.prog 10 #[.int .i64 a, .int .i64 b] w fun e w' => e = .returned (.tuple #[.int .i64 (a - b), .nilIface]) ∧ w = w' := by
  have P := Lib.hid (And.intro h.1 h.2.1)
  obtain ⟨⟨a1, a2⟩, ⟨b1, b2⟩, h3⟩ := h
  have hle : ¬ a < b := by omega
  have hw : IntKind.i64.wrap (a - b) = a - b := IntWalk.i64_in _ (by omega)
  go_enter Try.func10, Try.ntmps10
  go_wp2_with (first
    | (go_at_call 13; (with_reducible refine (pgood_any b true ⟨fun _ => P.out.2, fun _ => rfl⟩ _).mono ?_); rintro e wk ⟨rfl, rfl⟩)
    | (go_at_call 13; (with_reducible refine (pgood_any a true ⟨fun _ => P.out.1, fun _ => rfl⟩ _).mono ?_); rintro e wk ⟨rfl, rfl⟩))
  go_ret2
  exact ⟨rfl, rfl⟩
set_option maxRecDepth 100000 in
set_option maxHeartbeats 2000000 in
theorem pfee_no (a b : Int) (h : ¬ Am.Fees a b) (w : World) :
    Calls Try.prog 10 #[.int .i64 a, .int .i64 b] w fun e w' => e = .returned (.tuple #[.int .i64 0, erro 9]) ∧ w = w' := by
  by_cases ga : Am.Good a
  · by_cases gb : Am.Good b
    · have hlt : a < b := Int.lt_of_not_ge fun q => h ⟨ga, gb, q⟩
      have P := Lib.hid (And.intro ga gb)
      clear h ga gb
      go_enter Try.func10, Try.ntmps10
      go_wp2_with (first
        | (go_at_call 13; (with_reducible refine (pgood_any b true ⟨fun _ => P.out.2, fun _ => rfl⟩ _).mono ?_); rintro e wk ⟨rfl, rfl⟩)
        | (go_at_call 13; (with_reducible refine (pgood_any a true ⟨fun _ => P.out.1, fun _ => rfl⟩ _).mono ?_); rintro e wk ⟨rfl, rfl⟩))
      go_ret2
      exact ⟨rfl, rfl⟩
    · have P := Lib.hid (And.intro ga gb)
      clear h ga gb
      go_enter Try.func10, Try.ntmps10
      go_wp2_with (first
        | (go_at_call 13; (with_reducible refine (pgood_any b false ⟨fun e => absurd e Bool.false_ne_true, fun e => absurd e P.out.2⟩ _).mono ?_); rintro e wk ⟨rfl, rfl⟩)
        | (go_at_call 13; (with_reducible refine (pgood_any a true ⟨fun _ => P.out.1, fun _ => rfl⟩ _).mono ?_); rintro e wk ⟨rfl, rfl⟩))
      go_ret2
      exact ⟨rfl, rfl⟩
  · have P := Lib.hid ga
    clear h ga
    go_enter Try.func10, Try.ntmps10
    go_wp2_with (first
      | (go_at_call 13; (with_reducible refine (pgood_any a false ⟨fun e => absurd e Bool.false_ne_true, fun e => absurd e P.out⟩ _).mono ?_); rintro e wk ⟨rfl, rfl⟩))
    go_ret2
    exact ⟨rfl, rfl⟩
set_option maxRecDepth 100000 in
set_option maxHeartbeats 2000000 in
theorem ppays_any (f v per least : Int) (b : Bool) (hb : b = true ↔ Am.Pays f v per least) (w : World) :
    Calls Try.prog 24 #[.agg #[.int .i64 f, .int .i64 v], .int .i64 per, .int .i64 least] w fun e w' => e = .returned (.bool b) ∧ Below w.heap.size w w' := by
  have HB := Lib.hid hb
  clear hb
  have hBx : Below w.heap.size w (w.alloc (.cells #[.int .i64 f, .int .i64 v] 39)) := (Below.refl _ _).alloc (Nat.le_refl _) _
  by_cases h1 : Am.needs v per
  · by_cases h2 : Am.Right f v
    · obtain ⟨q, hq⟩ : ∃ q, q = Am.need v per := ⟨_, rfl⟩
      by_cases h3 : q ≤ f
      · by_cases h4 : least ≤ f
        · obtain rfl : b = true := HB.out.2 ⟨h1, h2, hq ▸ h3, h4⟩
          have H := Lib.hid (And.intro h1 (And.intro h2 hq))
          clear HB h1 h2 hq
          go_enter Try.func24, Try.ntmps24
          go_wp2_with (first
            | (go_at_call 18; refine (pright_any f v true ⟨fun _ => H.out.2.1, fun _ => rfl⟩ _).mono ?_; rintro e w1 ⟨rfl, hb1⟩; have hR1 := (Has.fresh w 39 #[.int .i64 f, .int .i64 v]).under hb1 (Has.fresh w _ _).lt; have c0 : w1.cell? ⟨w.heap.size, 0, none⟩ = some (.int .i64 f) := hR1.cell_at rfl)
            | (go_at_call 22; refine (pneed_ok v per H.out.1 _).mono ?_; rw [← H.out.2.2]; rintro e w1 ⟨rfl, rfl⟩))
          go_ret
          exact ⟨rfl, hBx.trans (hb1.mono hBx.size)⟩
        · obtain rfl : b = false := by
            cases b
            · rfl
            · exact absurd (HB.out.1 rfl).2.2.2 h4
          have h4b : decide (least ≤ f) = false := decide_eq_false h4
          have H := Lib.hid (And.intro h1 (And.intro h2 hq))
          clear HB h1 h2 hq
          go_enter Try.func24, Try.ntmps24
          go_wp2_with (first
            | (go_at_call 18; refine (pright_any f v true ⟨fun _ => H.out.2.1, fun _ => rfl⟩ _).mono ?_; rintro e w1 ⟨rfl, hb1⟩; have hR1 := (Has.fresh w 39 #[.int .i64 f, .int .i64 v]).under hb1 (Has.fresh w _ _).lt; have c0 : w1.cell? ⟨w.heap.size, 0, none⟩ = some (.int .i64 f) := hR1.cell_at rfl)
            | (go_at_call 22; refine (pneed_ok v per H.out.1 _).mono ?_; rw [← H.out.2.2]; rintro e w1 ⟨rfl, rfl⟩))
          go_ret
          exact ⟨rfl, hBx.trans (hb1.mono hBx.size)⟩
      · obtain rfl : b = false := by
          cases b
          · rfl
          · exact absurd (hq ▸ (HB.out.1 rfl).2.2.1) h3
        have h3b : decide (q ≤ f) = false := decide_eq_false h3
        have H := Lib.hid (And.intro h1 (And.intro h2 hq))
        clear HB h1 h2 hq
        go_enter Try.func24, Try.ntmps24
        go_wp2_with (first
          | (go_at_call 18; refine (pright_any f v true ⟨fun _ => H.out.2.1, fun _ => rfl⟩ _).mono ?_; rintro e w1 ⟨rfl, hb1⟩; have hR1 := (Has.fresh w 39 #[.int .i64 f, .int .i64 v]).under hb1 (Has.fresh w _ _).lt; have c0 : w1.cell? ⟨w.heap.size, 0, none⟩ = some (.int .i64 f) := hR1.cell_at rfl)
          | (go_at_call 22; refine (pneed_ok v per H.out.1 _).mono ?_; rw [← H.out.2.2]; rintro e w1 ⟨rfl, rfl⟩))
        go_ret
        exact ⟨rfl, hBx.trans (hb1.mono hBx.size)⟩
    · obtain rfl : b = false := by
        cases b
        · rfl
        · exact absurd (HB.out.1 rfl).2.1 h2
      have H := Lib.hid (And.intro h1 h2)
      clear HB h1 h2
      go_enter Try.func24, Try.ntmps24
      go_wp2_with (first
        | (go_at_call 18; refine (pright_any f v false ⟨fun e => absurd e Bool.false_ne_true, fun e => absurd e H.out.2⟩ _).mono ?_; rintro e w1 ⟨rfl, hb1⟩)
        | (go_at_call 22; refine (pneed_ok v per H.out.1 _).mono ?_; rintro e w1 ⟨rfl, rfl⟩))
      go_ret
      exact ⟨rfl, hBx.trans (hb1.mono hBx.size)⟩
  · obtain rfl : b = false := by
      cases b
      · rfl
      · exact absurd (HB.out.1 rfl).1 h1
    have H := Lib.hid h1
    clear HB h1
    go_enter Try.func24, Try.ntmps24
    go_wp2_with (first
      | (go_at_call 22; refine (pneed_no v per H.out _).mono ?_; rintro e w1 ⟨rfl, rfl⟩))
    go_ret
    exact ⟨rfl, hBx⟩
set_option maxRecDepth 100000 in
set_option maxHeartbeats 2000000 in
theorem ptotal_any (a : Option Addr) (n c : Nat) (l : List Int) (w : World) (h : Nums w a n l) :
    Calls Try.prog 8 #[.slice a n c] w fun e w' => e = .returned (.tuple #[.int .i64 (Am.total l 0).1, errn (Am.total l 0).2]) ∧ w = w' := by
  have hl := h.1
  have hmx : n ≤ 9223372036854775807 := h.2.1
  have HL := Lib.hid hl
  clear hl
  go_enter Try.func8, Try.ntmps8
  go_wp2
  go_loop [4, 9] (fun sv iv => ∃ (i : Nat) (s : Int), i ≤ n ∧ iv = .int .i64 i ∧ sv = .int .i64 s ∧ 0 ≤ s ∧ s ≤ 2100000000000000 ∧ Hid (Am.total l 0 = Am.total (l.drop i) s)) (fun _ iv => n - (intOf iv).toNat)
  case atStart => exact ⟨0, 0, Nat.zero_le _, rfl, rfl, by omega, by omega, Lib.hid rfl⟩
  case round =>
    obtain ⟨i, s, hi, rfl, rfl, hs0, hs1, HT⟩ := hrel
    by_cases hlt : i < n
    · obtain ⟨x, rfl, hx⟩ := h.2.2 i hlt
      have hii : (i : Int) < (n : Int) := by omega
      have hi0 : (0 : Int) ≤ (i : Int) := by omega
      obtain ⟨z, hz⟩ : ∃ z, z = cn l i := ⟨_, rfl⟩
      rw [← hz] at hx
      have hdr : l.drop i = z :: l.drop (i + 1) := by
        rw [List.drop_eq_getElem_cons (by rw [HL.out]; exact hlt), hz, cn, List.getD_eq_getElem?_getD, List.getElem?_eq_getElem (by rw [HL.out]; exact hlt)]
        rfl
      have HD := Lib.hid hdr
      clear hz hdr
      by_cases hg : Am.Good z
      · obtain ⟨hz0, hz1⟩ := id hg
        have HG := Lib.hid hg
        clear hg
        by_cases hg2 : Am.Good (s + z)
        · have HE := Lib.hid (show Am.total l 0 = Am.total (l.drop (i + 1)) (s + z) by
            rw [HT.out, HD.out]
            show (if Am.Good z then _ else _) = _
            rw [if_pos HG.out, if_pos hg2])
          obtain ⟨hz2, hz3⟩ := id hg2
          have HG2 := Lib.hid hg2
          clear hg2
          go_wp2_with (first
            | (go_at_call 13; (with_reducible refine (pgood_any z true ⟨fun _ => HG.out, fun _ => rfl⟩ _).mono ?_); rintro e w1 ⟨rfl, rfl⟩)
            | (go_at_call 13; (with_reducible refine (pgood_any (s + z) true ⟨fun _ => HG2.out, fun _ => rfl⟩ _).mono ?_); rintro e w1 ⟨rfl, rfl⟩))
          go_round
          case rel => exact ⟨i + 1, s + z, by omega, by go_num, rfl, hz2, hz3, HE⟩
          case measure => (simp [intOf]; try omega)
        · have HE := Lib.hid (show Am.total l 0 = (0, 9) by
            rw [HT.out, HD.out]
            show (if Am.Good z then _ else _) = _
            rw [if_pos HG.out, if_neg hg2])
          have HG2 := Lib.hid hg2
          clear hg2
          go_wp2_with (first
            | (go_at_call 13; (with_reducible refine (pgood_any z true ⟨fun _ => HG.out, fun _ => rfl⟩ _).mono ?_); rintro e w1 ⟨rfl, rfl⟩)
            | (go_at_call 13; (with_reducible refine (pgood_any (s + z) false ⟨fun e => absurd e Bool.false_ne_true, fun e => absurd e HG2.out⟩ _).mono ?_); rintro e w1 ⟨rfl, rfl⟩))
          go_ret2
          exact ⟨by rw [HE.out]; rfl, rfl⟩
      · have HE := Lib.hid (show Am.total l 0 = (0, 9) by
          rw [HT.out, HD.out]
          show (if Am.Good z then _ else _) = _
          rw [if_neg hg])
        have HG := Lib.hid hg
        clear hg
        go_wp2_with (first
          | (go_at_call 13; (with_reducible refine (pgood_any z false ⟨fun e => absurd e Bool.false_ne_true, fun e => absurd e HG.out⟩ _).mono ?_); rintro e w1 ⟨rfl, rfl⟩))
        go_ret2
        exact ⟨by rw [HE.out]; rfl, rfl⟩
    · have hii : ¬ (i : Int) < (n : Int) := by omega
      have HE := Lib.hid (show Am.total l 0 = (s, 0) by
        rw [HT.out, List.drop_of_length_le (by rw [HL.out]; omega)]
        rfl)
      go_wp2
      go_ret2
      exact ⟨by rw [HE.out]; rfl, rfl⟩
end Go.Proofs.Ytcbbjhcejlmmlaa
