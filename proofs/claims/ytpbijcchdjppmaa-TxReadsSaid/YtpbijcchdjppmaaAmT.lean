/- the reference: With, Total, Compare -/
import Derived.Test.YtpbijcchdjppmaaAmR
import Derived.Test.YtpbijcchdjppmaaNu
import Derived.Deep.Cut
namespace Go.Proofs.Ytpbijcchdjppmaa
open Go Go.RowKit Go.ChangeShapes Go.WideShapes
/-- two fee-rates put together -/
def Am.Fits (f v g u : Int) : Prop := Am.Right f v ∧ Am.Right g u ∧ Am.Right (f + g) (v + u)
instance (f v g u : Int) : Decidable (Am.Fits f v g u) := inferInstanceAs (Decidable (_ ∧ _))
theorem Am.wraps {f v g u : Int} (h1 : Am.Right f v) (h2 : Am.Right g u) : IntKind.i64.wrap (f + g) = f + g ∧ IntKind.i64.wrap (v + u) = v + u := by
  obtain ⟨⟨a1, a2⟩, a3, a4⟩ := h1
  obtain ⟨⟨b1, b2⟩, b3, b4⟩ := h2
  exact ⟨IntWalk.i64_in _ (by omega), IntWalk.i64_in _ (by omega)⟩
set_option maxRecDepth 100000 in
set_option maxHeartbeats 2000000 in
theorem atotal_any (a : Option Addr) (n c : Nat) (l : List Int) (w : World) (h : Nums w a n l) :
    Calls Try.prog 24 #[.slice a n c] w fun e w' => e = .returned (.tuple #[.int .i64 (Am.total l 0).1, .int .i64 (Am.total l 0).2]) ∧ w = w' := by
  have hl := h.1
  have hmx : n ≤ 9223372036854775807 := h.2.1
  have HL := Lib.hid hl
  clear hl
  go_enter Try.func24, Try.ntmps24
  go_wp2
  go_loop [4, 5] (fun sv iv => ∃ (i : Nat) (s : Int), i ≤ n ∧ iv = .int .i64 i ∧ sv = .int .i64 s ∧ 0 ≤ s ∧ s ≤ 2100000000000000 ∧ Hid (Am.total l 0 = Am.total (l.drop i) s)) (fun _ iv => n - (intOf iv).toNat)
  case atStart => exact ⟨0, 0, Nat.zero_le _, rfl, rfl, by omega, by omega, Lib.hid rfl⟩
  case round =>
    obtain ⟨i, s, hi, rfl, rfl, hs0, hs1, HT⟩ := hrel
    by_cases hlt : i < n
    · obtain ⟨x, rfl, hx⟩ := h.2.2 i hlt
      have hii : (i : Int) < (n : Int) := by omega
      have hi0 : (0 : Int) ≤ (i : Int) := by omega
      obtain ⟨z, hz⟩ : ∃ z, z = cn l i := ⟨_, rfl⟩
      rw [← hz] at hx
      have hdr : l.drop i = z :: l.drop (i + 1) := by
        rw [List.drop_eq_getElem_cons (by rw [HL.out]; exact hlt), hz, cn, List.getD_eq_getElem?_getD, List.getElem?_eq_getElem (by rw [HL.out]; exact hlt)]
        rfl
      have HD := Lib.hid hdr
      clear hz hdr
      by_cases hg : Am.Good z
      · obtain ⟨hz0, hz1⟩ := id hg
        have HG := Lib.hid hg
        clear hg
        by_cases hg2 : Am.Good (s + z)
        · have HE := Lib.hid (show Am.total l 0 = Am.total (l.drop (i + 1)) (s + z) by
            rw [HT.out, HD.out]
            show (if Am.Good z then _ else _) = _
            rw [if_pos HG.out, if_pos hg2])
          obtain ⟨hz2, hz3⟩ := id hg2
          have HG2 := Lib.hid hg2
          clear hg2
          go_wp2_with (first
            | (go_at_call 45; (with_reducible refine (agood_any z true ⟨fun _ => HG.out, fun _ => rfl⟩ _).mono ?_); rintro e w1 ⟨rfl, rfl⟩)
            | (go_at_call 45; (with_reducible refine (agood_any (s + z) true ⟨fun _ => HG2.out, fun _ => rfl⟩ _).mono ?_); rintro e w1 ⟨rfl, rfl⟩))
          go_round
          case rel => exact ⟨i + 1, s + z, by omega, by go_num, rfl, hz2, hz3, HE⟩
          case measure => (simp [intOf]; try omega)
        · have HE := Lib.hid (show Am.total l 0 = (0, 9) by
            rw [HT.out, HD.out]
            show (if Am.Good z then _ else _) = _
            rw [if_pos HG.out, if_neg hg2])
          have HG2 := Lib.hid hg2
          clear hg2
          go_wp2_with (first
            | (go_at_call 45; (with_reducible refine (agood_any z true ⟨fun _ => HG.out, fun _ => rfl⟩ _).mono ?_); rintro e w1 ⟨rfl, rfl⟩)
            | (go_at_call 45; (with_reducible refine (agood_any (s + z) false ⟨fun e => absurd e Bool.false_ne_true, fun e => absurd e HG2.out⟩ _).mono ?_); rintro e w1 ⟨rfl, rfl⟩))
          go_ret2
          exact ⟨by rw [HE.out]; rfl, rfl⟩
      · have HE := Lib.hid (show Am.total l 0 = (0, 9) by
          rw [HT.out, HD.out]
          show (if Am.Good z then _ else _) = _
          rw [if_neg hg])
        have HG := Lib.hid hg
        clear hg
        go_wp2_with (first
          | (go_at_call 45; (with_reducible refine (agood_any z false ⟨fun e => absurd e Bool.false_ne_true, fun e => absurd e HG.out⟩ _).mono ?_); rintro e w1 ⟨rfl, rfl⟩))
        go_ret2
        exact ⟨by rw [HE.out]; rfl, rfl⟩
    · have hii : ¬ (i : Int) < (n : Int) := by omega
      have HE := Lib.hid (show Am.total l 0 = (s, 0) by
        rw [HT.out, List.drop_of_length_le (by rw [HL.out]; omega)]
        rfl)
      go_wp2
      go_ret2
      exact ⟨by rw [HE.out]; rfl, rfl⟩
theorem Am.tdiv_nat (x y : Nat) : (x : Int).tdiv (y : Int) = ((x / y : Nat) : Int) := rfl
theorem Am.tmod_nat (x y : Nat) : (x : Int).tmod (y : Int) = ((x % y : Nat) : Int) := rfl
end Go.Proofs.Ytpbijcchdjppmaa
