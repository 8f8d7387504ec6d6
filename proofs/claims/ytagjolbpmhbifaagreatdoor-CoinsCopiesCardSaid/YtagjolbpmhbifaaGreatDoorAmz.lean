/- amounts and fee-rates, pure · the reference: Good, Right, Need, Pays, With · the reference: With, Total, Compare · what package amount answers, as a premise; the example; AmountTotals over it · package amount: Good, Fee, Need, Pays, Total, as the premise asks (mkamc.py) -/
import Derived.Test.YtagjolbpmhbifaaGreatDoorLz
import Derived.Test.YtagjolbpmhbifaaGreatDoorRows
import Derived.Lib.Hide
import Derived.IntWalk
import Derived.OpenShut
import Derived.ProofKit
import Derived.Deep.Cut
import Derived.Deep.RegionHeld3
/-! amounts and fee-rates, pure -/
namespace Go.Proofs.YtagjolbpmhbifaaGreatDoor.Am
def Good (z : Int) : Prop := 0 ≤ z ∧ z ≤ 2100000000000000
def Right (f w : Int) : Prop := Good f ∧ 1 ≤ w ∧ w ≤ 1099511627776
instance (z : Int) : Decidable (Good z) := inferInstanceAs (Decidable (_ ∧ _))
instance (f w : Int) : Decidable (Right f w) := inferInstanceAs (Decidable (_ ∧ _))
/-- how two fractions compare -/
def cmpN (x y u v : Nat) : Int := if x * v < u * y then -1 else if u * y < x * v then 1 else 0
def cmp (f w g v : Int) : Int := if Right f w ∧ Right g v then cmpN f.toNat w.toNat g.toNat v.toNat else 0
theorem cmpN_quo {x y u v : Nat} (hy : 0 < y) (hv : 0 < v) (h : x / y < u / v) : cmpN x y u v = -1 := by
  have h1 : x < (x / y + 1) * y := by rw [Nat.mul_comm]; exact Nat.lt_mul_div_succ x hy
  have h2 : u / v * v ≤ u := Nat.div_mul_le_self u v
  have h3 : (x / y + 1) * y * v ≤ u / v * y * v := Nat.mul_le_mul_right _ (Nat.mul_le_mul_right _ h)
  have h4 : x * v < (x / y + 1) * y * v := Nat.mul_lt_mul_of_pos_right h1 hv
  have h5 : u / v * y * v = u / v * v * y := Nat.mul_right_comm _ _ _
  have h6 : u / v * v * y ≤ u * y := Nat.mul_le_mul_right _ h2
  unfold cmpN
  rw [if_pos (by omega)]
theorem cmpN_neg (x y u v : Nat) : cmpN u v x y = -cmpN x y u v := by
  unfold cmpN
  by_cases h : x * v < u * y
  · rw [if_neg (by omega), if_pos h, if_pos h]; rfl
  · rw [if_neg h]
    by_cases g : u * y < x * v
    · rw [if_pos g, if_neg h, if_pos g]
    · rw [if_neg g, if_neg h, if_neg g]; rfl
theorem cmpN_quo' {x y u v : Nat} (hy : 0 < y) (hv : 0 < v) (h : u / v < x / y) : cmpN x y u v = 1 := by
  rw [cmpN_neg u v x y, cmpN_quo hv hy h]; rfl
theorem cmpN_mod {x y u v : Nat} (h : x / y = u / v) : cmpN x y u v = cmpN (x % y) y (u % v) v := by
  have e1 : x * v = x / y * y * v + x % y * v := by
    rw [← Nat.add_mul, Nat.mul_comm (x / y) y, Nat.div_add_mod]
  have e2 : u * y = x / y * y * v + u % v * y := by
    rw [h, Nat.mul_right_comm, ← Nat.add_mul, Nat.mul_comm (u / v) v, Nat.div_add_mod]
  unfold cmpN
  rw [e1, e2]
  generalize x / y * y * v = c
  generalize x % y * v = a
  generalize u % v * y = b
  by_cases h1 : a < b
  · rw [if_pos (by omega), if_pos h1]
  · rw [if_neg (by omega), if_neg h1]
    by_cases h2 : b < a
    · rw [if_pos (by omega), if_pos h2]
    · rw [if_neg (by omega), if_neg h2]
/-- of what is left the turned ones compare the other way round -/
theorem cmpN_turn (r y s v : Nat) : cmpN y r v s = -cmpN r y s v := by
  unfold cmpN
  rw [Nat.mul_comm v r, Nat.mul_comm y s]
  by_cases h : r * v < s * y
  · rw [if_neg (by omega), if_pos h, if_pos h]; rfl
  · rw [if_neg h]
    by_cases g : s * y < r * v
    · rw [if_pos g, if_neg h, if_pos g]
    · rw [if_neg g, if_neg h, if_neg g]; rfl
theorem cmpN_00 (y v : Nat) : cmpN 0 y 0 v = 0 := by unfold cmpN; simp
theorem cmpN_0 {y s v : Nat} (hy : 0 < y) (hs : 0 < s) : cmpN 0 y s v = -1 := by
  unfold cmpN
  rw [if_pos (by rw [Nat.zero_mul]; exact Nat.mul_pos hs hy)]
theorem cmpN_s0 {r y v : Nat} (hv : 0 < v) (hr : 0 < r) : cmpN r y 0 v = 1 := by
  unfold cmpN
  rw [if_neg (by rw [Nat.zero_mul]; exact Nat.not_lt_zero _), if_pos (by rw [Nat.zero_mul]; exact Nat.mul_pos hr hv)]
/-- a sum; what is wrong -/
def total : List Int → Int → Int × Int
  | [], s => (s, 0)
  | z :: l, s => if Good z then (if Good (s + z) then total l (s + z) else (0, 9)) else (0, 9)
def needs (w per : Int) : Prop := 1 ≤ w ∧ w ≤ 1048576 ∧ 0 ≤ per ∧ per ≤ 1048576
instance (w per : Int) : Decidable (needs w per) := inferInstanceAs (Decidable (_ ∧ _))
/-- the fee that a weight needs -/
def need (w per : Int) : Int := (w * per + 999) / 1000
end Go.Proofs.YtagjolbpmhbifaaGreatDoor.Am

/-! the reference: Good, Right, Need, Pays, With -/
namespace Go.Proofs.YtagjolbpmhbifaaGreatDoor
open Go Go.RowKit Go.ChangeShapes Go.WideShapes
theorem agood_any (z : Int) (b : Bool) (hb : b = true ↔ Am.Good z) (w : World) :
    Calls Tryz.prog 46 #[.int .i64 z] w fun e w' => e = .returned (.bool b) ∧ w = w' := by
  have HB := Lib.hid hb
  clear hb
  by_cases h1 : 0 ≤ z
  · by_cases h2 : z ≤ 2100000000000000
    · obtain rfl : b = true := HB.out.2 ⟨h1, h2⟩
      clear HB
      go_enter Tryz.func46, Tryz.ntmps46
      go_wp2
      go_ret
      exact ⟨rfl, rfl⟩
    · obtain rfl : b = false := by
        cases b
        · rfl
        · exact absurd (HB.out.1 rfl).2 h2
      clear HB
      go_enter Tryz.func46, Tryz.ntmps46
      go_wp2
      go_ret
      exact ⟨rfl, rfl⟩
  · obtain rfl : b = false := by
      cases b
      · rfl
      · exact absurd (HB.out.1 rfl).1 h1
    clear HB
    go_enter Tryz.func46, Tryz.ntmps46
    go_wp2
    go_ret
    exact ⟨rfl, rfl⟩
theorem dec_iff (p : Prop) [Decidable p] : decide p = true ↔ p := decide_eq_true_iff
/-- does a fee-rate pay? -/
def Am.Pays (f v per least : Int) : Prop := Am.needs v per ∧ Am.Right f v ∧ Am.need v per ≤ f ∧ least ≤ f
instance (f v per least : Int) : Decidable (Am.Pays f v per least) := inferInstanceAs (Decidable (_ ∧ _))
end Go.Proofs.YtagjolbpmhbifaaGreatDoor

/-! the reference: With, Total, Compare -/
namespace Go.Proofs.YtagjolbpmhbifaaGreatDoor
open Go Go.RowKit Go.ChangeShapes Go.WideShapes
/-- two fee-rates put together -/
def Am.Fits (f v g u : Int) : Prop := Am.Right f v ∧ Am.Right g u ∧ Am.Right (f + g) (v + u)
instance (f v g u : Int) : Decidable (Am.Fits f v g u) := inferInstanceAs (Decidable (_ ∧ _))
theorem Am.wraps {f v g u : Int} (h1 : Am.Right f v) (h2 : Am.Right g u) : IntKind.i64.wrap (f + g) = f + g ∧ IntKind.i64.wrap (v + u) = v + u := by
  obtain ⟨⟨a1, a2⟩, a3, a4⟩ := h1
  obtain ⟨⟨b1, b2⟩, b3, b4⟩ := h2
  exact ⟨IntWalk.i64_in _ (by omega), IntWalk.i64_in _ (by omega)⟩
set_option maxRecDepth 100000 in
set_option maxHeartbeats 2000000 in
theorem atotal_any (a : Option Addr) (n c : Nat) (l : List Int) (w : World) (h : Nums w a n l) :
    Calls Tryz.prog 85 #[.slice a n c] w fun e w' => e = .returned (.tuple #[.int .i64 (Am.total l 0).1, .int .i64 (Am.total l 0).2]) ∧ w = w' := by
  have hl := h.1
  have hmx : n ≤ 9223372036854775807 := h.2.1
  have HL := Lib.hid hl
  clear hl
  go_enter Tryz.func85, Tryz.ntmps85
  go_wp2
  go_loop [4, 5] (fun sv iv => ∃ (i : Nat) (s : Int), i ≤ n ∧ iv = .int .i64 i ∧ sv = .int .i64 s ∧ 0 ≤ s ∧ s ≤ 2100000000000000 ∧ Hid (Am.total l 0 = Am.total (l.drop i) s)) (fun _ iv => n - (intOf iv).toNat)
  case atStart => exact ⟨0, 0, Nat.zero_le _, rfl, rfl, by omega, by omega, Lib.hid rfl⟩
  case round =>
    obtain ⟨i, s, hi, rfl, rfl, hs0, hs1, HT⟩ := hrel
    by_cases hlt : i < n
    · obtain ⟨x, rfl, hx⟩ := h.2.2 i hlt
      have hii : (i : Int) < (n : Int) := by omega
      have hi0 : (0 : Int) ≤ (i : Int) := by omega
      obtain ⟨z, hz⟩ : ∃ z, z = cn l i := ⟨_, rfl⟩
      rw [← hz] at hx
      have hdr : l.drop i = z :: l.drop (i + 1) := by
        rw [List.drop_eq_getElem_cons (by rw [HL.out]; exact hlt), hz, cn, List.getD_eq_getElem?_getD, List.getElem?_eq_getElem (by rw [HL.out]; exact hlt)]
        rfl
      have HD := Lib.hid hdr
      clear hz hdr
      by_cases hg : Am.Good z
      · obtain ⟨hz0, hz1⟩ := id hg
        have HG := Lib.hid hg
        clear hg
        by_cases hg2 : Am.Good (s + z)
        · have HE := Lib.hid (show Am.total l 0 = Am.total (l.drop (i + 1)) (s + z) by
            rw [HT.out, HD.out]
            show (if Am.Good z then _ else _) = _
            rw [if_pos HG.out, if_pos hg2])
          obtain ⟨hz2, hz3⟩ := id hg2
          have HG2 := Lib.hid hg2
          clear hg2
          go_wp2_with (first
            | (go_at_call 46; (with_reducible refine (agood_any z true ⟨fun _ => HG.out, fun _ => rfl⟩ _).mono ?_); rintro e w1 ⟨rfl, rfl⟩)
            | (go_at_call 46; (with_reducible refine (agood_any (s + z) true ⟨fun _ => HG2.out, fun _ => rfl⟩ _).mono ?_); rintro e w1 ⟨rfl, rfl⟩))
          go_round
          case rel => exact ⟨i + 1, s + z, by omega, by go_num, rfl, hz2, hz3, HE⟩
          case measure => (simp [intOf]; try omega)
        · have HE := Lib.hid (show Am.total l 0 = (0, 9) by
            rw [HT.out, HD.out]
            show (if Am.Good z then _ else _) = _
            rw [if_pos HG.out, if_neg hg2])
          have HG2 := Lib.hid hg2
          clear hg2
          go_wp2_with (first
            | (go_at_call 46; (with_reducible refine (agood_any z true ⟨fun _ => HG.out, fun _ => rfl⟩ _).mono ?_); rintro e w1 ⟨rfl, rfl⟩)
            | (go_at_call 46; (with_reducible refine (agood_any (s + z) false ⟨fun e => absurd e Bool.false_ne_true, fun e => absurd e HG2.out⟩ _).mono ?_); rintro e w1 ⟨rfl, rfl⟩))
          go_ret2
          exact ⟨by rw [HE.out]; rfl, rfl⟩
      · have HE := Lib.hid (show Am.total l 0 = (0, 9) by
          rw [HT.out, HD.out]
          show (if Am.Good z then _ else _) = _
          rw [if_neg hg])
        have HG := Lib.hid hg
        clear hg
        go_wp2_with (first
          | (go_at_call 46; (with_reducible refine (agood_any z false ⟨fun e => absurd e Bool.false_ne_true, fun e => absurd e HG.out⟩ _).mono ?_); rintro e w1 ⟨rfl, rfl⟩))
        go_ret2
        exact ⟨by rw [HE.out]; rfl, rfl⟩
    · have hii : ¬ (i : Int) < (n : Int) := by omega
      have HE := Lib.hid (show Am.total l 0 = (s, 0) by
        rw [HT.out, List.drop_of_length_le (by rw [HL.out]; omega)]
        rfl)
      go_wp2
      go_ret2
      exact ⟨by rw [HE.out]; rfl, rfl⟩
theorem Am.tdiv_nat (x y : Nat) : (x : Int).tdiv (y : Int) = ((x / y : Nat) : Int) := rfl
theorem Am.tmod_nat (x y : Nat) : (x : Int).tmod (y : Int) = ((x % y : Nat) : Int) := rfl
end Go.Proofs.YtagjolbpmhbifaaGreatDoor

/-! what package amount answers, as a premise; the example; AmountTotals over it -/
namespace Go.Proofs.YtagjolbpmhbifaaGreatDoor
open Go Go.RowKit Go.ChangeShapes Go.WideShapes
def Am.Fees (a b : Int) : Prop := Am.Good a ∧ Am.Good b ∧ b ≤ a
instance (a b : Int) : Decidable (Am.Fees a b) := inferInstanceAs (Decidable (_ ∧ _))
theorem ex_good (z : Int) : ∃ b : Bool, b = true ↔ Am.Good z := ⟨decide (Am.Good z), decide_eq_true_iff⟩
end Go.Proofs.YtagjolbpmhbifaaGreatDoor

/-! package amount: Good, Fee, Need, Pays, Total, as the premise asks (mkamc.py) -/
namespace Go.Proofs.YtagjolbpmhbifaaGreatDoor
open Go Go.RowKit Go.ChangeShapes Go.WideShapes
set_option maxRecDepth 100000 in
set_option maxHeartbeats 2000000 in
theorem pgood_any (z : Int) (b : Bool) (hb : b = true ↔ Am.Good z) (w : World) :
    Calls Tryz.prog 26 #[.int .i64 z] w fun e w' => e = .returned (.bool b) ∧ w = w' := by
  have HB := Lib.hid hb
  clear hb
  by_cases h1 : 0 ≤ z
  · by_cases h2 : z ≤ 2100000000000000
    · obtain rfl : b = true := HB.out.2 ⟨h1, h2⟩
      clear HB
      go_enter Tryz.func26, Tryz.ntmps26
      go_wp2
      go_ret
      exact ⟨rfl, rfl⟩
    · obtain rfl : b = false := by
        cases b
        · rfl
        · exact absurd (HB.out.1 rfl).2 h2
      clear HB
      go_enter Tryz.func26, Tryz.ntmps26
      go_wp2
      go_ret
      exact ⟨rfl, rfl⟩
  · obtain rfl : b = false := by
      cases b
      · rfl
      · exact absurd (HB.out.1 rfl).1 h1
    clear HB
    go_enter Tryz.func26, Tryz.ntmps26
    go_wp2
    go_ret
    exact ⟨rfl, rfl⟩
set_option maxRecDepth 100000 in
set_option maxHeartbeats 2000000 in
theorem pfee_ok (a b : Int) (h : Am.Fees a b) (w : World) :
    Calls Tryz.prog 38 #[.int .i64 a, .int .i64 b] w fun e w' => e = .returned (.tuple #[.int .i64 (a - b), .nilIface]) ∧ w = w' := by
  have P := Lib.hid (And.intro h.1 h.2.1)
  obtain ⟨⟨a1, a2⟩, ⟨b1, b2⟩, h3⟩ := h
  have hle : ¬ a < b := by omega
  have hw : IntKind.i64.wrap (a - b) = a - b := IntWalk.i64_in _ (by omega)
  go_enter Tryz.func38, Tryz.ntmps38
  go_wp2_with (first
    | (go_at_call 26; (with_reducible refine (pgood_any b true ⟨fun _ => P.out.2, fun _ => rfl⟩ _).mono ?_); rintro e wk ⟨rfl, rfl⟩)
    | (go_at_call 26; (with_reducible refine (pgood_any a true ⟨fun _ => P.out.1, fun _ => rfl⟩ _).mono ?_); rintro e wk ⟨rfl, rfl⟩))
  go_ret2
  exact ⟨rfl, rfl⟩
set_option maxRecDepth 100000 in
set_option maxHeartbeats 2000000 in
theorem pfee_no (a b : Int) (h : ¬ Am.Fees a b) (w : World) :
    Calls Tryz.prog 38 #[.int .i64 a, .int .i64 b] w fun e w' => e = .returned (.tuple #[.int .i64 0, erro 9]) ∧ w = w' := by
  by_cases ga : Am.Good a
  · by_cases gb : Am.Good b
    · have hlt : a < b := Int.lt_of_not_ge fun q => h ⟨ga, gb, q⟩
      have P := Lib.hid (And.intro ga gb)
      clear h ga gb
      go_enter Tryz.func38, Tryz.ntmps38
      go_wp2_with (first
        | (go_at_call 26; (with_reducible refine (pgood_any b true ⟨fun _ => P.out.2, fun _ => rfl⟩ _).mono ?_); rintro e wk ⟨rfl, rfl⟩)
        | (go_at_call 26; (with_reducible refine (pgood_any a true ⟨fun _ => P.out.1, fun _ => rfl⟩ _).mono ?_); rintro e wk ⟨rfl, rfl⟩))
      go_ret2
      exact ⟨rfl, rfl⟩
    · have P := Lib.hid (And.intro ga gb)
      clear h ga gb
      go_enter Tryz.func38, Tryz.ntmps38
      go_wp2_with (first
        | (go_at_call 26; (with_reducible refine (pgood_any b false ⟨fun e => absurd e Bool.false_ne_true, fun e => absurd e P.out.2⟩ _).mono ?_); rintro e wk ⟨rfl, rfl⟩)
        | (go_at_call 26; (with_reducible refine (pgood_any a true ⟨fun _ => P.out.1, fun _ => rfl⟩ _).mono ?_); rintro e wk ⟨rfl, rfl⟩))
      go_ret2
      exact ⟨rfl, rfl⟩
  · have P := Lib.hid ga
    clear h ga
    go_enter Tryz.func38, Tryz.ntmps38
    go_wp2_with (first
      | (go_at_call 26; (with_reducible refine (pgood_any a false ⟨fun e => absurd e Bool.false_ne_true, fun e => absurd e P.out⟩ _).mono ?_); rintro e wk ⟨rfl, rfl⟩))
    go_ret2
    exact ⟨rfl, rfl⟩
set_option maxRecDepth 100000 in
set_option maxHeartbeats 2000000 in
theorem ptotal_any (a : Option Addr) (n c : Nat) (l : List Int) (w : World) (h : Nums w a n l) :
    Calls Tryz.prog 60 #[.slice a n c] w fun e w' => e = .returned (.tuple #[.int .i64 (Am.total l 0).1, errn (Am.total l 0).2]) ∧ w = w' := by
  have hl := h.1
  have hmx : n ≤ 9223372036854775807 := h.2.1
  have HL := Lib.hid hl
  clear hl
  go_enter Tryz.func60, Tryz.ntmps60
  go_wp2
  go_loop [4, 9] (fun sv iv => ∃ (i : Nat) (s : Int), i ≤ n ∧ iv = .int .i64 i ∧ sv = .int .i64 s ∧ 0 ≤ s ∧ s ≤ 2100000000000000 ∧ Hid (Am.total l 0 = Am.total (l.drop i) s)) (fun _ iv => n - (intOf iv).toNat)
  case atStart => exact ⟨0, 0, Nat.zero_le _, rfl, rfl, by omega, by omega, Lib.hid rfl⟩
  case round =>
    obtain ⟨i, s, hi, rfl, rfl, hs0, hs1, HT⟩ := hrel
    by_cases hlt : i < n
    · obtain ⟨x, rfl, hx⟩ := h.2.2 i hlt
      have hii : (i : Int) < (n : Int) := by omega
      have hi0 : (0 : Int) ≤ (i : Int) := by omega
      obtain ⟨z, hz⟩ : ∃ z, z = cn l i := ⟨_, rfl⟩
      rw [← hz] at hx
      have hdr : l.drop i = z :: l.drop (i + 1) := by
        rw [List.drop_eq_getElem_cons (by rw [HL.out]; exact hlt), hz, cn, List.getD_eq_getElem?_getD, List.getElem?_eq_getElem (by rw [HL.out]; exact hlt)]
        rfl
      have HD := Lib.hid hdr
      clear hz hdr
      by_cases hg : Am.Good z
      · obtain ⟨hz0, hz1⟩ := id hg
        have HG := Lib.hid hg
        clear hg
        by_cases hg2 : Am.Good (s + z)
        · have HE := Lib.hid (show Am.total l 0 = Am.total (l.drop (i + 1)) (s + z) by
            rw [HT.out, HD.out]
            show (if Am.Good z then _ else _) = _
            rw [if_pos HG.out, if_pos hg2])
          obtain ⟨hz2, hz3⟩ := id hg2
          have HG2 := Lib.hid hg2
          clear hg2
          go_wp2_with (first
            | (go_at_call 26; (with_reducible refine (pgood_any z true ⟨fun _ => HG.out, fun _ => rfl⟩ _).mono ?_); rintro e w1 ⟨rfl, rfl⟩)
            | (go_at_call 26; (with_reducible refine (pgood_any (s + z) true ⟨fun _ => HG2.out, fun _ => rfl⟩ _).mono ?_); rintro e w1 ⟨rfl, rfl⟩))
          go_round
          case rel => exact ⟨i + 1, s + z, by omega, by go_num, rfl, hz2, hz3, HE⟩
          case measure => (simp [intOf]; try omega)
        · have HE := Lib.hid (show Am.total l 0 = (0, 9) by
            rw [HT.out, HD.out]
            show (if Am.Good z then _ else _) = _
            rw [if_pos HG.out, if_neg hg2])
          have HG2 := Lib.hid hg2
          clear hg2
          go_wp2_with (first
            | (go_at_call 26; (with_reducible refine (pgood_any z true ⟨fun _ => HG.out, fun _ => rfl⟩ _).mono ?_); rintro e w1 ⟨rfl, rfl⟩)
            | (go_at_call 26; (with_reducible refine (pgood_any (s + z) false ⟨fun e => absurd e Bool.false_ne_true, fun e => absurd e HG2.out⟩ _).mono ?_); rintro e w1 ⟨rfl, rfl⟩))
          go_ret2
          exact ⟨by rw [HE.out]; rfl, rfl⟩
      · have HE := Lib.hid (show Am.total l 0 = (0, 9) by
          rw [HT.out, HD.out]
          show (if Am.Good z then _ else _) = _
          rw [if_neg hg])
        have HG := Lib.hid hg
        clear hg
        go_wp2_with (first
          | (go_at_call 26; (with_reducible refine (pgood_any z false ⟨fun e => absurd e Bool.false_ne_true, fun e => absurd e HG.out⟩ _).mono ?_); rintro e w1 ⟨rfl, rfl⟩))
        go_ret2
        exact ⟨by rw [HE.out]; rfl, rfl⟩
    · have hii : ¬ (i : Int) < (n : Int) := by omega
      have HE := Lib.hid (show Am.total l 0 = (s, 0) by
        rw [HT.out, List.drop_of_length_le (by rw [HL.out]; omega)]
        rfl)
      go_wp2
      go_ret2
      exact ⟨by rw [HE.out]; rfl, rfl⟩
end Go.Proofs.YtagjolbpmhbifaaGreatDoor
