/- what package amount answers, as a premise; the example; AmountTotals over it -/
import Derived.Test.YtcbbjhcejlmmlaaAmT
import Derived.Test.YtcbbjhcejlmmlaaEr
import Derived.Test.YtcbbjhcejlmmlaaFa
import Derived.Deep.RegionHeld3
namespace Go.Proofs.Ytcbbjhcejlmmlaa
open Go Go.RowKit Go.ChangeShapes Go.WideShapes
def Am.Fees (a b : Int) : Prop := Am.Good a ∧ Am.Good b ∧ b ≤ a
instance (a b : Int) : Decidable (Am.Fees a b) := inferInstanceAs (Decidable (_ ∧ _))
/-- package amount's exported calls -/
structure AmountOk : Prop where
  good : ∀ (z : Int) (b : Bool) (w : World), (b = true ↔ Am.Good z) → Calls Try.prog 13 #[.int .i64 z] w fun e w' => e = .returned (.bool b) ∧ Below w.heap.size w w'
  total : ∀ (a : Option Addr) (n c : Nat) (l : List Int) (w : World), Nums w a n l → n ≤ c → Calls Try.prog 8 #[.slice a n c] w fun e w' => e = .returned (.tuple #[.int .i64 (Am.total l 0).1, errn (Am.total l 0).2]) ∧ Below w.heap.size w w'
  fee_ok : ∀ (a b : Int) (w : World), Am.Fees a b → Calls Try.prog 10 #[.int .i64 a, .int .i64 b] w fun e w' => e = .returned (.tuple #[.int .i64 (a - b), .nilIface]) ∧ Below w.heap.size w w'
  fee_no : ∀ (a b : Int) (w : World), ¬ Am.Fees a b → Calls Try.prog 10 #[.int .i64 a, .int .i64 b] w fun e w' => e = .returned (.tuple #[.int .i64 0, erro 9]) ∧ Below w.heap.size w w'
  right : ∀ (f v : Int) (b : Bool) (w : World), (b = true ↔ Am.Right f v) → Calls Try.prog 18 #[.agg #[.int .i64 f, .int .i64 v]] w fun e w' => e = .returned (.bool b) ∧ Below w.heap.size w w'
  compare : ∀ (f v g u : Int) (w : World), Calls Try.prog 20 #[.agg #[.int .i64 f, .int .i64 v], .agg #[.int .i64 g, .int .i64 u]] w fun e w' => e = .returned (.int .i64 (Am.cmp f v g u)) ∧ Below w.heap.size w w'
  with_ok : ∀ (f v g u : Int) (w : World), Am.Fits f v g u → Calls Try.prog 16 #[.agg #[.int .i64 f, .int .i64 v], .agg #[.int .i64 g, .int .i64 u]] w fun e w' => e = .returned (.tuple #[.agg #[.int .i64 (f + g), .int .i64 (v + u)], .nilIface]) ∧ Below w.heap.size w w'
  with_no : ∀ (f v g u : Int) (w : World), ¬ Am.Fits f v g u → Calls Try.prog 16 #[.agg #[.int .i64 f, .int .i64 v], .agg #[.int .i64 g, .int .i64 u]] w fun e w' => e = .returned (.tuple #[.agg #[.int .i64 0, .int .i64 0], erro 1]) ∧ Below w.heap.size w w'
  pays : ∀ (f v per least : Int) (b : Bool) (w : World), (b = true ↔ Am.Pays f v per least) → Calls Try.prog 24 #[.agg #[.int .i64 f, .int .i64 v], .int .i64 per, .int .i64 least] w fun e w' => e = .returned (.bool b) ∧ Below w.heap.size w w'
  need_ok : ∀ (v per : Int) (w : World), Am.needs v per → Calls Try.prog 22 #[.int .i64 v, .int .i64 per] w fun e w' => e = .returned (.tuple #[.int .i64 (Am.need v per), .nilIface]) ∧ Below w.heap.size w w'
  need_no : ∀ (v per : Int) (w : World), ¬ Am.needs v per → Calls Try.prog 22 #[.int .i64 v, .int .i64 per] w fun e w' => e = .returned (.tuple #[.int .i64 0, erro 1]) ∧ Below w.heap.size w w'
set_option maxRecDepth 100000 in
set_option maxHeartbeats 4000000 in
theorem alive09 (ok : AmountOk) (w : World) :
    Calls Try.prog 7 #[] w fun e w' => e = .returned (.bool true) ∧ Below w.heap.size w w' := by
  have hc : Am.cmp 1 3 2 5 = -1 := by decide
  have hg : Am.Good 0 := ⟨by omega, by omega⟩
  have HC := Lib.hid (And.intro hc hg)
  clear hc hg
  go_enter Try.func7, Try.ntmps7
  go_wp2_with (first
    | (go_at_call 13; refine (ok.good 0 true w1 ⟨fun _ => HC.out.2, fun _ => rfl⟩).mono ?_; rintro e w2 ⟨rfl, hb2⟩)
    | (go_at_call 20; refine (ok.compare 1 3 2 5 _).mono ?_; rw [HC.out.1]; rintro e w1 ⟨rfl, hb1⟩))
  go_ret
  exact ⟨rfl, hb1.trans (hb2.mono hb1.size)⟩
theorem ex_good (z : Int) : ∃ b : Bool, b = true ↔ Am.Good z := ⟨decide (Am.Good z), decide_eq_true_iff⟩
set_option maxRecDepth 100000 in
set_option maxHeartbeats 4000000 in
theorem totalsMain (ok : AmountOk) (W : World) (a : Option Addr) (n c : Nat) (l : List Int) (zi zo : Int) (hi : -9223372036854775808 ≤ zi ∧ zi < 9223372036854775808) (ho : -9223372036854775808 ≤ zo ∧ zo < 9223372036854775808) (hN : Nums W a n l) (hc0 : a = none → c = 0) (hn : n ≤ 50) :
    Calls Try.prog 3 #[.slice a n c, .int .i64 zi, .int .i64 zo] W fun e w' => e = .returned (.bool true) ∧ Below W.heap.size W w' := by
  have g1 : ¬ (50 : Int) < (n : Int) := by omega
  have HL := Lib.hid hN.1
  obtain ⟨s, hs⟩ : ∃ s, s = (Am.total l 0).1 := ⟨_, rfl⟩
  obtain ⟨er, her⟩ : ∃ er, er = (Am.total l 0).2 := ⟨_, rfl⟩
  have HS := Lib.hid (And.intro hs her)
  clear hs her
  by_cases hf : Am.Fees zi zo
  · have P := Lib.hid (And.intro hf.1 hf.2.1)
    have hle : ¬ zo > zi := by have := hf.2.2; omega
    have h0 : 0 ≤ zi - zo := by have := hf.2.2; omega
    have h1 : zi - zo ≤ 2100000000000000 := by have := hf.1.2; have := hf.2.1.1; omega
    have hw : IntKind.i64.wrap (zi - zo) = zi - zo := IntWalk.i64_in _ (by omega)
    have HF := Lib.hid hf
    clear hf
    go_enter Try.func3, Try.ntmps3
    go_wp2_with (first
      | (go_at_call 15; refine (is_erro 9 rfl _).mono ?_; rintro e wk ⟨rfl, rfl⟩)
      | (go_at_call 14; (with_reducible refine (agood_any zi true ⟨fun _ => P.out.1, fun _ => rfl⟩ _).mono ?_); rintro e wk ⟨rfl, rfl⟩)
      | (go_at_call 14; (with_reducible refine (agood_any zo true ⟨fun _ => P.out.2, fun _ => rfl⟩ _).mono ?_); rintro e wk ⟨rfl, rfl⟩)
      | (go_at_call 13; refine (ok.good zi _ w6 ⟨fun _ => P.out.1, fun _ => rfl⟩).mono ?_; rintro e w7 ⟨rfl, hb7⟩; have hT7 := hT6.trans (hb7.mono hT6.size))
      | (go_at_call 12; refine (ints_same _ _ _ _ _ _ l l w4 hi4 (hN.below hT4) rfl).mono ?_; rintro e w6 ⟨rfl, hd6⟩; have hT6 := hT4.trans (hd6.below _))
      | (go_at_call 11; refine (num_any er _).mono ?_; rintro e wk ⟨rfl, rfl⟩)
      | (go_at_call 10; refine (ok.fee_ok zi zo w3 HF.out).mono ?_; rintro e w4 ⟨rfl, hb4⟩; have hT4 := hT3.trans (hb4.mono hT3.size); have hi4 := ((how.below hb3).below hb4))
      | (go_at_call 9; refine (atotal_any a n c l w3 (hN.below hT3)).mono ?_; rw [← HS.out.1, ← HS.out.2]; rintro e wk ⟨rfl, rfl⟩)
      | (go_at_call 8; refine (ok.total oa n oc l w2 how hoc).mono ?_; rw [← HS.out.1, ← HS.out.2]; rintro e w3 ⟨rfl, hb3⟩; have hT3 := hT2.trans (hb3.mono hT2.size))
      | (at_builtin; have hoE : OwnN 3 w1.heap.size (w1.alloc (.cells #[] 3)) (.slice (some ⟨w1.heap.size, 0, none⟩) 0 0) [] := OwnN.empty (Nat.le_refl _) (Has.fresh w1 _ _); refine wpList_append_nums rfl (.tmp 19) (.tmp 20) 22 rfl 3 Try.underlying22 info_num w1.heap.size _ [] rfl hoE a n c l rfl ((hN.below hb1).past _) hc0 (by simp; omega) (by simp) ?_; intro va w2 ho2 hg2; rw [List.nil_append] at ho2; have hB2 := below_own_rown ((Below.refl w1.heap.size w1).alloc (Nat.le_refl _) _) hg2 hoE.lt; have hT2 := hb1.trans (hB2.mono hb1.size); obtain ⟨oa, oc, rfl, hoc, _, how⟩ := ho2.shape HL.out)
      | (go_at_call 7; refine (alive09 ok W).mono ?_; rintro e w1 ⟨rfl, hb1⟩))
    go_ret
    exact ⟨rfl, hT7⟩
  · have HF := Lib.hid hf
    by_cases gi : Am.Good zi
    · by_cases go2 : Am.Good zo
      · have hle : zi < zo := Int.lt_of_not_ge fun h => hf ⟨gi, go2, h⟩
        have P := Lib.hid (And.intro gi go2)
        clear hf gi go2
        go_enter Try.func3, Try.ntmps3
        go_wp2_with (first
          | (go_at_call 15; refine (is_erro 9 rfl _).mono ?_; rintro e wk ⟨rfl, rfl⟩)
          | (go_at_call 14; (with_reducible refine (agood_any zi true ⟨fun _ => P.out.1, fun _ => rfl⟩ _).mono ?_); rintro e wk ⟨rfl, rfl⟩)
          | (go_at_call 14; (with_reducible refine (agood_any zo true ⟨fun _ => P.out.2, fun _ => rfl⟩ _).mono ?_); rintro e wk ⟨rfl, rfl⟩)
          | (go_at_call 13; refine (ok.good zi _ w6 ⟨fun _ => P.out.1, fun _ => rfl⟩).mono ?_; rintro e w7 ⟨rfl, hb7⟩; have hT7 := hT6.trans (hb7.mono hT6.size))
          | (go_at_call 12; refine (ints_same _ _ _ _ _ _ l l w4 hi4 (hN.below hT4) rfl).mono ?_; rintro e w6 ⟨rfl, hd6⟩; have hT6 := hT4.trans (hd6.below _))
          | (go_at_call 11; refine (num_any er _).mono ?_; rintro e wk ⟨rfl, rfl⟩)
          | (go_at_call 10; refine (ok.fee_no zi zo w3 HF.out).mono ?_; rintro e w4 ⟨rfl, hb4⟩; have hT4 := hT3.trans (hb4.mono hT3.size); have hi4 := ((how.below hb3).below hb4))
          | (go_at_call 9; refine (atotal_any a n c l w3 (hN.below hT3)).mono ?_; rw [← HS.out.1, ← HS.out.2]; rintro e wk ⟨rfl, rfl⟩)
          | (go_at_call 8; refine (ok.total oa n oc l w2 how hoc).mono ?_; rw [← HS.out.1, ← HS.out.2]; rintro e w3 ⟨rfl, hb3⟩; have hT3 := hT2.trans (hb3.mono hT2.size))
          | (at_builtin; have hoE : OwnN 3 w1.heap.size (w1.alloc (.cells #[] 3)) (.slice (some ⟨w1.heap.size, 0, none⟩) 0 0) [] := OwnN.empty (Nat.le_refl _) (Has.fresh w1 _ _); refine wpList_append_nums rfl (.tmp 19) (.tmp 20) 22 rfl 3 Try.underlying22 info_num w1.heap.size _ [] rfl hoE a n c l rfl ((hN.below hb1).past _) hc0 (by simp; omega) (by simp) ?_; intro va w2 ho2 hg2; rw [List.nil_append] at ho2; have hB2 := below_own_rown ((Below.refl w1.heap.size w1).alloc (Nat.le_refl _) _) hg2 hoE.lt; have hT2 := hb1.trans (hB2.mono hb1.size); obtain ⟨oa, oc, rfl, hoc, _, how⟩ := ho2.shape HL.out)
          | (go_at_call 7; refine (alive09 ok W).mono ?_; rintro e w1 ⟨rfl, hb1⟩))
        go_ret
        exact ⟨rfl, hT7⟩
      · have P := Lib.hid (And.intro gi go2)
        clear hf gi go2
        go_enter Try.func3, Try.ntmps3
        go_wp2_with (first
          | (go_at_call 15; refine (is_erro 9 rfl _).mono ?_; rintro e wk ⟨rfl, rfl⟩)
          | (go_at_call 14; (with_reducible refine (agood_any zi true ⟨fun _ => P.out.1, fun _ => rfl⟩ _).mono ?_); rintro e wk ⟨rfl, rfl⟩)
          | (go_at_call 14; (with_reducible refine (agood_any zo false ⟨fun e => absurd e Bool.false_ne_true, fun e => absurd e (P.out.2)⟩ _).mono ?_); rintro e wk ⟨rfl, rfl⟩)
          | (go_at_call 13; refine (ok.good zi _ w6 ⟨fun _ => P.out.1, fun _ => rfl⟩).mono ?_; rintro e w7 ⟨rfl, hb7⟩; have hT7 := hT6.trans (hb7.mono hT6.size))
          | (go_at_call 12; refine (ints_same _ _ _ _ _ _ l l w4 hi4 (hN.below hT4) rfl).mono ?_; rintro e w6 ⟨rfl, hd6⟩; have hT6 := hT4.trans (hd6.below _))
          | (go_at_call 11; refine (num_any er _).mono ?_; rintro e wk ⟨rfl, rfl⟩)
          | (go_at_call 10; refine (ok.fee_no zi zo w3 HF.out).mono ?_; rintro e w4 ⟨rfl, hb4⟩; have hT4 := hT3.trans (hb4.mono hT3.size); have hi4 := ((how.below hb3).below hb4))
          | (go_at_call 9; refine (atotal_any a n c l w3 (hN.below hT3)).mono ?_; rw [← HS.out.1, ← HS.out.2]; rintro e wk ⟨rfl, rfl⟩)
          | (go_at_call 8; refine (ok.total oa n oc l w2 how hoc).mono ?_; rw [← HS.out.1, ← HS.out.2]; rintro e w3 ⟨rfl, hb3⟩; have hT3 := hT2.trans (hb3.mono hT2.size))
          | (at_builtin; have hoE : OwnN 3 w1.heap.size (w1.alloc (.cells #[] 3)) (.slice (some ⟨w1.heap.size, 0, none⟩) 0 0) [] := OwnN.empty (Nat.le_refl _) (Has.fresh w1 _ _); refine wpList_append_nums rfl (.tmp 19) (.tmp 20) 22 rfl 3 Try.underlying22 info_num w1.heap.size _ [] rfl hoE a n c l rfl ((hN.below hb1).past _) hc0 (by simp; omega) (by simp) ?_; intro va w2 ho2 hg2; rw [List.nil_append] at ho2; have hB2 := below_own_rown ((Below.refl w1.heap.size w1).alloc (Nat.le_refl _) _) hg2 hoE.lt; have hT2 := hb1.trans (hB2.mono hb1.size); obtain ⟨oa, oc, rfl, hoc, _, how⟩ := ho2.shape HL.out)
          | (go_at_call 7; refine (alive09 ok W).mono ?_; rintro e w1 ⟨rfl, hb1⟩))
        go_ret
        exact ⟨rfl, hT7⟩
    · have P := Lib.hid gi
      clear hf gi
      go_enter Try.func3, Try.ntmps3
      go_wp2_with (first
        | (go_at_call 15; refine (is_erro 9 rfl _).mono ?_; rintro e wk ⟨rfl, rfl⟩)
        | (go_at_call 14; (with_reducible refine (agood_any zi false ⟨fun e => absurd e Bool.false_ne_true, fun e => absurd e (P.out)⟩ _).mono ?_); rintro e wk ⟨rfl, rfl⟩)
        | (go_at_call 14; (with_reducible refine (agood_any zo true ⟨fun _ => P.out, fun _ => rfl⟩ _).mono ?_); rintro e wk ⟨rfl, rfl⟩)
        | (go_at_call 13; refine (ok.good zi _ w6 ⟨fun e => absurd e Bool.false_ne_true, fun e => absurd e (P.out)⟩).mono ?_; rintro e w7 ⟨rfl, hb7⟩; have hT7 := hT6.trans (hb7.mono hT6.size))
        | (go_at_call 12; refine (ints_same _ _ _ _ _ _ l l w4 hi4 (hN.below hT4) rfl).mono ?_; rintro e w6 ⟨rfl, hd6⟩; have hT6 := hT4.trans (hd6.below _))
        | (go_at_call 11; refine (num_any er _).mono ?_; rintro e wk ⟨rfl, rfl⟩)
        | (go_at_call 10; refine (ok.fee_no zi zo w3 HF.out).mono ?_; rintro e w4 ⟨rfl, hb4⟩; have hT4 := hT3.trans (hb4.mono hT3.size); have hi4 := ((how.below hb3).below hb4))
        | (go_at_call 9; refine (atotal_any a n c l w3 (hN.below hT3)).mono ?_; rw [← HS.out.1, ← HS.out.2]; rintro e wk ⟨rfl, rfl⟩)
        | (go_at_call 8; refine (ok.total oa n oc l w2 how hoc).mono ?_; rw [← HS.out.1, ← HS.out.2]; rintro e w3 ⟨rfl, hb3⟩; have hT3 := hT2.trans (hb3.mono hT2.size))
        | (at_builtin; have hoE : OwnN 3 w1.heap.size (w1.alloc (.cells #[] 3)) (.slice (some ⟨w1.heap.size, 0, none⟩) 0 0) [] := OwnN.empty (Nat.le_refl _) (Has.fresh w1 _ _); refine wpList_append_nums rfl (.tmp 19) (.tmp 20) 22 rfl 3 Try.underlying22 info_num w1.heap.size _ [] rfl hoE a n c l rfl ((hN.below hb1).past _) hc0 (by simp; omega) (by simp) ?_; intro va w2 ho2 hg2; rw [List.nil_append] at ho2; have hB2 := below_own_rown ((Below.refl w1.heap.size w1).alloc (Nat.le_refl _) _) hg2 hoE.lt; have hT2 := hb1.trans (hB2.mono hb1.size); obtain ⟨oa, oc, rfl, hoc, _, how⟩ := ho2.shape HL.out)
        | (go_at_call 7; refine (alive09 ok W).mono ?_; rintro e w1 ⟨rfl, hb1⟩))
      go_ret
      exact ⟨rfl, hT7⟩
theorem amountTotalsWalkK (ok : AmountOk) {H : Type} {enc : TypeId × Value → H} (W : World) (base : Nat) (v0 : Value) (d0 : DataW H) (p0 : List MemPlace) (v1 : Value) (d1 : DataW H) (p1 : List MemPlace) (v2 : Value) (d2 : DataW H) (p2 : List MemPlace)
    (o0 : Value.okWide Try.prog W .any base 22 v0) (o1 : Value.okWide Try.prog W .any base 3 v1) (o2 : Value.okWide Try.prog W .any base 3 v2)
    (h0 : DataW.Trod enc Try.prog W 0 (fun _ => true) true 22 v0 d0 p0) (h1 : DataW.Trod enc Try.prog W 0 (fun _ => true) true 3 v1 d1 p1) (h2 : DataW.Trod enc Try.prog W 0 (fun _ => true) true 3 v2 d2 p2) :
    Calls Try.prog 3 #[v0, v1, v2] W fun e w' => e = .returned (.bool true) ∧ Below W.heap.size W w' := by
  obtain ⟨a, n, c, l, rfl, hN, _, hc0⟩ := arg_nums Try.underlying22 Try.underlying3 (by kernel_rfl) o0 h0
  obtain ⟨zi, rfl, rfl, rfl, wi⟩ := open_int Try.underlying3 o1 h1
  obtain ⟨zo, rfl, rfl, rfl, wo⟩ := open_int Try.underlying3 o2 h2
  have hi := bounds_i64 wi
  have ho := bounds_i64 wo
  clear o0 h0 o1 h1 o2 h2
  have hmx : n ≤ 9223372036854775807 := hN.2.1
  by_cases g1 : (50 : Int) < (n : Int)
  · go_enter Try.func3, Try.ntmps3
    go_wp2_with (first | (go_at_call 7; refine (alive09 ok W).mono ?_; rintro e w1 ⟨rfl, hb1⟩))
    go_ret
    exact ⟨rfl, hb1⟩
  · exact totalsMain ok W a n c l zi zo (by omega) (by omega) hN hc0 (by omega)
end Go.Proofs.Ytcbbjhcejlmmlaa
