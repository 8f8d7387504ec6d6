/- the reference: With, Total, Compare -/
import Derived.Test.YtcbbjhcejlmmlaaAmR
import Derived.Test.YtcbbjhcejlmmlaaNu
import Derived.Deep.Cut
namespace Go.Proofs.Ytcbbjhcejlmmlaa
open Go Go.RowKit Go.ChangeShapes Go.WideShapes
/-- two fee-rates put together -/
def Am.Fits (f v g u : Int) : Prop := Am.Right f v ∧ Am.Right g u ∧ Am.Right (f + g) (v + u)
instance (f v g u : Int) : Decidable (Am.Fits f v g u) := inferInstanceAs (Decidable (_ ∧ _))
theorem Am.wraps {f v g u : Int} (h1 : Am.Right f v) (h2 : Am.Right g u) : IntKind.i64.wrap (f + g) = f + g ∧ IntKind.i64.wrap (v + u) = v + u := by
  obtain ⟨⟨a1, a2⟩, a3, a4⟩ := h1
  obtain ⟨⟨b1, b2⟩, b3, b4⟩ := h2
  exact ⟨IntWalk.i64_in _ (by omega), IntWalk.i64_in _ (by omega)⟩
set_option maxRecDepth 100000 in
set_option maxHeartbeats 2000000 in
theorem atotal_any (a : Option Addr) (n c : Nat) (l : List Int) (w : World) (h : Nums w a n l) :
    Calls Try.prog 9 #[.slice a n c] w fun e w' => e = .returned (.tuple #[.int .i64 (Am.total l 0).1, .int .i64 (Am.total l 0).2]) ∧ w = w' := by
  have hl := h.1
  have hmx : n ≤ 9223372036854775807 := h.2.1
  have HL := Lib.hid hl
  clear hl
  go_enter Try.func9, Try.ntmps9
  go_wp2
  go_loop [4, 5] (fun sv iv => ∃ (i : Nat) (s : Int), i ≤ n ∧ iv = .int .i64 i ∧ sv = .int .i64 s ∧ 0 ≤ s ∧ s ≤ 2100000000000000 ∧ Hid (Am.total l 0 = Am.total (l.drop i) s)) (fun _ iv => n - (intOf iv).toNat)
  case atStart => exact ⟨0, 0, Nat.zero_le _, rfl, rfl, by omega, by omega, Lib.hid rfl⟩
  case round =>
    obtain ⟨i, s, hi, rfl, rfl, hs0, hs1, HT⟩ := hrel
    by_cases hlt : i < n
    · obtain ⟨x, rfl, hx⟩ := h.2.2 i hlt
      have hii : (i : Int) < (n : Int) := by omega
      have hi0 : (0 : Int) ≤ (i : Int) := by omega
      obtain ⟨z, hz⟩ : ∃ z, z = cn l i := ⟨_, rfl⟩
      rw [← hz] at hx
      have hdr : l.drop i = z :: l.drop (i + 1) := by
        rw [List.drop_eq_getElem_cons (by rw [HL.out]; exact hlt), hz, cn, List.getD_eq_getElem?_getD, List.getElem?_eq_getElem (by rw [HL.out]; exact hlt)]
        rfl
      have HD := Lib.hid hdr
      clear hz hdr
      by_cases hg : Am.Good z
      · obtain ⟨hz0, hz1⟩ := id hg
        have HG := Lib.hid hg
        clear hg
        by_cases hg2 : Am.Good (s + z)
        · have HE := Lib.hid (show Am.total l 0 = Am.total (l.drop (i + 1)) (s + z) by
            rw [HT.out, HD.out]
            show (if Am.Good z then _ else _) = _
            rw [if_pos HG.out, if_pos hg2])
          obtain ⟨hz2, hz3⟩ := id hg2
          have HG2 := Lib.hid hg2
          clear hg2
          go_wp2_with (first
            | (go_at_call 14; (with_reducible refine (agood_any z true ⟨fun _ => HG.out, fun _ => rfl⟩ _).mono ?_); rintro e w1 ⟨rfl, rfl⟩)
            | (go_at_call 14; (with_reducible refine (agood_any (s + z) true ⟨fun _ => HG2.out, fun _ => rfl⟩ _).mono ?_); rintro e w1 ⟨rfl, rfl⟩))
          go_round
          case rel => exact ⟨i + 1, s + z, by omega, by go_num, rfl, hz2, hz3, HE⟩
          case measure => (simp [intOf]; try omega)
        · have HE := Lib.hid (show Am.total l 0 = (0, 9) by
            rw [HT.out, HD.out]
            show (if Am.Good z then _ else _) = _
            rw [if_pos HG.out, if_neg hg2])
          have HG2 := Lib.hid hg2
          clear hg2
          go_wp2_with (first
            | (go_at_call 14; (with_reducible refine (agood_any z true ⟨fun _ => HG.out, fun _ => rfl⟩ _).mono ?_); rintro e w1 ⟨rfl, rfl⟩)
            | (go_at_call 14; (with_reducible refine (agood_any (s + z) false ⟨fun e => absurd e Bool.false_ne_true, fun e => absurd e HG2.out⟩ _).mono ?_); rintro e w1 ⟨rfl, rfl⟩))
          go_ret2
          exact ⟨by rw [HE.out]; rfl, rfl⟩
      · have HE := Lib.hid (show Am.total l 0 = (0, 9) by
          rw [HT.out, HD.out]
          show (if Am.Good z then _ else _) = _
          rw [if_neg hg])
        have HG := Lib.hid hg
        clear hg
        go_wp2_with (first
          | (go_at_call 14; (with_reducible refine (agood_any z false ⟨fun e => absurd e Bool.false_ne_true, fun e => absurd e HG.out⟩ _).mono ?_); rintro e w1 ⟨rfl, rfl⟩))
        go_ret2
        exact ⟨by rw [HE.out]; rfl, rfl⟩
    · have hii : ¬ (i : Int) < (n : Int) := by omega
      have HE := Lib.hid (show Am.total l 0 = (s, 0) by
        rw [HT.out, List.drop_of_length_le (by rw [HL.out]; omega)]
        rfl)
      go_wp2
      go_ret2
      exact ⟨by rw [HE.out]; rfl, rfl⟩
set_option maxRecDepth 100000 in
set_option maxHeartbeats 2000000 in
theorem awith_ok (f v g u : Int) (h : Am.Fits f v g u) (w : World) :
    Calls Try.prog 17 #[.agg #[.int .i64 f, .int .i64 v], .agg #[.int .i64 g, .int .i64 u]] w fun e w' => e = .returned (.tuple #[.agg #[.int .i64 (f + g), .int .i64 (v + u)], .int .i64 0]) ∧ Below w.heap.size w w' := by
  obtain ⟨w1', w2'⟩ := Am.wraps h.1 h.2.1
  have H := Lib.hid (show Am.Right f v ∧ Am.Right g u ∧ Am.Right (f + g) (v + u) from h)
  obtain ⟨⟨⟨a1, a2⟩, a3, a4⟩, ⟨⟨b1, b2⟩, b3, b4⟩, ⟨⟨c1, c2⟩, c3, c4⟩⟩ := h
  go_enter Try.func17, Try.ntmps17
  go_upto_region 2 with fail
  obtain ⟨W2, hW2⟩ : ∃ x, x = (((w.alloc (.cells #[.int .i64 f, .int .i64 v] 38)).alloc (.cells #[.int .i64 g, .int .i64 u] 38)).alloc (.cells #[.int .i64 0, .int .i64 0] 38)).alloc (.cells #[.int .i64 (f + g), .int .i64 (v + u)] 38) := ⟨_, rfl⟩
  rw [← hW2]
  have hB2 : Below w.heap.size w W2 := by
    rw [hW2]
    exact ((((Below.refl _ w).alloc (Nat.le_refl _) _).alloc (by simp) _).alloc (by simp; omega) _).alloc (by simp; omega) _
  have hh0 : Has W2 w.heap.size 38 #[.int .i64 f, .int .i64 v] := by rw [hW2]; exact (((Has.fresh w _ _).past _).past _).past _
  have hh1 : Has W2 (w.heap.size + 1) 38 #[.int .i64 g, .int .i64 u] := by rw [hW2]; exact ((Has.fresh_at _ _ _ (by simp)).past _).past _
  have hh2 : Has W2 (w.heap.size + 1 + 1) 38 #[.int .i64 0, .int .i64 0] := by rw [hW2]; exact (Has.fresh_at _ _ _ (by simp)).past _
  have hh3 : Has W2 (w.heap.size + 1 + 1 + 1) 38 #[.int .i64 (f + g), .int .i64 (v + u)] := by rw [hW2]; exact Has.fresh_at _ _ _ (by simp)
  clear hW2
  have q0 : W2.cell? ⟨w.heap.size, 0, none⟩ = some (.int .i64 f) := hh0.cell_at rfl
  have q1 : W2.cell? ⟨w.heap.size, 1, none⟩ = some (.int .i64 v) := hh0.cell_at rfl
  go_wp2_with (first
    | (go_at_call 19; (with_reducible refine (aright_any f v true ⟨fun _ => H.out.1, fun _ => rfl⟩ _).mono ?_); rintro e w3 ⟨rfl, hb3⟩; have k0 : w3.cell? ⟨w.heap.size + 1, 0, none⟩ = some (.int .i64 g) := (hh1.under hb3 hh1.lt).cell_at rfl; have k1 : w3.cell? ⟨w.heap.size + 1, 1, none⟩ = some (.int .i64 u) := (hh1.under hb3 hh1.lt).cell_at rfl)
    | (go_at_call 19; (with_reducible refine (aright_any g u true ⟨fun _ => H.out.2.1, fun _ => rfl⟩ _).mono ?_); rintro e w4 ⟨rfl, hb4⟩; have hb24 := hb3.trans (hb4.mono hb3.size); have k2 : w4.cell? ⟨w.heap.size + 1 + 1 + 1, 0, none⟩ = some (.int .i64 (f + g)) := (hh3.under hb24 hh3.lt).cell_at rfl; have k3 : w4.cell? ⟨w.heap.size + 1 + 1 + 1, 1, none⟩ = some (.int .i64 (v + u)) := (hh3.under hb24 hh3.lt).cell_at rfl)
    | (go_at_call 19; (with_reducible refine (aright_any (f + g) (v + u) true ⟨fun _ => H.out.2.2, fun _ => rfl⟩ _).mono ?_); rintro e w5 ⟨rfl, hb5⟩; have hb25 := hb24.trans (hb5.mono hb24.size); have k4 : w5.cell? ⟨w.heap.size + 1 + 1 + 1, 0, none⟩ = some (.int .i64 (f + g)) := (hh3.under hb25 hh3.lt).cell_at rfl; have k5 : w5.cell? ⟨w.heap.size + 1 + 1 + 1, 1, none⟩ = some (.int .i64 (v + u)) := (hh3.under hb25 hh3.lt).cell_at rfl; have k6 : w5.cell? ⟨w.heap.size + 1 + 1, 0, none⟩ = some (.int .i64 0) := (hh2.under hb25 hh2.lt).cell_at rfl; have k7 : w5.cell? ⟨w.heap.size + 1 + 1, 1, none⟩ = some (.int .i64 0) := (hh2.under hb25 hh2.lt).cell_at rfl; have k8 := (hh2.under hb25 hh2.lt).loose 0; have k9 := (hh2.under hb25 hh2.lt).loose 1))
  have hT := hB2.trans (hb25.mono hB2.size)
  refine bodyPost_ret (v := .tuple #[.agg #[.int .i64 (f + g), .int .i64 (v + u)], .int .i64 0]) (by simp [results, Try.results17, go_sem, k6, k7]) rfl ⟨rfl, ?_⟩
  exact (hT.setCell (p := ⟨w.heap.size + 1 + 1, 0, none⟩) (Nat.le_trans (Nat.le_succ _) (Nat.le_succ _)) _).setCell (p := ⟨w.heap.size + 1 + 1, 1, none⟩) (Nat.le_trans (Nat.le_succ _) (Nat.le_succ _)) _
set_option maxRecDepth 100000 in
set_option maxHeartbeats 2000000 in
theorem awith_no (f v g u : Int) (h : ¬ Am.Fits f v g u) (w : World) :
    Calls Try.prog 17 #[.agg #[.int .i64 f, .int .i64 v], .agg #[.int .i64 g, .int .i64 u]] w fun e w' => e = .returned (.tuple #[.agg #[.int .i64 0, .int .i64 0], .int .i64 1]) ∧ Below w.heap.size w w' := by
  obtain ⟨zf, hzf⟩ : ∃ z, IntKind.i64.wrap (f + g) = z := ⟨_, rfl⟩
  obtain ⟨zv, hzv⟩ : ∃ z, IntKind.i64.wrap (v + u) = z := ⟨_, rfl⟩
  by_cases h1 : Am.Right f v
  · by_cases h2 : Am.Right g u
    · have h3 : ¬ Am.Right zf zv := fun h3 => h ⟨h1, h2, by rw [← (Am.wraps h1 h2).1, ← (Am.wraps h1 h2).2, hzf, hzv]; exact h3⟩
      have H := Lib.hid (And.intro h1 (And.intro h2 h3))
      clear h h1 h2 h3
      go_enter Try.func17, Try.ntmps17
      go_upto_region 2 with fail
      obtain ⟨W2, hW2⟩ : ∃ x, x = (((w.alloc (.cells #[.int .i64 f, .int .i64 v] 38)).alloc (.cells #[.int .i64 g, .int .i64 u] 38)).alloc (.cells #[.int .i64 0, .int .i64 0] 38)).alloc (.cells #[.int .i64 zf, .int .i64 zv] 38) := ⟨_, rfl⟩
      rw [← hW2]
      have hB2 : Below w.heap.size w W2 := by
        rw [hW2]
        exact ((((Below.refl _ w).alloc (Nat.le_refl _) _).alloc (by simp) _).alloc (by simp; omega) _).alloc (by simp; omega) _
      have hh0 : Has W2 w.heap.size 38 #[.int .i64 f, .int .i64 v] := by rw [hW2]; exact (((Has.fresh w _ _).past _).past _).past _
      have hh1 : Has W2 (w.heap.size + 1) 38 #[.int .i64 g, .int .i64 u] := by rw [hW2]; exact ((Has.fresh_at _ _ _ (by simp)).past _).past _
      have hh2 : Has W2 (w.heap.size + 1 + 1) 38 #[.int .i64 0, .int .i64 0] := by rw [hW2]; exact (Has.fresh_at _ _ _ (by simp)).past _
      have hh3 : Has W2 (w.heap.size + 1 + 1 + 1) 38 #[.int .i64 zf, .int .i64 zv] := by rw [hW2]; exact Has.fresh_at _ _ _ (by simp)
      clear hW2
      have q0 : W2.cell? ⟨w.heap.size, 0, none⟩ = some (.int .i64 f) := hh0.cell_at rfl
      have q1 : W2.cell? ⟨w.heap.size, 1, none⟩ = some (.int .i64 v) := hh0.cell_at rfl
      go_wp2_with (first
        | (go_at_call 19; (with_reducible refine (aright_any f v true ⟨fun _ => H.out.1, fun _ => rfl⟩ _).mono ?_); rintro e w3 ⟨rfl, hb3⟩; have k0 : w3.cell? ⟨w.heap.size + 1, 0, none⟩ = some (.int .i64 g) := (hh1.under hb3 hh1.lt).cell_at rfl; have k1 : w3.cell? ⟨w.heap.size + 1, 1, none⟩ = some (.int .i64 u) := (hh1.under hb3 hh1.lt).cell_at rfl)
        | (go_at_call 19; (with_reducible refine (aright_any g u true ⟨fun _ => H.out.2.1, fun _ => rfl⟩ _).mono ?_); rintro e w4 ⟨rfl, hb4⟩; have hb24 := hb3.trans (hb4.mono hb3.size); have k2 : w4.cell? ⟨w.heap.size + 1 + 1 + 1, 0, none⟩ = some (.int .i64 zf) := (hh3.under hb24 hh3.lt).cell_at rfl; have k3 : w4.cell? ⟨w.heap.size + 1 + 1 + 1, 1, none⟩ = some (.int .i64 zv) := (hh3.under hb24 hh3.lt).cell_at rfl)
        | (go_at_call 19; (with_reducible refine (aright_any zf zv false ⟨fun e => absurd e Bool.false_ne_true, fun e => absurd e (H.out.2.2)⟩ _).mono ?_); rintro e w5 ⟨rfl, hb5⟩; have hb25 := hb24.trans (hb5.mono hb24.size); have k6 : w5.cell? ⟨w.heap.size + 1 + 1, 0, none⟩ = some (.int .i64 0) := (hh2.under hb25 hh2.lt).cell_at rfl; have k7 : w5.cell? ⟨w.heap.size + 1 + 1, 1, none⟩ = some (.int .i64 0) := (hh2.under hb25 hh2.lt).cell_at rfl; have k8 := (hh2.under hb25 hh2.lt).loose 0; have k9 := (hh2.under hb25 hh2.lt).loose 1))
      have hT := hB2.trans (hb25.mono hB2.size)
      refine bodyPost_ret (v := .tuple #[.agg #[.int .i64 0, .int .i64 0], .int .i64 1]) (by simp [results, Try.results17, go_sem, k6, k7]) rfl ⟨rfl, ?_⟩
      exact (hT.setCell (p := ⟨w.heap.size + 1 + 1, 0, none⟩) (Nat.le_trans (Nat.le_succ _) (Nat.le_succ _)) _).setCell (p := ⟨w.heap.size + 1 + 1, 1, none⟩) (Nat.le_trans (Nat.le_succ _) (Nat.le_succ _)) _
    · have H := Lib.hid (And.intro h1 h2)
      clear h h1 h2
      go_enter Try.func17, Try.ntmps17
      go_upto_region 2 with fail
      obtain ⟨W2, hW2⟩ : ∃ x, x = (((w.alloc (.cells #[.int .i64 f, .int .i64 v] 38)).alloc (.cells #[.int .i64 g, .int .i64 u] 38)).alloc (.cells #[.int .i64 0, .int .i64 0] 38)).alloc (.cells #[.int .i64 zf, .int .i64 zv] 38) := ⟨_, rfl⟩
      rw [← hW2]
      have hB2 : Below w.heap.size w W2 := by
        rw [hW2]
        exact ((((Below.refl _ w).alloc (Nat.le_refl _) _).alloc (by simp) _).alloc (by simp; omega) _).alloc (by simp; omega) _
      have hh0 : Has W2 w.heap.size 38 #[.int .i64 f, .int .i64 v] := by rw [hW2]; exact (((Has.fresh w _ _).past _).past _).past _
      have hh1 : Has W2 (w.heap.size + 1) 38 #[.int .i64 g, .int .i64 u] := by rw [hW2]; exact ((Has.fresh_at _ _ _ (by simp)).past _).past _
      have hh2 : Has W2 (w.heap.size + 1 + 1) 38 #[.int .i64 0, .int .i64 0] := by rw [hW2]; exact (Has.fresh_at _ _ _ (by simp)).past _
      have hh3 : Has W2 (w.heap.size + 1 + 1 + 1) 38 #[.int .i64 zf, .int .i64 zv] := by rw [hW2]; exact Has.fresh_at _ _ _ (by simp)
      clear hW2
      have q0 : W2.cell? ⟨w.heap.size, 0, none⟩ = some (.int .i64 f) := hh0.cell_at rfl
      have q1 : W2.cell? ⟨w.heap.size, 1, none⟩ = some (.int .i64 v) := hh0.cell_at rfl
      go_wp2_with (first
        | (go_at_call 19; (with_reducible refine (aright_any f v true ⟨fun _ => H.out.1, fun _ => rfl⟩ _).mono ?_); rintro e w3 ⟨rfl, hb3⟩; have k0 : w3.cell? ⟨w.heap.size + 1, 0, none⟩ = some (.int .i64 g) := (hh1.under hb3 hh1.lt).cell_at rfl; have k1 : w3.cell? ⟨w.heap.size + 1, 1, none⟩ = some (.int .i64 u) := (hh1.under hb3 hh1.lt).cell_at rfl)
        | (go_at_call 19; (with_reducible refine (aright_any g u false ⟨fun e => absurd e Bool.false_ne_true, fun e => absurd e (H.out.2)⟩ _).mono ?_); rintro e w4 ⟨rfl, hb4⟩; have hb24 := hb3.trans (hb4.mono hb3.size); have k2 : w4.cell? ⟨w.heap.size + 1 + 1 + 1, 0, none⟩ = some (.int .i64 zf) := (hh3.under hb24 hh3.lt).cell_at rfl; have k3 : w4.cell? ⟨w.heap.size + 1 + 1 + 1, 1, none⟩ = some (.int .i64 zv) := (hh3.under hb24 hh3.lt).cell_at rfl; have k6 : w4.cell? ⟨w.heap.size + 1 + 1, 0, none⟩ = some (.int .i64 0) := (hh2.under hb24 hh2.lt).cell_at rfl; have k7 : w4.cell? ⟨w.heap.size + 1 + 1, 1, none⟩ = some (.int .i64 0) := (hh2.under hb24 hh2.lt).cell_at rfl; have k8 := (hh2.under hb24 hh2.lt).loose 0; have k9 := (hh2.under hb24 hh2.lt).loose 1))
      have hT := hB2.trans (hb24.mono hB2.size)
      refine bodyPost_ret (v := .tuple #[.agg #[.int .i64 0, .int .i64 0], .int .i64 1]) (by simp [results, Try.results17, go_sem, k6, k7]) rfl ⟨rfl, ?_⟩
      exact (hT.setCell (p := ⟨w.heap.size + 1 + 1, 0, none⟩) (Nat.le_trans (Nat.le_succ _) (Nat.le_succ _)) _).setCell (p := ⟨w.heap.size + 1 + 1, 1, none⟩) (Nat.le_trans (Nat.le_succ _) (Nat.le_succ _)) _
  · have H := Lib.hid h1
    clear h h1
    go_enter Try.func17, Try.ntmps17
    go_upto_region 2 with fail
    obtain ⟨W2, hW2⟩ : ∃ x, x = (((w.alloc (.cells #[.int .i64 f, .int .i64 v] 38)).alloc (.cells #[.int .i64 g, .int .i64 u] 38)).alloc (.cells #[.int .i64 0, .int .i64 0] 38)).alloc (.cells #[.int .i64 zf, .int .i64 zv] 38) := ⟨_, rfl⟩
    rw [← hW2]
    have hB2 : Below w.heap.size w W2 := by
      rw [hW2]
      exact ((((Below.refl _ w).alloc (Nat.le_refl _) _).alloc (by simp) _).alloc (by simp; omega) _).alloc (by simp; omega) _
    have hh0 : Has W2 w.heap.size 38 #[.int .i64 f, .int .i64 v] := by rw [hW2]; exact (((Has.fresh w _ _).past _).past _).past _
    have hh1 : Has W2 (w.heap.size + 1) 38 #[.int .i64 g, .int .i64 u] := by rw [hW2]; exact ((Has.fresh_at _ _ _ (by simp)).past _).past _
    have hh2 : Has W2 (w.heap.size + 1 + 1) 38 #[.int .i64 0, .int .i64 0] := by rw [hW2]; exact (Has.fresh_at _ _ _ (by simp)).past _
    have hh3 : Has W2 (w.heap.size + 1 + 1 + 1) 38 #[.int .i64 zf, .int .i64 zv] := by rw [hW2]; exact Has.fresh_at _ _ _ (by simp)
    clear hW2
    have q0 : W2.cell? ⟨w.heap.size, 0, none⟩ = some (.int .i64 f) := hh0.cell_at rfl
    have q1 : W2.cell? ⟨w.heap.size, 1, none⟩ = some (.int .i64 v) := hh0.cell_at rfl
    go_wp2_with (first
      | (go_at_call 19; (with_reducible refine (aright_any f v false ⟨fun e => absurd e Bool.false_ne_true, fun e => absurd e (H.out)⟩ _).mono ?_); rintro e w3 ⟨rfl, hb3⟩; have k6 : w3.cell? ⟨w.heap.size + 1 + 1, 0, none⟩ = some (.int .i64 0) := (hh2.under hb3 hh2.lt).cell_at rfl; have k7 : w3.cell? ⟨w.heap.size + 1 + 1, 1, none⟩ = some (.int .i64 0) := (hh2.under hb3 hh2.lt).cell_at rfl; have k8 := (hh2.under hb3 hh2.lt).loose 0; have k9 := (hh2.under hb3 hh2.lt).loose 1))
    have hT := hB2.trans (hb3.mono hB2.size)
    refine bodyPost_ret (v := .tuple #[.agg #[.int .i64 0, .int .i64 0], .int .i64 1]) (by simp [results, Try.results17, go_sem, k6, k7]) rfl ⟨rfl, ?_⟩
    exact (hT.setCell (p := ⟨w.heap.size + 1 + 1, 0, none⟩) (Nat.le_trans (Nat.le_succ _) (Nat.le_succ _)) _).setCell (p := ⟨w.heap.size + 1 + 1, 1, none⟩) (Nat.le_trans (Nat.le_succ _) (Nat.le_succ _)) _
theorem Am.tdiv_nat (x y : Nat) : (x : Int).tdiv (y : Int) = ((x / y : Nat) : Int) := rfl
theorem Am.tmod_nat (x y : Nat) : (x : Int).tmod (y : Int) = ((x % y : Nat) : Int) := rfl
set_option maxRecDepth 100000 in
set_option maxHeartbeats 4000000 in
theorem acompare_ok (f v g u : Nat) (h1 : Am.Right f v) (h2 : Am.Right g u) (w : World) :
    Calls Try.prog 21 #[.agg #[.int .i64 (f : Int), .int .i64 (v : Int)], .agg #[.int .i64 (g : Int), .int .i64 (u : Int)]] w fun e w' => e = .returned (.int .i64 (Am.cmpN f v g u)) ∧ Below w.heap.size w w' := by
  have H := Lib.hid (And.intro h1 h2)
  obtain ⟨⟨a1, a2⟩, a3, a4⟩ := h1
  obtain ⟨⟨b1, b2⟩, b3, b4⟩ := h2
  obtain ⟨C, hC⟩ : ∃ C, C = Am.cmpN f v g u := ⟨_, rfl⟩
  rw [← hC]
  have HC := Lib.hid hC
  clear hC
  have hv0 : 0 < v := by omega
  have hu0 : 0 < u := by omega
  have hfb : f ≤ 2100000000000000 := by omega
  have hgb : g ≤ 2100000000000000 := by omega
  have hvb : v ≤ 1099511627776 := by omega
  have hub : u ≤ 1099511627776 := by omega
  go_enter Try.func21, Try.ntmps21
  go_upto_region 1 with fail
  obtain ⟨W2, hW2⟩ : ∃ x, x = (w.alloc (.cells #[.int .i64 (f : Int), .int .i64 (v : Int)] 38)).alloc (.cells #[.int .i64 (g : Int), .int .i64 (u : Int)] 38) := ⟨_, rfl⟩
  rw [← hW2]
  have hB2 : Below w.heap.size w W2 := by
    rw [hW2]
    exact ((Below.refl _ w).alloc (Nat.le_refl _) _).alloc (by simp) _
  have hh0 : Has W2 w.heap.size 38 #[.int .i64 (f : Int), .int .i64 (v : Int)] := by rw [hW2]; exact (Has.fresh w _ _).past _
  have hh1 : Has W2 (w.heap.size + 1) 38 #[.int .i64 (g : Int), .int .i64 (u : Int)] := by rw [hW2]; exact Has.fresh_at _ _ _ (by simp)
  clear hW2
  have q0 : W2.cell? ⟨w.heap.size, 0, none⟩ = some (.int .i64 (f : Int)) := hh0.cell_at rfl
  have q1 : W2.cell? ⟨w.heap.size, 1, none⟩ = some (.int .i64 (v : Int)) := hh0.cell_at rfl
  go_upto_region 3 with (first
    | (go_at_call 19; (with_reducible refine (aright_any (f : Int) (v : Int) true ⟨fun _ => H.out.1, fun _ => rfl⟩ _).mono ?_); rintro e w3 ⟨rfl, hb3⟩; have k0 : w3.cell? ⟨w.heap.size + 1, 0, none⟩ = some (.int .i64 (g : Int)) := (hh1.under hb3 hh1.lt).cell_at rfl; have k1 : w3.cell? ⟨w.heap.size + 1, 1, none⟩ = some (.int .i64 (u : Int)) := (hh1.under hb3 hh1.lt).cell_at rfl)
    | (go_at_call 19; (with_reducible refine (aright_any (g : Int) (u : Int) true ⟨fun _ => H.out.2, fun _ => rfl⟩ _).mono ?_); rintro e w4 ⟨rfl, hb4⟩; have hb24 := hb3.trans (hb4.mono hb3.size); have p0 : w4.cell? ⟨w.heap.size, 0, none⟩ = some (.int .i64 (f : Int)) := (hh0.under hb24 hh0.lt).cell_at rfl; have p1 : w4.cell? ⟨w.heap.size, 1, none⟩ = some (.int .i64 (v : Int)) := (hh0.under hb24 hh0.lt).cell_at rfl; have p2 : w4.cell? ⟨w.heap.size + 1, 0, none⟩ = some (.int .i64 (g : Int)) := (hh1.under hb24 hh1.lt).cell_at rfl; have p3 : w4.cell? ⟨w.heap.size + 1, 1, none⟩ = some (.int .i64 (u : Int)) := (hh1.under hb24 hh1.lt).cell_at rfl))
  have hT := hB2.trans (hb24.mono hB2.size)
  go_quiet (fail)
  go_wp2_with fail
  go_loopw [5, 6, 7, 8, 9] (fun vx vy vu vv vs wr => ∃ (x y p q : Nat) (s : Int), vx = .int .i64 x ∧ vy = .int .i64 y ∧ vu = .int .i64 p ∧ vv = .int .i64 q ∧ vs = .int .i64 s ∧ x ≤ 2100000000000000 ∧ 0 < y ∧ y ≤ 2100000000000000 ∧ p ≤ 2100000000000000 ∧ 0 < q ∧ q ≤ 2100000000000000 ∧ (-1 ≤ s ∧ s ≤ 1) ∧ Hid (C = s * Am.cmpN x y p q) ∧ Below w.heap.size w wr) (fun _ vy _ _ _ _ => (intOf vy).toNat)
  case atStart => exact ⟨f, v, g, u, 1, rfl, rfl, rfl, rfl, rfl, hfb, hv0, by omega, hgb, hu0, by omega, ⟨by omega, by omega⟩, Lib.hid (by rw [HC.out, Int.one_mul]), by first | exact hT.drew | exact below_draws hT _ | exact hT⟩
  case round =>
    obtain ⟨x, y, p, q, s, rfl, rfl, rfl, rfl, rfl, hx, hy, hyb, hp, hq, hqb, ⟨hs1, hs2⟩, HS, hB⟩ := hrel
    clear q0 q1 hb3 k0 k1 hb4 hb24 p0 p1 p2 p3 hT hB2 hh0 hh1
    obtain ⟨a, ha⟩ : ∃ a, a = x / y := ⟨_, rfl⟩
    obtain ⟨b, hb⟩ : ∃ b, b = p / q := ⟨_, rfl⟩
    obtain ⟨r, hr⟩ : ∃ r, r = x % y := ⟨_, rfl⟩
    obtain ⟨t, ht⟩ : ∃ t, t = p % q := ⟨_, rfl⟩
    have hab : a ≤ 2100000000000000 := by rw [ha]; exact Nat.le_trans (Nat.div_le_self _ _) hx
    have hbb : b ≤ 2100000000000000 := by rw [hb]; exact Nat.le_trans (Nat.div_le_self _ _) hp
    have hry : r < y := by rw [hr]; exact Nat.mod_lt _ hy
    have htq : t < q := by rw [ht]; exact Nat.mod_lt _ hq
    have d1 : (x : Int).tdiv (y : Int) = (a : Int) := by rw [Am.tdiv_nat, ← ha]
    have d2 : (p : Int).tdiv (q : Int) = (b : Int) := by rw [Am.tdiv_nat, ← hb]
    have d3 : (x : Int).tmod (y : Int) = (r : Int) := by rw [Am.tmod_nat, ← hr]
    have d4 : (p : Int).tmod (q : Int) = (t : Int) := by rw [Am.tmod_nat, ← ht]
    have e1 : (x : Int) / (y : Int) = (a : Int) := by rw [ha]; exact (Int.natCast_ediv x y).symm
    have e2 : (p : Int) / (q : Int) = (b : Int) := by rw [hb]; exact (Int.natCast_ediv p q).symm
    have e3 : (x : Int) % (y : Int) = (r : Int) := by rw [hr]; exact (Int.natCast_emod x y).symm
    have e4 : (p : Int) % (q : Int) = (t : Int) := by rw [ht]; exact (Int.natCast_emod p q).symm
    have w1 : IntKind.i64.wrap (a : Int) = (a : Int) := IntWalk.i64_in _ (by omega)
    have w2 : IntKind.i64.wrap (b : Int) = (b : Int) := IntWalk.i64_in _ (by omega)
    have y0 : ¬ (y : Int) = 0 := by omega
    have y1 : ¬ (q : Int) = 0 := by omega
    have HQ := Lib.hid (And.intro ha (And.intro hb (And.intro hr ht)))
    clear ha hb hr ht
    by_cases hne : a = b
    · have hbe : ((a : Int) != (b : Int)) = false := by simp [hne]
      have hbe2 : (a != b) = false := by simp [hne]
      have HM := Lib.hid (show C = s * Am.cmpN r y t q by rw [HS.out, HQ.out.2.2.1, HQ.out.2.2.2, ← Am.cmpN_mod (by rw [← HQ.out.1, ← HQ.out.2.1]; exact hne)])
      clear hne
      by_cases hr0 : r = 0
      · subst hr0
        by_cases ht0 : t = 0
        · subst ht0
          have HE := Lib.hid (show C = 0 by rw [HM.out, Am.cmpN_00, Int.mul_zero])
          go_wp2_with fail
          go_quiet (fail)
          go_wp2_with fail
          go_ret
          exact ⟨by rw [HE.out]; rfl, by first | exact below_draws hB _ | exact below_draws (below_draws hB _) _⟩
        · have hte : ((t : Int) == 0) = false := by simp [ht0]
          have hte2 : (t == 0) = false := by simp [ht0]
          have HE := Lib.hid (show C = -s by rw [HM.out, Am.cmpN_0 hy (by omega)]; omega)
          have H0 := Lib.hid ht0
          clear ht0
          go_wp2_with fail
          go_quiet (fail)
          go_wp2_with fail
          go_ret
          exact ⟨by rw [HE.out]; rfl, by first | exact below_draws hB _ | exact below_draws (below_draws hB _) _⟩
      · have hre : ((r : Int) == 0) = false := by simp [hr0]
        have hre2 : (r == 0) = false := by simp [hr0]
        by_cases ht0 : t = 0
        · subst ht0
          have HE := Lib.hid (show C = s by rw [HM.out, Am.cmpN_s0 hq (by omega), Int.mul_one])
          have H0 := Lib.hid hr0
          clear hr0
          go_wp2_with fail
          go_quiet (fail)
          go_wp2_with fail
          go_ret
          exact ⟨by rw [HE.out]; rfl, by first | exact below_draws hB _ | exact below_draws (below_draws hB _) _⟩
        · have hte : ((t : Int) == 0) = false := by simp [ht0]
          have hte2 : (t == 0) = false := by simp [ht0]
          have HE := Lib.hid (show C = -s * Am.cmpN y r q t by rw [HM.out, Am.cmpN_turn r y t q, Int.neg_mul_neg])
          have H0 := Lib.hid (And.intro hr0 ht0)
          clear hr0 ht0
          go_wp2_with fail
          go_quiet (fail)
          go_wp2_with fail
          go_roundw
          case rel => exact ⟨y, r, q, t, -s, rfl, rfl, rfl, rfl, rfl, hyb, by have := H0.out; omega, by omega, hqb, by have := H0.out; omega, by omega, ⟨by omega, by omega⟩, HE, below_draws hB _⟩
          case measure => (simp [intOf]; try omega)
    · have hbe : ((a : Int) != (b : Int)) = true := by simp; omega
      have hbe2 : (a != b) = true := by simp [hne]
      by_cases hlt : a < b
      · have hli : (a : Int) < (b : Int) := by omega
        have HE := Lib.hid (show C = -s by rw [HS.out, Am.cmpN_quo hy hq (by rw [← HQ.out.1, ← HQ.out.2.1]; exact hlt)]; omega)
        clear hne
        go_wp2_with fail
        go_quiet (fail)
        go_wp2_with fail
        go_quiet (fail)
        go_wp2_with fail
        go_ret
        exact ⟨by rw [HE.out]; rfl, by first | exact below_draws hB _ | exact below_draws (below_draws hB _) _⟩
      · have hli : ¬ (a : Int) < (b : Int) := by omega
        have HE := Lib.hid (show C = s by rw [HS.out, Am.cmpN_quo' hy hq (by rw [← HQ.out.1, ← HQ.out.2.1]; omega), Int.mul_one])
        clear hne
        go_wp2_with fail
        go_quiet (fail)
        go_wp2_with fail
        go_quiet (fail)
        go_wp2_with fail
        go_ret
        exact ⟨by rw [HE.out]; rfl, by first | exact below_draws hB _ | exact below_draws (below_draws hB _) _⟩
set_option maxRecDepth 100000 in
set_option maxHeartbeats 2000000 in
theorem acompare_no (f v g u : Int) (h : ¬ (Am.Right f v ∧ Am.Right g u)) (w : World) :
    Calls Try.prog 21 #[.agg #[.int .i64 f, .int .i64 v], .agg #[.int .i64 g, .int .i64 u]] w fun e w' => e = .returned (.int .i64 0) ∧ Below w.heap.size w w' := by
  have hB2 : Below w.heap.size w ((w.alloc (.cells #[.int .i64 f, .int .i64 v] 38)).alloc (.cells #[.int .i64 g, .int .i64 u] 38)) := ((Below.refl _ w).alloc (Nat.le_refl _) _).alloc (by simp) _
  have hh1 : Has ((w.alloc (.cells #[.int .i64 f, .int .i64 v] 38)).alloc (.cells #[.int .i64 g, .int .i64 u] 38)) (w.heap.size + 1) 38 #[.int .i64 g, .int .i64 u] := Has.fresh_at _ _ _ (by simp)
  by_cases h1 : Am.Right f v
  · have h2 : ¬ Am.Right g u := fun h2 => h ⟨h1, h2⟩
    have H := Lib.hid (And.intro h1 h2)
    clear h h1 h2
    go_enter Try.func21, Try.ntmps21
    go_wp2_with (first
      | (go_at_call 19; (with_reducible refine (aright_any f v true ⟨fun _ => H.out.1, fun _ => rfl⟩ _).mono ?_); rintro e w3 ⟨rfl, hb3⟩; have k0 : w3.cell? ⟨w.heap.size + 1, 0, none⟩ = some (.int .i64 g) := (hh1.under hb3 hh1.lt).cell_at rfl; have k1 : w3.cell? ⟨w.heap.size + 1, 1, none⟩ = some (.int .i64 u) := (hh1.under hb3 hh1.lt).cell_at rfl)
      | (go_at_call 19; (with_reducible refine (aright_any g u false ⟨fun e => absurd e Bool.false_ne_true, fun e => absurd e H.out.2⟩ _).mono ?_); rintro e w4 ⟨rfl, hb4⟩; have hb24 := hb3.trans (hb4.mono hb3.size)))
    go_ret
    exact ⟨rfl, hB2.trans (hb24.mono hB2.size)⟩
  · have H := Lib.hid h1
    clear h h1
    go_enter Try.func21, Try.ntmps21
    go_wp2_with (first
      | (go_at_call 19; (with_reducible refine (aright_any f v false ⟨fun e => absurd e Bool.false_ne_true, fun e => absurd e H.out⟩ _).mono ?_); rintro e w3 ⟨rfl, hb3⟩))
    go_ret
    exact ⟨rfl, hB2.trans (hb3.mono hB2.size)⟩
/-- whatever they are -/
theorem acompare_any (f v g u : Int) (w : World) :
    Calls Try.prog 21 #[.agg #[.int .i64 f, .int .i64 v], .agg #[.int .i64 g, .int .i64 u]] w fun e w' => e = .returned (.int .i64 (Am.cmp f v g u)) ∧ Below w.heap.size w w' := by
  by_cases h : Am.Right f v ∧ Am.Right g u
  · obtain ⟨f, rfl⟩ := Int.eq_ofNat_of_zero_le h.1.1.1
    obtain ⟨v, rfl⟩ := Int.eq_ofNat_of_zero_le (show 0 ≤ v by have := h.1.2.1; omega)
    obtain ⟨g, rfl⟩ := Int.eq_ofNat_of_zero_le h.2.1.1
    obtain ⟨u, rfl⟩ := Int.eq_ofNat_of_zero_le (show 0 ≤ u by have := h.2.2.1; omega)
    have e : Am.cmp f v g u = Am.cmpN f v g u := by
      unfold Am.cmp
      rw [if_pos h]
      rfl
    rw [e]
    exact acompare_ok f v g u h.1 h.2 w
  · have e : Am.cmp f v g u = 0 := by
      unfold Am.cmp
      rw [if_neg h]
    rw [e]
    exact acompare_no f v g u h w
end Go.Proofs.Ytcbbjhcejlmmlaa
