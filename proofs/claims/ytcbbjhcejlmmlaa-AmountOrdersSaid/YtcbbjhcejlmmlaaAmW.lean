/- package amount: With; the premise as a theorem -/
import Derived.Test.YtcbbjhcejlmmlaaAmD
namespace Go.Proofs.Ytcbbjhcejlmmlaa
open Go Go.RowKit Go.ChangeShapes Go.WideShapes
set_option maxRecDepth 100000 in
set_option maxHeartbeats 2000000 in
theorem pwith_ok (f v g u : Int) (h : Am.Fits f v g u) (w : World) :
    Calls Try.prog 16 #[.agg #[.int .i64 f, .int .i64 v], .agg #[.int .i64 g, .int .i64 u]] w fun e w' => e = .returned (.tuple #[.agg #[.int .i64 (f + g), .int .i64 (v + u)], .nilIface]) ∧ Below w.heap.size w w' := by
  obtain ⟨w1', w2'⟩ := Am.wraps h.1 h.2.1
  have H := Lib.hid (show Am.Right f v ∧ Am.Right g u ∧ Am.Right (f + g) (v + u) from h)
  obtain ⟨⟨⟨a1, a2⟩, a3, a4⟩, ⟨⟨b1, b2⟩, b3, b4⟩, ⟨⟨c1, c2⟩, c3, c4⟩⟩ := h
  obtain ⟨W2, hW2⟩ : ∃ x, x = ((w.alloc (.cells #[.int .i64 f, .int .i64 v] 39)).alloc (.cells #[.int .i64 g, .int .i64 u] 39)).alloc (.cells #[.int .i64 0, .int .i64 0] 39) := ⟨_, rfl⟩
  have hB2 : Below w.heap.size w W2 := by
    rw [hW2]
    exact (((Below.refl _ w).alloc (Nat.le_refl _) _).alloc (by simp) _).alloc (by simp; omega) _
  have hh0 : Has W2 w.heap.size 39 #[.int .i64 f, .int .i64 v] := by rw [hW2]; exact ((Has.fresh w _ _).past _).past _
  have hh1 : Has W2 (w.heap.size + 1) 39 #[.int .i64 g, .int .i64 u] := by rw [hW2]; exact (Has.fresh_at _ _ _ (by simp)).past _
  have hh2 : Has W2 (w.heap.size + 1 + 1) 39 #[.int .i64 0, .int .i64 0] := by rw [hW2]; exact Has.fresh_at _ _ _ (by simp)
  have q0 : W2.cell? ⟨w.heap.size, 0, none⟩ = some (.int .i64 f) := hh0.cell_at rfl
  have q1 : W2.cell? ⟨w.heap.size, 1, none⟩ = some (.int .i64 v) := hh0.cell_at rfl
  have HW := Lib.hid hW2
  clear hW2
  go_enter Try.func16, Try.ntmps16
  go_upto_region 1 with fail
  rw [← HW.out]
  go_upto_region 3 with (first
    | (go_at_call 18; (with_reducible refine (pright_any g u true ⟨fun _ => H.out.2.1, fun _ => rfl⟩ _).mono ?_); rintro e w4 ⟨rfl, hb4⟩)
    | (go_at_call 18; (with_reducible refine (pright_any f v true ⟨fun _ => H.out.1, fun _ => rfl⟩ _).mono ?_); rintro e w3 ⟨rfl, hb3⟩; have k0 : w3.cell? ⟨w.heap.size + 1, 0, none⟩ = some (.int .i64 g) := (hh1.under hb3 hh1.lt).cell_at rfl; have k1 : w3.cell? ⟨w.heap.size + 1, 1, none⟩ = some (.int .i64 u) := (hh1.under hb3 hh1.lt).cell_at rfl))
  have hb24 := hb3.trans (hb4.mono hb3.size)
  have m0 : w4.cell? ⟨w.heap.size, 0, none⟩ = some (.int .i64 f) := (hh0.under hb24 hh0.lt).cell_at rfl
  have m1 : w4.cell? ⟨w.heap.size, 1, none⟩ = some (.int .i64 v) := (hh0.under hb24 hh0.lt).cell_at rfl
  have m2 : w4.cell? ⟨w.heap.size + 1, 0, none⟩ = some (.int .i64 g) := (hh1.under hb24 hh1.lt).cell_at rfl
  have m3 : w4.cell? ⟨w.heap.size + 1, 1, none⟩ = some (.int .i64 u) := (hh1.under hb24 hh1.lt).cell_at rfl
  go_upto_region 4 with fail
  obtain ⟨W4, hW4⟩ : ∃ x, x = w4.alloc (.cells #[.int .i64 (f + g), .int .i64 (v + u)] 39) := ⟨_, rfl⟩
  have hB4 : Below W2.heap.size W2 W4 := by rw [hW4]; exact hb24.alloc hb24.size _
  have hh3 : Has W4 w4.heap.size 39 #[.int .i64 (f + g), .int .i64 (v + u)] := by rw [hW4]; exact Has.fresh _ _ _
  have k2 : W4.cell? ⟨w4.heap.size, 0, none⟩ = some (.int .i64 (f + g)) := hh3.cell_at rfl
  have k3 : W4.cell? ⟨w4.heap.size, 1, none⟩ = some (.int .i64 (v + u)) := hh3.cell_at rfl
  rw [← hW4]
  clear hW4
  go_wp2_with (first
    | (go_at_call 18; (with_reducible refine (pright_any (f + g) (v + u) true ⟨fun _ => H.out.2.2, fun _ => rfl⟩ _).mono ?_); rintro e w5 ⟨rfl, hb5⟩; have hb25 := hB4.trans (hb5.mono hB4.size); have k4 : w5.cell? ⟨w4.heap.size, 0, none⟩ = some (.int .i64 (f + g)) := (hh3.under hb5 hh3.lt).cell_at rfl; have k5 : w5.cell? ⟨w4.heap.size, 1, none⟩ = some (.int .i64 (v + u)) := (hh3.under hb5 hh3.lt).cell_at rfl; have k6 : w5.cell? ⟨w.heap.size + 1 + 1, 0, none⟩ = some (.int .i64 0) := (hh2.under hb25 hh2.lt).cell_at rfl; have k7 : w5.cell? ⟨w.heap.size + 1 + 1, 1, none⟩ = some (.int .i64 0) := (hh2.under hb25 hh2.lt).cell_at rfl; have k8 := (hh2.under hb25 hh2.lt).loose 0; have k9 := (hh2.under hb25 hh2.lt).loose 1))
  have hT := hB2.trans (hb25.mono hB2.size)
  refine bodyPost_ret (v := .tuple #[.agg #[.int .i64 (f + g), .int .i64 (v + u)], .nilIface]) (by simp [results, Try.results16, go_sem, k6, k7]) rfl ⟨rfl, ?_⟩
  exact (hT.setCell (p := ⟨w.heap.size + 1 + 1, 0, none⟩) (Nat.le_trans (Nat.le_succ _) (Nat.le_succ _)) _).setCell (p := ⟨w.heap.size + 1 + 1, 1, none⟩) (Nat.le_trans (Nat.le_succ _) (Nat.le_succ _)) _
set_option maxRecDepth 100000 in
set_option maxHeartbeats 2000000 in
theorem pwith_no (f v g u : Int) (h : ¬ Am.Fits f v g u) (w : World) :
    Calls Try.prog 16 #[.agg #[.int .i64 f, .int .i64 v], .agg #[.int .i64 g, .int .i64 u]] w fun e w' => e = .returned (.tuple #[.agg #[.int .i64 0, .int .i64 0], erro 1]) ∧ Below w.heap.size w w' := by
  obtain ⟨W2, hW2⟩ : ∃ x, x = ((w.alloc (.cells #[.int .i64 f, .int .i64 v] 39)).alloc (.cells #[.int .i64 g, .int .i64 u] 39)).alloc (.cells #[.int .i64 0, .int .i64 0] 39) := ⟨_, rfl⟩
  have hB2 : Below w.heap.size w W2 := by
    rw [hW2]
    exact (((Below.refl _ w).alloc (Nat.le_refl _) _).alloc (by simp) _).alloc (by simp; omega) _
  have hh0 : Has W2 w.heap.size 39 #[.int .i64 f, .int .i64 v] := by rw [hW2]; exact ((Has.fresh w _ _).past _).past _
  have hh1 : Has W2 (w.heap.size + 1) 39 #[.int .i64 g, .int .i64 u] := by rw [hW2]; exact (Has.fresh_at _ _ _ (by simp)).past _
  have hh2 : Has W2 (w.heap.size + 1 + 1) 39 #[.int .i64 0, .int .i64 0] := by rw [hW2]; exact Has.fresh_at _ _ _ (by simp)
  have q0 : W2.cell? ⟨w.heap.size, 0, none⟩ = some (.int .i64 f) := hh0.cell_at rfl
  have q1 : W2.cell? ⟨w.heap.size, 1, none⟩ = some (.int .i64 v) := hh0.cell_at rfl
  have HW := Lib.hid hW2
  clear hW2
  by_cases h1 : Am.Right f v
  · by_cases h2 : Am.Right g u
    · have h3 : ¬ Am.Right (f + g) (v + u) := fun h3 => h ⟨h1, h2, h3⟩
      obtain ⟨w1', w2'⟩ := Am.wraps h1 h2
      have H := Lib.hid (And.intro h1 (And.intro h2 h3))
      obtain ⟨⟨a1, a2⟩, a3, a4⟩ := h1
      obtain ⟨⟨b1, b2⟩, b3, b4⟩ := h2
      clear h h3
      go_enter Try.func16, Try.ntmps16
      go_upto_region 1 with fail
      rw [← HW.out]
      go_upto_region 3 with (first
        | (go_at_call 18; (with_reducible refine (pright_any g u true ⟨fun _ => H.out.2.1, fun _ => rfl⟩ _).mono ?_); rintro e w4 ⟨rfl, hb4⟩)
        | (go_at_call 18; (with_reducible refine (pright_any f v true ⟨fun _ => H.out.1, fun _ => rfl⟩ _).mono ?_); rintro e w3 ⟨rfl, hb3⟩; have k0 : w3.cell? ⟨w.heap.size + 1, 0, none⟩ = some (.int .i64 g) := (hh1.under hb3 hh1.lt).cell_at rfl; have k1 : w3.cell? ⟨w.heap.size + 1, 1, none⟩ = some (.int .i64 u) := (hh1.under hb3 hh1.lt).cell_at rfl))
      have hb24 := hb3.trans (hb4.mono hb3.size)
      have m0 : w4.cell? ⟨w.heap.size, 0, none⟩ = some (.int .i64 f) := (hh0.under hb24 hh0.lt).cell_at rfl
      have m1 : w4.cell? ⟨w.heap.size, 1, none⟩ = some (.int .i64 v) := (hh0.under hb24 hh0.lt).cell_at rfl
      have m2 : w4.cell? ⟨w.heap.size + 1, 0, none⟩ = some (.int .i64 g) := (hh1.under hb24 hh1.lt).cell_at rfl
      have m3 : w4.cell? ⟨w.heap.size + 1, 1, none⟩ = some (.int .i64 u) := (hh1.under hb24 hh1.lt).cell_at rfl
      go_upto_region 4 with fail
      obtain ⟨W4, hW4⟩ : ∃ x, x = w4.alloc (.cells #[.int .i64 (f + g), .int .i64 (v + u)] 39) := ⟨_, rfl⟩
      have hB4 : Below W2.heap.size W2 W4 := by rw [hW4]; exact hb24.alloc hb24.size _
      have hh3 : Has W4 w4.heap.size 39 #[.int .i64 (f + g), .int .i64 (v + u)] := by rw [hW4]; exact Has.fresh _ _ _
      have k2 : W4.cell? ⟨w4.heap.size, 0, none⟩ = some (.int .i64 (f + g)) := hh3.cell_at rfl
      have k3 : W4.cell? ⟨w4.heap.size, 1, none⟩ = some (.int .i64 (v + u)) := hh3.cell_at rfl
      rw [← hW4]
      clear hW4
      go_wp2_with (first
        | (go_at_call 18; (with_reducible refine (pright_any (f + g) (v + u) false ⟨fun e => absurd e Bool.false_ne_true, fun e => absurd e (H.out.2.2)⟩ _).mono ?_); rintro e w5 ⟨rfl, hb5⟩; have hb25 := hB4.trans (hb5.mono hB4.size); have k6 : w5.cell? ⟨w.heap.size + 1 + 1, 0, none⟩ = some (.int .i64 0) := (hh2.under hb25 hh2.lt).cell_at rfl; have k7 : w5.cell? ⟨w.heap.size + 1 + 1, 1, none⟩ = some (.int .i64 0) := (hh2.under hb25 hh2.lt).cell_at rfl; have k8 := (hh2.under hb25 hh2.lt).loose 0; have k9 := (hh2.under hb25 hh2.lt).loose 1))
      have hT := hB2.trans (hb25.mono hB2.size)
      refine bodyPost_ret (v := .tuple #[.agg #[.int .i64 0, .int .i64 0], erro 1]) (by simp [results, Try.results16, go_sem, k6, k7]) rfl ⟨rfl, ?_⟩
      exact (hT.setCell (p := ⟨w.heap.size + 1 + 1, 0, none⟩) (Nat.le_trans (Nat.le_succ _) (Nat.le_succ _)) _).setCell (p := ⟨w.heap.size + 1 + 1, 1, none⟩) (Nat.le_trans (Nat.le_succ _) (Nat.le_succ _)) _
    · have H := Lib.hid (And.intro h1 h2)
      clear h h1 h2
      go_enter Try.func16, Try.ntmps16
      go_upto_region 1 with fail
      rw [← HW.out]
      go_wp2_with (first
        | (go_at_call 18; (with_reducible refine (pright_any g u false ⟨fun e => absurd e Bool.false_ne_true, fun e => absurd e (H.out.2)⟩ _).mono ?_); rintro e wz ⟨rfl, hb4⟩; have HB := hb3.trans (hb4.mono hb3.size); have k6 : wz.cell? ⟨w.heap.size + 1 + 1, 0, none⟩ = some (.int .i64 0) := (hh2.under HB hh2.lt).cell_at rfl; have k7 : wz.cell? ⟨w.heap.size + 1 + 1, 1, none⟩ = some (.int .i64 0) := (hh2.under HB hh2.lt).cell_at rfl; have k8 := (hh2.under HB hh2.lt).loose 0; have k9 := (hh2.under HB hh2.lt).loose 1)
        | (go_at_call 18; (with_reducible refine (pright_any f v true ⟨fun _ => H.out.1, fun _ => rfl⟩ _).mono ?_); rintro e w3 ⟨rfl, hb3⟩; have k0 : w3.cell? ⟨w.heap.size + 1, 0, none⟩ = some (.int .i64 g) := (hh1.under hb3 hh1.lt).cell_at rfl; have k1 : w3.cell? ⟨w.heap.size + 1, 1, none⟩ = some (.int .i64 u) := (hh1.under hb3 hh1.lt).cell_at rfl))
      have hT := hB2.trans (HB.mono hB2.size)
      refine bodyPost_ret (v := .tuple #[.agg #[.int .i64 0, .int .i64 0], erro 1]) (by simp [results, Try.results16, go_sem, k6, k7]) rfl ⟨rfl, ?_⟩
      exact (hT.setCell (p := ⟨w.heap.size + 1 + 1, 0, none⟩) (Nat.le_trans (Nat.le_succ _) (Nat.le_succ _)) _).setCell (p := ⟨w.heap.size + 1 + 1, 1, none⟩) (Nat.le_trans (Nat.le_succ _) (Nat.le_succ _)) _
  · have H := Lib.hid h1
    clear h h1
    go_enter Try.func16, Try.ntmps16
    go_upto_region 1 with fail
    rw [← HW.out]
    go_wp2_with (first
      | (go_at_call 18; (with_reducible refine (pright_any f v false ⟨fun e => absurd e Bool.false_ne_true, fun e => absurd e (H.out)⟩ _).mono ?_); rintro e wz ⟨rfl, HB⟩; have k6 : wz.cell? ⟨w.heap.size + 1 + 1, 0, none⟩ = some (.int .i64 0) := (hh2.under HB hh2.lt).cell_at rfl; have k7 : wz.cell? ⟨w.heap.size + 1 + 1, 1, none⟩ = some (.int .i64 0) := (hh2.under HB hh2.lt).cell_at rfl; have k8 := (hh2.under HB hh2.lt).loose 0; have k9 := (hh2.under HB hh2.lt).loose 1))
    have hT := hB2.trans (HB.mono hB2.size)
    refine bodyPost_ret (v := .tuple #[.agg #[.int .i64 0, .int .i64 0], erro 1]) (by simp [results, Try.results16, go_sem, k6, k7]) rfl ⟨rfl, ?_⟩
    exact (hT.setCell (p := ⟨w.heap.size + 1 + 1, 0, none⟩) (Nat.le_trans (Nat.le_succ _) (Nat.le_succ _)) _).setCell (p := ⟨w.heap.size + 1 + 1, 1, none⟩) (Nat.le_trans (Nat.le_succ _) (Nat.le_succ _)) _
/-- package amount does what the premise asks -/
theorem amountOk : AmountOk where
  good z b w h := (pgood_any z b h w).mono fun _ _ q => ⟨q.1, q.2 ▸ Below.refl _ _⟩
  total a n c l w h _ := (ptotal_any a n c l w h).mono fun _ _ q => ⟨q.1, q.2 ▸ Below.refl _ _⟩
  fee_ok a b w h := (pfee_ok a b h w).mono fun _ _ q => ⟨q.1, q.2 ▸ Below.refl _ _⟩
  fee_no a b w h := (pfee_no a b h w).mono fun _ _ q => ⟨q.1, q.2 ▸ Below.refl _ _⟩
  right f v b w h := pright_any f v b h w
  compare f v g u w := by
    unfold Am.cmp
    by_cases h : Am.Right f v ∧ Am.Right g u
    · rw [if_pos h]
      exact pcompare_ok f v g u h w
    · rw [if_neg h]
      exact pcompare_no f v g u h w
  with_ok f v g u w h := pwith_ok f v g u h w
  with_no f v g u w h := pwith_no f v g u h w
  pays f v per least b w h := ppays_any f v per least b h w
  need_ok v per w h := (pneed_ok v per h w).mono fun _ _ q => ⟨q.1, q.2 ▸ Below.refl _ _⟩
  need_no v per w h := (pneed_no v per h w).mono fun _ _ q => ⟨q.1, q.2 ▸ Below.refl _ _⟩
end Go.Proofs.Ytcbbjhcejlmmlaa
