/- the library's sort of words: order2Ordered, medianOrdered, medianAdjacentOrdered, choosePivotOrdered (what they answer, not which) -/
import Derived.Test.YtamigcbodplmcaaSoA
namespace Go.Proofs.Ytamigcbodplmcaa
open Go Go.RowKit Go.ChangeShapes Go.WideShapes Go.Sort
/-- w0 but for a counter in a block of its own -/
structure So.Cnt (w0 : World) (H s : Nat) (w : World) : Prop where
  has : Has w H 3 #[.int .i64 (s : Int)]
  old : Below w0.heap.size w0 w
  new : w0.heap.size ≤ H
  lt : s ≤ 1000
theorem So.Cnt.draws {w0 w : World} {H s : Nat} (h : So.Cnt w0 H s w) (q : Nat) : So.Cnt w0 H s (w.drewN q) := ⟨h.has.draws q, below_draws h.old q, h.new, h.lt⟩
theorem So.Cnt.more {w0 w : World} {H s : Nat} (h : So.Cnt w0 H s w) (hs : s + 1 ≤ 1000) : So.Cnt w0 H (s + 1) (w.setCell ⟨H, 0, none⟩ (.int .i64 ((s : Int) + 1))) :=
  ⟨h.has.put 0 _, h.old.setCell (p := ⟨H, 0, none⟩) h.new _, h.new, hs⟩
theorem So.Cnt.row {w0 w : World} {H s g off : Nat} {d : Array So.E} (h : So.Cnt w0 H s w) (hH : Holds So.enc w0 g off d) (hg : g < w0.heap.size) : Holds So.enc w g off d := fun j hj =>
  ⟨(h.old.cell (p := ⟨g, off + j, none⟩) hg).trans (hH j hj).1, (h.old.frozen (p := ⟨g, off + j, none⟩) hg).trans (hH j hj).2⟩
set_option maxRecDepth 1000000 in
set_option maxHeartbeats 4000000 in
theorem order2_any (w0 : World) (H s g off n c i j : Nat) (d : Array So.E) (w : World) (hn : d.size = n) (hg : g < w0.heap.size) (hH : Holds So.enc w0 g off d) (hc : So.Cnt w0 H s w) (hi : i < n) (hj : j < n) (hs : s + 1 ≤ 1000) :
    Calls Try.prog 102 #[.slice (some ⟨g, off, none⟩) n c, .int .i64 (i : Int), .int .i64 (j : Int), .pointer (some ⟨H, 0, none⟩)] w fun e w' =>
      ∃ x y s' : Nat, e = .returned (.tuple #[.int .i64 (x : Int), .int .i64 (y : Int)]) ∧ ((x = i ∧ y = j) ∨ (x = j ∧ y = i)) ∧ s' ≤ s + 1 ∧ So.Cnt w0 H s' w' := by
  have hrow := hc.row hH hg
  obtain ⟨G, hG, hcw, hfw⟩ := (So.Is.refl hrow).fam hrow hn hn
  have HC := Lib.hid hc
  clear hG hrow hH hc
  go_enter Try.func102, Try.ntmps102
  go_wp2_with fail
  go_big_quiet (first | (go_at_call 90; refine Calls.quiet_of_same (less_any _ _ _)))
  have HZ := Lib.hid (HC.out.draws nq)
  clear hcw hfw
  generalize w.drewN nq = wz at HZ ⊢
  by_cases hl : So.lt (G j) (G i) = true
  · rw [hl]
    have hcell := HZ.out.has.cell_at (i := 0) (v := .int .i64 (s : Int)) rfl
    have hlo := HZ.out.has.loose 0
    have hw1 : IntKind.i64.wrap ((s : Int) + 1) = (s : Int) + 1 := IntWalk.i64_in _ (by omega)
    go_wp2
    go_ret2
    exact ⟨j, i, s + 1, rfl, .inr ⟨rfl, rfl⟩, Nat.le_refl _, HZ.out.more hs⟩
  · have hl2 : So.lt (G j) (G i) = false := by simpa using hl
    rw [hl2]
    go_wp2
    go_ret2
    exact ⟨i, j, s, rfl, .inl ⟨rfl, rfl⟩, by omega, HZ.out⟩
theorem median_any (w0 : World) (H s g off n c i j k : Nat) (d : Array So.E) (w : World) (hn : d.size = n) (hg : g < w0.heap.size) (hH : Holds So.enc w0 g off d) (hc : So.Cnt w0 H s w) (hi : i < n) (hj : j < n) (hk : k < n) (hs : s + 3 ≤ 1000) :
    Calls Try.prog 100 #[.slice (some ⟨g, off, none⟩) n c, .int .i64 (i : Int), .int .i64 (j : Int), .int .i64 (k : Int), .pointer (some ⟨H, 0, none⟩)] w fun e w' =>
      ∃ x s' : Nat, e = .returned (.int .i64 (x : Int)) ∧ (x = i ∨ x = j ∨ x = k) ∧ s' ≤ s + 3 ∧ So.Cnt w0 H s' w' := by
  have HH := Lib.hid hH
  have HC := Lib.hid hc
  clear hc hH
  go_enter Try.func100, Try.ntmps100
  go_wp2_with (first
    | (go_at_call 102; refine (order2_any w0 H s2 g off n c x1 x2 d w2 hn hg HH.out h2 (by omega) (by omega) (by omega)).mono ?_; rintro e w3 ⟨x3, y3, s3, rfl, o3, l3, h3⟩)
    | (go_at_call 102; refine (order2_any w0 H s1 g off n c y1 k d w1 hn hg HH.out h1 (by omega) (by omega) (by omega)).mono ?_; rintro e w2 ⟨x2, y2, s2, rfl, o2, l2, h2⟩)
    | (go_at_call 102; refine (order2_any w0 H s g off n c i j d w hn hg HH.out HC.out hi hj (by omega)).mono ?_; rintro e w1 ⟨x1, y1, s1, rfl, o1, l1, h1⟩))
  go_ret
  exact ⟨y3, s3, rfl, by omega, by omega, h3⟩
theorem medadj_any (w0 : World) (H s g off n c i : Nat) (d : Array So.E) (w : World) (hn : d.size = n) (hg : g < w0.heap.size) (hH : Holds So.enc w0 g off d) (hc : So.Cnt w0 H s w) (hi : 0 < i) (hi2 : i + 1 < n) (hsz : n ≤ 1000000) (hs : s + 3 ≤ 1000) :
    Calls Try.prog 99 #[.slice (some ⟨g, off, none⟩) n c, .int .i64 (i : Int), .pointer (some ⟨H, 0, none⟩)] w fun e w' =>
      ∃ x s' : Nat, e = .returned (.int .i64 (x : Int)) ∧ (x = i - 1 ∨ x = i ∨ x = i + 1) ∧ s' ≤ s + 3 ∧ So.Cnt w0 H s' w' := by
  have HH := Lib.hid hH
  have HC := Lib.hid hc
  have h1 : IntKind.i64.wrap ((i : Int) - 1) = ((i - 1 : Nat) : Int) := by rw [IntWalk.i64_in _ (by omega)]; omega
  have h1' : (i : Int) - 1 = ((i - 1 : Nat) : Int) := by omega
  have h2 : IntKind.i64.wrap ((i : Int) + 1) = ((i + 1 : Nat) : Int) := by rw [IntWalk.i64_in _ (by omega)]; omega
  have h2' : (i : Int) + 1 = ((i + 1 : Nat) : Int) := by omega
  obtain ⟨p, hp⟩ : ∃ p, i - 1 = p := ⟨_, rfl⟩
  obtain ⟨q, hq⟩ : ∃ q, i + 1 = q := ⟨_, rfl⟩
  rw [hp] at h1 h1'
  rw [hq] at h2 h2'
  have HP := Lib.hid hp
  have HQ := Lib.hid hq
  have hpn : p < n := by omega
  have hqn : q < n := by omega
  clear hc hH hp hq
  go_enter Try.func99, Try.ntmps99
  go_wp2_with (first
    | (go_at_call 100; refine (median_any w0 H s g off n c p i q d w hn hg HH.out HC.out hpn (by omega) hqn hs).mono ?_; rintro e w1 ⟨x1, s1, rfl, o1, l1, h1⟩))
  go_ret
  exact ⟨x1, s1, rfl, by rw [HP.out, HQ.out]; exact o1, l1, h1⟩
structure PivB (a b n q : Nat) : Prop where
  i0 : 0 < a + q
  i1 : a + q + 1 < n
  j0 : 0 < a + q * 2
  j1 : a + q * 2 + 1 < n
  k0 : 0 < a + q * 3
  k1 : a + q * 3 + 1 < n
theorem piv_b {a b n l q : Nat} (hl : b - a = l) (hq : l / 4 = q) (hab : a + 12 < b) (hb : b ≤ n) : PivB a b n q := by
  constructor <;> omega
theorem piv_lt {a b n q x1 x2 x3 : Nat} (h : PivB a b n q) (h1 : x1 = a + q - 1 ∨ x1 = a + q ∨ x1 = a + q + 1) (h2 : x2 = a + q * 2 - 1 ∨ x2 = a + q * 2 ∨ x2 = a + q * 2 + 1) (h3 : x3 = a + q * 3 - 1 ∨ x3 = a + q * 3 ∨ x3 = a + q * 3 + 1) : x1 < n ∧ x2 < n ∧ x3 < n := by
  obtain ⟨_, _, _, _, _, _⟩ := h
  refine ⟨?_, ?_, ?_⟩ <;> omega
theorem piv_in {a b l q x1 x2 x3 x4 : Nat} (hl : b - a = l) (hq : l / 4 = q) (hab : a + 12 < b) (h1 : x1 = a + q - 1 ∨ x1 = a + q ∨ x1 = a + q + 1) (h2 : x2 = a + q * 2 - 1 ∨ x2 = a + q * 2 ∨ x2 = a + q * 2 + 1) (h3 : x3 = a + q * 3 - 1 ∨ x3 = a + q * 3 ∨ x3 = a + q * 3 + 1) (h4 : x4 = x1 ∨ x4 = x2 ∨ x4 = x3) : a ≤ x4 ∧ x4 < b := by
  rcases h4 with rfl | rfl | rfl <;> omega
theorem le_add3 {s t m : Nat} (h : t ≤ s + 3) (hs : s ≤ m) : t ≤ m + 3 := by omega
theorem le_1000 {s m : Nat} (h : s ≤ m) (hm : m ≤ 100) : s + 3 ≤ 1000 := by omega
theorem quo4 (l : Nat) : ((l : Int)).tdiv 4 = ((l / 4 : Nat) : Int) := rfl
set_option maxRecDepth 1000000 in
set_option maxHeartbeats 4000000 in
theorem pivot_any (g off n c a b : Nat) (d : Array So.E) (w : World) (hn : d.size = n) (hg : g < w.heap.size) (hH : Holds So.enc w g off d) (hab : a + 12 < b) (hb : b ≤ n) (hsz : n ≤ 1000000) :
    Calls Try.prog 87 #[.slice (some ⟨g, off, none⟩) n c, .int .i64 (a : Int), .int .i64 (b : Int)] w fun e w' =>
      (∃ (p : Nat) (h : Int), e = .returned (.tuple #[.int .i64 (p : Int), .int .i64 h]) ∧ a ≤ p ∧ p < b) ∧ Below w.heap.size w w' := by
  have HH := Lib.hid hH
  obtain ⟨l, hl⟩ : ∃ l, b - a = l := ⟨_, rfl⟩
  have hsub : (b : Int) - (a : Int) = (l : Int) := by omega
  have hsw : IntKind.i64.wrap (l : Int) = (l : Int) := IntWalk.i64_in _ (by omega)
  obtain ⟨q, hq⟩ : ∃ q, l / 4 = q := ⟨_, rfl⟩
  have hquo : (l : Int).tdiv 4 = (q : Int) := by rw [quo4, hq]
  have hquo2 : (l : Int) / 4 = (q : Int) := by omega
  have hqw : IntKind.i64.wrap (q : Int) = (q : Int) := IntWalk.i64_in _ (by omega)
  have hm1 : IntKind.i64.wrap ((q : Int) * 1) = (q : Int) := by rw [IntWalk.i64_in _ (by omega)]; omega
  have hm2 : IntKind.i64.wrap ((q : Int) * 2) = (q : Int) * 2 := IntWalk.i64_in _ (by omega)
  have hm3 : IntKind.i64.wrap ((q : Int) * 3) = (q : Int) * 3 := IntWalk.i64_in _ (by omega)
  have ha1 : IntKind.i64.wrap ((a : Int) + (q : Int)) = ((a + q : Nat) : Int) := by rw [IntWalk.i64_in _ (by omega)]; omega
  have ha2 : IntKind.i64.wrap ((a : Int) + (q : Int) * 2) = ((a + q * 2 : Nat) : Int) := by rw [IntWalk.i64_in _ (by omega)]; omega
  have ha3 : IntKind.i64.wrap ((a : Int) + (q : Int) * 3) = ((a + q * 3 : Nat) : Int) := by rw [IntWalk.i64_in _ (by omega)]; omega
  have hl8 : (l : Int) ≥ 8 := by omega
  have hC0 : So.Cnt w w.heap.size 0 (w.alloc (.cells #[.int .i64 0] 3)) := ⟨Has.fresh w _ _, (Below.refl _ w).alloc (Nat.le_refl _) _, Nat.le_refl _, by omega⟩
  have HC0 := Lib.hid hC0
  have HB := Lib.hid (piv_b hl hq hab hb)
  have HL := Lib.hid (And.intro hl (And.intro hq hab))
  clear hC0 hH hl hq
  go_enter Try.func87, Try.ntmps87
  by_cases h50 : l ≥ 50
  · have h50i : (l : Int) ≥ 50 := by omega
    have m1 := medadj_any w w.heap.size 0 g off n c (a + q) d _ hn hg HH.out HC0.out HB.out.i0 HB.out.i1 hsz (by decide)
    have m2 := fun s1 w1 (h : So.Cnt w w.heap.size s1 w1) (hs : s1 ≤ 3) => medadj_any w w.heap.size s1 g off n c (a + q * 2) d w1 hn hg HH.out h HB.out.j0 HB.out.j1 hsz (le_1000 hs (by decide))
    have m3 := fun s1 w1 (h : So.Cnt w w.heap.size s1 w1) (hs : s1 ≤ 6) => medadj_any w w.heap.size s1 g off n c (a + q * 3) d w1 hn hg HH.out h HB.out.k0 HB.out.k1 hsz (le_1000 hs (by decide))
    rw [show ((a + q : Nat) : Int) = (a : Int) + (q : Int) from Int.natCast_add _ _] at m1
    simp only [show ((a + q * 2 : Nat) : Int) = (a : Int) + (q : Int) * 2 from rfl] at m2
    simp only [show ((a + q * 3 : Nat) : Int) = (a : Int) + (q : Int) * 3 from rfl] at m3
    have HM := Lib.hid (And.intro m1 (And.intro m2 m3))
    clear m1 m2 m3
    go_wp2_with (first
      | (go_at_call 100; refine (median_any w w.heap.size s3 g off n c x1 x2 x3 d w3 hn hg HH.out h3 (piv_lt HB.out O1.out O2.out O3.out).1 (piv_lt HB.out O1.out O2.out O3.out).2.1 (piv_lt HB.out O1.out O2.out O3.out).2.2 (le_1000 L3 (by decide))).mono ?_; rintro e w4 ⟨x4, s4, rfl, o4, l4, h4⟩; have O4 := Lib.hid o4; clear o4 l4; have hcell := h4.has.cell_at (i := 0) (v := .int .i64 (s4 : Int)) rfl; have hlo := h4.has.loose 0)
      | (go_at_call 99; refine (HM.out.2.2 s2 w2 h2 L2).mono ?_; rintro e w3 ⟨x3, s3, rfl, o3, l3, h3⟩; have O3 := Lib.hid o3; have L3 := le_add3 l3 L2; clear o3 l3)
      | (go_at_call 99; refine (HM.out.2.1 s1 w1 h1 L1).mono ?_; rintro e w2 ⟨x2, s2, rfl, o2, l2, h2⟩; have O2 := Lib.hid o2; have L2 := le_add3 l2 L1; clear o2 l2)
      | (go_at_call 99; refine HM.out.1.mono ?_; rintro e w1 ⟨x1, s1, rfl, o1, l1, h1⟩; have O1 := Lib.hid o1; have L1 : s1 ≤ 3 := l1; clear o1 l1))
    all_goals
      (go_ret2
       exact ⟨⟨x4, _, rfl, piv_in HL.out.1 HL.out.2.1 HL.out.2.2 O1.out O2.out O3.out O4.out⟩, h4.old⟩)
  · have h50i : ¬ (l : Int) ≥ 50 := by omega
    have hb3 := HB.out
    have m1 := median_any w w.heap.size 0 g off n c (a + q) (a + q * 2) (a + q * 3) d _ hn hg HH.out HC0.out (Nat.lt_of_succ_lt hb3.i1) (Nat.lt_of_succ_lt hb3.j1) (Nat.lt_of_succ_lt hb3.k1) (by decide)
    rw [show ((a + q : Nat) : Int) = (a : Int) + (q : Int) from Int.natCast_add _ _, show ((a + q * 2 : Nat) : Int) = (a : Int) + (q : Int) * 2 from rfl, show ((a + q * 3 : Nat) : Int) = (a : Int) + (q : Int) * 3 from rfl] at m1
    have HM := Lib.hid m1
    clear m1 hb3
    go_wp2_with (first
      | (go_at_call 100; refine HM.out.mono ?_; rintro e w4 ⟨x4, s4, rfl, o4, l4, h4⟩; have O4 := Lib.hid o4; clear o4 l4; have hcell := h4.has.cell_at (i := 0) (v := .int .i64 (s4 : Int)) rfl; have hlo := h4.has.loose 0))
    all_goals
      (go_ret2
       exact ⟨⟨x4, _, rfl, piv_in HL.out.1 HL.out.2.1 HL.out.2.2 (.inr (.inl rfl)) (.inr (.inl rfl)) (.inr (.inl rfl)) O4.out⟩, h4.old⟩)
end Go.Proofs.Ytamigcbodplmcaa
