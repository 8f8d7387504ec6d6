/- the library's sort of words: siftDownOrdered, heapSortOrdered -/
import Derived.Test.YtamigcbodplmcaaSoA
namespace Go.Proofs.Ytamigcbodplmcaa
open Go Go.RowKit Go.ChangeShapes Go.WideShapes Go.Sort
/-- the greater child -/
def child (hi first root : Nat) (d : Array So.E) : Nat := if 2 * root + 1 + 1 < hi && So.lt d[first + (2 * root + 1)]! d[first + (2 * root + 1) + 1]! then 2 * root + 2 else 2 * root + 1
theorem child_yes {hi first root : Nat} {d : Array So.E} (h : 2 * root + 1 + 1 < hi) (h2 : So.lt d[first + (2 * root + 1)]! d[first + (2 * root + 1) + 1]! = true) : child hi first root d = 2 * root + 2 := by
  rw [child, if_pos (by rw [h2]; simp; omega)]
theorem child_no {hi first root : Nat} {d : Array So.E} (h2 : So.lt d[first + (2 * root + 1)]! d[first + (2 * root + 1) + 1]! = false) : child hi first root d = 2 * root + 1 := by
  rw [child, if_neg (by rw [h2]; simp)]
theorem child_end {hi first root : Nat} {d : Array So.E} (h : ¬ 2 * root + 1 + 1 < hi) : child hi first root d = 2 * root + 1 := by
  rw [child, if_neg (by simp; omega)]
theorem sift_eq (hi first root : Nat) (d : Array So.E) : siftDown So.lt hi first root d = if 2 * root + 1 ≥ hi then d else
    if (!So.lt d[first + root]! d[first + child hi first root d]!) = true then d else siftDown So.lt hi first (child hi first root d) (swp d (first + root) (first + child hi first root d)) := by
  rw [siftDown]
  by_cases h : 2 * root + 1 ≥ hi
  · rw [dif_pos h, if_pos h]
  · rw [dif_neg h, if_neg h]
    by_cases h2 : (2 * root + 1 + 1 < hi && So.lt d[first + (2 * root + 1)]! d[first + (2 * root + 1) + 1]!) = true
    · have hc : child hi first root d = 2 * root + 2 := by rw [child, if_pos h2]
      have h3 : 2 * root + 2 < hi := by simp at h2; omega
      rw [if_pos h2, hc]
      by_cases h4 : (!So.lt d[first + root]! d[first + (2 * root + 2)]!) = true
      · rw [if_pos h4, if_pos h4]
      · rw [if_neg h4, if_neg h4, dif_pos h3]
    · have hc : child hi first root d = 2 * root + 1 := by rw [child, if_neg h2]
      rw [if_neg h2, hc]
theorem sift_size : ∀ (k hi first root : Nat) (d : Array So.E), hi - root ≤ k → (siftDown So.lt hi first root d).size = d.size := by
  intro k
  induction k with
  | zero =>
    intro hi first root d h
    rw [sift_eq, if_pos (by omega)]
  | succ k ih =>
    intro hi first root d h
    rw [sift_eq]
    by_cases h1 : 2 * root + 1 ≥ hi
    · rw [if_pos h1]
    · rw [if_neg h1]
      by_cases h2 : (!So.lt d[first + root]! d[first + child hi first root d]!) = true
      · rw [if_pos h2]
      · rw [if_neg h2, ih _ _ _ _ (by unfold child; split <;> omega), size_swp]
theorem sift_go {hi first root ch j : Nat} {d : Array So.E} (h : ¬ 2 * root + 1 ≥ hi) (hc : child hi first root d = ch) (hj : first + ch = j) (hl : So.lt d[first + root]! d[j]! = true) : siftDown So.lt hi first root d = siftDown So.lt hi first ch (swp d (first + root) j) := by
  rw [sift_eq, if_neg h, hc, hj, if_neg (by rw [hl]; simp)]
theorem sift_stop {hi first root ch j : Nat} {d : Array So.E} (h : ¬ 2 * root + 1 ≥ hi) (hc : child hi first root d = ch) (hj : first + ch = j) (hl : So.lt d[first + root]! d[j]! = false) : siftDown So.lt hi first root d = d := by
  rw [sift_eq, if_neg h, hc, hj, if_pos (by rw [hl]; rfl)]
set_option maxRecDepth 1000000 in
set_option maxHeartbeats 4000000 in
theorem sift_any (g off n c lo hi first : Nat) (d : Array So.E) (w : World) (hn : d.size = n) (hH : Holds So.enc w g off d) (hf : first + hi ≤ n) (hsz : n ≤ 1000000) (hlo : lo ≤ 1000000) :
    Calls Try.prog 96 #[.slice (some ⟨g, off, none⟩) n c, .int .i64 (lo : Int), .int .i64 (hi : Int), .int .i64 (first : Int)] w fun e w' =>
      e = .returned (.tuple #[]) ∧ So.Is w g off (siftDown So.lt hi first lo d) w' := by
  have HH := Lib.hid hH
  clear hH
  go_enter Try.func96, Try.ntmps96
  go_wp2
  go_loopw [8] (fun vr wr => ∃ (root : Nat) (dk : Array So.E), vr = .int .i64 (root : Int) ∧ root ≤ 1000000 ∧ dk.size = n ∧ RowKit.Hid (So.Is w g off dk wr) ∧ RowKit.Hid (siftDown So.lt hi first root dk = siftDown So.lt hi first lo d)) (fun vr _ => 1000000 - (intOf vr).toNat)
  case atStart => exact ⟨lo, d, rfl, hlo, hn, Lib.hid (So.Is.refl HH.out), Lib.hid rfl⟩
  case round =>
    obtain ⟨root, dk, rfl, hro, hsk, HW, HS⟩ := hrel
    obtain ⟨G, hG, hcw, hfw⟩ := HW.out.fam HH.out hn hsk
    have HG := Lib.hid hG
    clear hG
    have hw1 : IntKind.i64.wrap (2 * (root : Int)) = 2 * (root : Int) := IntWalk.i64_in _ (by omega)
    have hw2 : IntKind.i64.wrap (2 * (root : Int) + 1) = 2 * (root : Int) + 1 := IntWalk.i64_in _ (by omega)
    have hw3 : IntKind.i64.wrap (2 * (root : Int) + 1 + 1) = 2 * (root : Int) + 1 + 1 := IntWalk.i64_in _ (by omega)
    by_cases h1 : 2 * root + 1 ≥ hi
    · have h1i : (2 * (root : Int) + 1 ≥ (hi : Int)) := by omega
      have hst : dk = siftDown So.lt hi first lo d := by rw [← HS.out, sift_eq, if_pos h1]
      have H2 := Lib.hid hst
      clear hst
      go_wp2_with fail
      go_end0
      exact ⟨rfl, by rw [← H2.out]; exact HW.out⟩
    · have h1i : ¬ (2 * (root : Int) + 1 ≥ (hi : Int)) := by omega
      by_cases h2 : 2 * root + 1 + 1 < hi
      · have h2i : (2 * (root : Int) + 1 + 1 < (hi : Int)) := by omega
        go_wp2_with fail
        go_big_quiet (first | (go_at_call 90; refine Calls.quiet_of_same (less_any _ _ _)))
        by_cases hc : So.lt (G (first + 2 * root + 1)) (G (first + 2 * root + 2)) = true
        · rw [hc]
          have hch : child hi first root dk = (2 * root + 2) := child_yes h2 (by rw [← HG.out, ← HG.out]; exact hc)
          have HC := Lib.hid hch
          clear hch
          go_wp2_with fail
          have hz : RowKit.Hid (So.Is w g off dk (wr.drewN nq)) := Lib.hid (HW.out.draws nq)
          have hcz : ∀ t, t < n → (wr.drewN nq).cell? ⟨g, off + t, none⟩ = some (.int .u32 (nb32 (G t))) := hcw
          have hfz : ∀ t, t < n → (wr.drewN nq).frozen? ⟨g, off + t, none⟩ = false := hfw
          clear hcw hfw HW
          generalize wr.drewN nq = wz at hz hcz hfz ⊢
          clear nq
          go_big_quiet (first | (go_at_call 90; refine Calls.quiet_of_same (less_any _ _ _)))
          by_cases hl : So.lt (G (first + root)) (G (first + 2 * root + 2)) = true
          · rw [hl]
            go_wp2_with fail
            go_region
            have hsw := hz.out.swap (i := first + root) (j := first + (2 * root + 1 + 1)) (by omega) (by omega) (nq + 1)
            rw [← HG.out, ← HG.out] at hsw
            have hst : siftDown So.lt hi first (2 * root + 2) (swp dk (first + root) (first + (2 * root + 1 + 1))) = siftDown So.lt hi first lo d := by
              rw [← HS.out]
              exact (sift_go h1 HC.out rfl (by rw [← HG.out, ← HG.out]; exact hl)).symm
            have H1 := Lib.hid hsw
            have H2 := Lib.hid hst
            clear hsw hst
            go_wp2_with fail
            go_roundw
            case rel => exact ⟨(2 * root + 2), swp dk (first + root) (first + (2 * root + 1 + 1)), by go_num, by omega, by rw [size_swp]; exact hsk, H1, H2⟩
            case measure => (simp [intOf]; try omega)
          · have hl2 : So.lt (G (first + root)) (G (first + 2 * root + 2)) = false := by simpa using hl
            rw [hl2]
            have hst : dk = siftDown So.lt hi first lo d := by
              rw [← HS.out]
              exact (sift_stop h1 HC.out rfl (by rw [← HG.out, ← HG.out]; exact hl2)).symm
            have H2 := Lib.hid hst
            clear hst
            go_wp2_with fail
            (try simp only [Exit.inBlock, Exit.then])
            refine bodyPost_ret (results_none rfl _ _ _) rfl ?_
            exact ⟨rfl, by rw [← H2.out]; exact hz.out.draws _⟩

        · have hc2 : So.lt (G (first + 2 * root + 1)) (G (first + 2 * root + 2)) = false := by simpa using hc
          rw [hc2]
          have hch : child hi first root dk = (2 * root + 1) := child_no (by rw [← HG.out, ← HG.out]; exact hc2)
          have HC := Lib.hid hch
          clear hch
          go_wp2_with fail
          have hz : RowKit.Hid (So.Is w g off dk (wr.drewN nq)) := Lib.hid (HW.out.draws nq)
          have hcz : ∀ t, t < n → (wr.drewN nq).cell? ⟨g, off + t, none⟩ = some (.int .u32 (nb32 (G t))) := hcw
          have hfz : ∀ t, t < n → (wr.drewN nq).frozen? ⟨g, off + t, none⟩ = false := hfw
          clear hcw hfw HW
          generalize wr.drewN nq = wz at hz hcz hfz ⊢
          clear nq
          go_big_quiet (first | (go_at_call 90; refine Calls.quiet_of_same (less_any _ _ _)))
          by_cases hl : So.lt (G (first + root)) (G (first + 2 * root + 1)) = true
          · rw [hl]
            go_wp2_with fail
            go_region
            have hsw := hz.out.swap (i := first + root) (j := first + (2 * root + 1)) (by omega) (by omega) (nq + 1)
            rw [← HG.out, ← HG.out] at hsw
            have hst : siftDown So.lt hi first (2 * root + 1) (swp dk (first + root) (first + (2 * root + 1))) = siftDown So.lt hi first lo d := by
              rw [← HS.out]
              exact (sift_go h1 HC.out rfl (by rw [← HG.out, ← HG.out]; exact hl)).symm
            have H1 := Lib.hid hsw
            have H2 := Lib.hid hst
            clear hsw hst
            go_wp2_with fail
            go_roundw
            case rel => exact ⟨(2 * root + 1), swp dk (first + root) (first + (2 * root + 1)), by go_num, by omega, by rw [size_swp]; exact hsk, H1, H2⟩
            case measure => (simp [intOf]; try omega)
          · have hl2 : So.lt (G (first + root)) (G (first + 2 * root + 1)) = false := by simpa using hl
            rw [hl2]
            have hst : dk = siftDown So.lt hi first lo d := by
              rw [← HS.out]
              exact (sift_stop h1 HC.out rfl (by rw [← HG.out, ← HG.out]; exact hl2)).symm
            have H2 := Lib.hid hst
            clear hst
            go_wp2_with fail
            (try simp only [Exit.inBlock, Exit.then])
            refine bodyPost_ret (results_none rfl _ _ _) rfl ?_
            exact ⟨rfl, by rw [← H2.out]; exact hz.out.draws _⟩

      · have h2i : ¬ (2 * (root : Int) + 1 + 1 < (hi : Int)) := by omega
        have h2d : decide (2 * (root : Int) + 1 + 1 < (hi : Int)) = false := decide_eq_false h2i
        go_wp2_with fail
        go_big_quiet (first | (go_at_call 90; refine Calls.quiet_of_same (less_any _ _ _)))
        have hch : child hi first root dk = (2 * root + 1) := child_end h2
        have HC := Lib.hid hch
        clear hch
        go_wp2_with fail
        have hz : RowKit.Hid (So.Is w g off dk (wr.drewN nq)) := Lib.hid (HW.out.draws nq)
        have hcz : ∀ t, t < n → (wr.drewN nq).cell? ⟨g, off + t, none⟩ = some (.int .u32 (nb32 (G t))) := hcw
        have hfz : ∀ t, t < n → (wr.drewN nq).frozen? ⟨g, off + t, none⟩ = false := hfw
        clear hcw hfw HW
        generalize wr.drewN nq = wz at hz hcz hfz ⊢
        clear nq
        go_big_quiet (first | (go_at_call 90; refine Calls.quiet_of_same (less_any _ _ _)))
        by_cases hl : So.lt (G (first + root)) (G (first + 2 * root + 1)) = true
        · rw [hl]
          go_wp2_with fail
          go_region
          have hsw := hz.out.swap (i := first + root) (j := first + (2 * root + 1)) (by omega) (by omega) (nq + 1)
          rw [← HG.out, ← HG.out] at hsw
          have hst : siftDown So.lt hi first (2 * root + 1) (swp dk (first + root) (first + (2 * root + 1))) = siftDown So.lt hi first lo d := by
            rw [← HS.out]
            exact (sift_go h1 HC.out rfl (by rw [← HG.out, ← HG.out]; exact hl)).symm
          have H1 := Lib.hid hsw
          have H2 := Lib.hid hst
          clear hsw hst
          go_wp2_with fail
          go_roundw
          case rel => exact ⟨(2 * root + 1), swp dk (first + root) (first + (2 * root + 1)), by go_num, by omega, by rw [size_swp]; exact hsk, H1, H2⟩
          case measure => (simp [intOf]; try omega)
        · have hl2 : So.lt (G (first + root)) (G (first + 2 * root + 1)) = false := by simpa using hl
          rw [hl2]
          have hst : dk = siftDown So.lt hi first lo d := by
            rw [← HS.out]
            exact (sift_stop h1 HC.out rfl (by rw [← HG.out, ← HG.out]; exact hl2)).symm
          have H2 := Lib.hid hst
          clear hst
          go_wp2_with fail
          (try simp only [Exit.inBlock, Exit.then])
          refine bodyPost_ret (results_none rfl _ _ _) rfl ?_
          exact ⟨rfl, by rw [← H2.out]; exact hz.out.draws _⟩

set_option maxRecDepth 1000000 in
set_option maxHeartbeats 4000000 in
theorem heap_any (g off n c a b : Nat) (d : Array So.E) (w : World) (hn : d.size = n) (hH : Holds So.enc w g off d) (hab : a ≤ b) (hb : b ≤ n) (hsz : n ≤ 1000000) :
    Calls Try.prog 85 #[.slice (some ⟨g, off, none⟩) n c, .int .i64 (a : Int), .int .i64 (b : Int)] w fun e w' =>
      e = .returned (.tuple #[]) ∧ So.Is w g off (heapSort So.lt d a b) w' := by
  have HH := Lib.hid hH
  clear hH
  obtain ⟨h, hh⟩ : ∃ h, b - a = h := ⟨_, rfl⟩
  have hbh : b = a + h := by omega
  have hsub : (b : Int) - (a : Int) = (h : Int) := by omega
  have hdiv : ((h : Int) - 1).tdiv 2 = (((h - 1) / 2 : Nat) : Int) := by
    rcases Nat.eq_zero_or_pos h with h0 | h0
    · rw [h0]; rfl
    · rw [show (h : Int) - 1 = ((h - 1 : Nat) : Int) from by omega]
      rfl
  have hhs : heapSort So.lt d a b = heapPop So.lt a h (heapBuild So.lt h a ((h - 1) / 2 + 1) d) := by rw [heapSort, hh]
  have HS := Lib.hid hhs
  have hw0 : IntKind.i64.wrap (h : Int) = (h : Int) := IntWalk.i64_in _ (by omega)
  have hw1 : IntKind.i64.wrap ((h : Int) - 1) = (h : Int) - 1 := IntWalk.i64_in _ (by omega)
  have hw2 : IntKind.i64.wrap (((h - 1) / 2 : Nat) : Int) = (((h - 1) / 2 : Nat) : Int) := IntWalk.i64_in _ (by omega)
  have HB := Lib.hid (And.intro hh hbh)
  obtain ⟨q, hq⟩ : ∃ q, (h - 1) / 2 = q := ⟨_, rfl⟩
  have hq2 : q ≤ 1000000 := by omega
  rw [hq] at hdiv hw2
  have HQ := Lib.hid hq
  have hah : a + h ≤ n := by omega
  clear hhs hh hbh hq
  go_enter Try.func85, Try.ntmps85
  go_wp2
  go_loopw [9] (fun vi wr => ∃ (k : Nat) (z : Int) (dk : Array So.E), vi = .int .i64 z ∧ z + 1 = (k : Int) ∧ k ≤ q + 1 ∧ dk.size = n ∧ RowKit.Hid (So.Is w g off dk wr) ∧ RowKit.Hid (heapBuild So.lt h a k dk = heapBuild So.lt h a (q + 1) d)) (fun vi _ => (intOf vi + 1).toNat)
  case atStart => exact ⟨q + 1, (q : Int), d, rfl, by omega, Nat.le_refl _, hn, Lib.hid (So.Is.refl HH.out), Lib.hid rfl⟩
  case round =>
    obtain ⟨k, z, dk, rfl, hzk, hkq, hsk, HW, HB2⟩ := hrel
    cases k with
    | succ m =>
      obtain rfl : z = (m : Int) := by omega
      have hm0 : (m : Int) ≥ 0 := by omega
      go_wp2_with (first
        | (go_at_call 96; refine (sift_any g off n c m h a dk wr hsk (HW.out.holds HH.out (by omega)) hah hsz (by omega)).mono ?_; rintro e w2 ⟨rfl, h2⟩)
        | fail)
      have h3 := HW.out.trans h2 (sift_size _ _ _ _ _ (Nat.le_refl _))
      have H3 := Lib.hid h3
      clear h2 h3
      go_roundw
      case rel => exact ⟨m, (m : Int) - 1, siftDown So.lt h a m dk, by go_num, by omega, by omega, by rw [sift_size _ _ _ _ _ (Nat.le_refl _)]; exact hsk, H3, Lib.hid (by rw [← HB2.out]; rfl)⟩
      case measure => (simp [intOf]; try omega)
    | zero =>
      obtain rfl : z = -1 := by omega
      obtain ⟨d1, hd1⟩ : ∃ d1, d1 = heapBuild So.lt h a (q + 1) d := ⟨_, rfl⟩
      have hdk : dk = d1 := by rw [hd1, ← HB2.out]; rfl
      have HD := Lib.hid (And.intro hd1 hdk)
      clear HB2 hd1 hdk
      go_wp2_with fail
      rename World => wA
      go_loopw [10] (fun vi wr => ∃ (k : Nat) (z : Int) (dj : Array So.E), vi = .int .i64 z ∧ z + 1 = (k : Int) ∧ k ≤ h ∧ dj.size = n ∧ RowKit.Hid (So.Is w g off dj wr) ∧ RowKit.Hid (heapPop So.lt a k dj = heapPop So.lt a h dk)) (fun vi _ => (intOf vi + 1).toNat)
      case atStart => exact ⟨h, (h : Int) - 1, dk, rfl, by omega, Nat.le_refl _, hsk, HW, Lib.hid rfl⟩
      case round =>
        obtain ⟨k, z, dj, rfl, hzk, hkh, hsj, HW2, HP⟩ := hrel
        cases k with
        | succ m =>
          obtain rfl : z = (m : Int) := by omega
          have hm0 : (m : Int) ≥ 0 := by omega
          obtain ⟨G, hG, hcw, hfw⟩ := HW2.out.fam HH.out hn hsj
          have HG := Lib.hid hG
          clear hG
          rcases Nat.eq_zero_or_pos m with hm1 | hm1
          · subst hm1
            go_wp2_with fail
            go_region
            have hsw := HW2.out.swap (i := a) (j := a + 0) (by omega) (by omega) 1
            rw [← HG.out, ← HG.out] at hsw
            have hss : (swp dj a (a + 0)).size = n := by rw [size_swp]; exact hsj
            have hho := hsw.holds HH.out (by omega)
            have H5 := Lib.hid hsw
            have hpp : heapPop So.lt a 0 (siftDown So.lt 0 a 0 (swp dj a (a + 0))) = heapPop So.lt a h dk := by rw [← HP.out]; rfl
            have H6 := Lib.hid hpp
            clear hsw hcw hfw hpp
            go_wp2_with (first
              | (go_at_call 96; refine (sift_any g off n c 0 0 a (swp dj a (a + 0)) _ hss hho (by omega) hsz (by omega)).mono ?_; rintro e w2 ⟨rfl, h2⟩)
              | fail)
            have h3 := H5.out.trans h2 (sift_size _ _ _ _ _ (Nat.le_refl _))
            have H7 := Lib.hid h3
            clear h2 h3
            go_roundw
            case rel => exact ⟨0, (0 : Int) - 1, siftDown So.lt 0 a 0 (swp dj a (a + 0)), by go_num, by omega, by omega, by rw [sift_size _ _ _ _ _ (Nat.le_refl _)]; exact hss, H7, H6⟩
            case measure => (simp [intOf]; try omega)
          · have hm1i : (0 : Int) < (m : Int) := by omega
            go_wp2_with fail
            go_region
            have hsw := HW2.out.swap (i := a) (j := a + m) (by omega) (by omega) 1
            rw [← HG.out, ← HG.out] at hsw
            have hss : (swp dj a (a + m)).size = n := by rw [size_swp]; exact hsj
            have hho := hsw.holds HH.out (by omega)
            have H5 := Lib.hid hsw
            have hpp : heapPop So.lt a m (siftDown So.lt m a 0 (swp dj a (a + m))) = heapPop So.lt a h dk := by rw [← HP.out]; rfl
            have H6 := Lib.hid hpp
            clear hsw hcw hfw hpp
            go_wp2_with (first
              | (go_at_call 96; refine (sift_any g off n c 0 m a (swp dj a (a + m)) _ hss hho (by omega) hsz (by omega)).mono ?_; rintro e w2 ⟨rfl, h2⟩)
              | fail)
            have h3 := H5.out.trans h2 (sift_size _ _ _ _ _ (Nat.le_refl _))
            have H7 := Lib.hid h3
            clear h2 h3
            go_roundw
            case rel => exact ⟨m, (m : Int) - 1, siftDown So.lt m a 0 (swp dj a (a + m)), by go_num, by omega, by omega, by rw [sift_size _ _ _ _ _ (Nat.le_refl _)]; exact hss, H7, H6⟩
            case measure => (simp [intOf]; try omega)
        | zero =>
          obtain rfl : z = -1 := by omega
          go_wp2_with fail
          go_end0
          refine ⟨rfl, ?_⟩
          rw [HS.out, HQ.out, ← HD.out.1, ← HD.out.2, ← HP.out]
          exact HW2.out
end Go.Proofs.Ytamigcbodplmcaa
