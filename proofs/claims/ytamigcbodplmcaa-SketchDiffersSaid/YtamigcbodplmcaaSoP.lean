/- the library's sort of words: partitionOrdered, partitionEqualOrdered -/
import Derived.Test.YtamigcbodplmcaaSoB
import Derived.Deep.CutRange
namespace Go.Proofs.Ytamigcbodplmcaa
open Go Go.RowKit Go.ChangeShapes Go.WideShapes Go.Sort
section
variable {p : So.E → Bool} {d : Array So.E} {i j : Nat}
theorem scanUp_step (h : i ≤ j) (hp : p d[i]! = true) : scanUp p d j (i + 1) = scanUp p d j i := by
  rw [scanUp.eq_def p d j i, if_pos (by simp [h, hp])]
theorem scanUp_end (h : ¬ i ≤ j ∨ p d[i]! = false) : scanUp p d j i = i := by
  rw [scanUp.eq_def]
  rcases h with h | h
  · rw [if_neg (by simp [h])]
  · rw [if_neg (by simp [h])]
theorem scanDown_step (h : i ≤ j) (hj : 0 < j) (hp : p d[j]! = true) : scanDown p d i (j - 1) = scanDown p d i j := by
  cases j with
  | zero => omega
  | succ j => rw [scanDown, if_pos (by simp [h, hp])]; rfl
theorem scanDown_end (h : ¬ i ≤ j ∨ p d[j]! = false) : scanDown p d i j = j := by
  cases j with
  | zero => rfl
  | succ j =>
    rw [scanDown]
    rcases h with h | h
    · rw [if_neg (by simp; omega)]
    · rw [if_neg (by simp [h])]
theorem scanUp_le (p : So.E → Bool) (d : Array So.E) (h : i ≤ j + 1) : scanUp p d j i ≤ j + 1 := by
  obtain ⟨n, hn⟩ : ∃ n, n = j + 1 - i := ⟨_, rfl⟩
  induction n generalizing i with
  | zero => rw [scanUp_end (.inl (by omega))]; omega
  | succ n ih =>
    by_cases hp : p d[i]! = true
    · rw [← scanUp_step (by omega) hp]; exact ih (by omega) (by omega)
    · rw [scanUp_end (.inr (by simpa using hp))]; omega
theorem scanDown_ge (p : So.E → Bool) (d : Array So.E) (h : i ≤ j + 1) : i ≤ scanDown p d i j + 1 := by
  induction j with
  | zero => rw [show scanDown p d i 0 = 0 from rfl]; omega
  | succ j ih =>
    by_cases hp : i ≤ j + 1 ∧ p d[j + 1]! = true
    · rw [← scanDown_step hp.1 (by omega) hp.2]; exact ih (by omega)
    · rw [scanDown_end (by
        by_cases h2 : i ≤ j + 1
        · right
          cases hq : p d[j + 1]! with
          | false => rfl
          | true => exact (hp ⟨h2, hq⟩).elim
        · left; exact h2)]
      omega
theorem scanUp_stops (p : So.E → Bool) (d : Array So.E) (h : scanUp p d j i ≤ j) : p d[scanUp p d j i]! = false := by
  obtain ⟨n, hn⟩ : ∃ n, n = j + 1 - i := ⟨_, rfl⟩
  induction n generalizing i with
  | zero => have := scanUp_ge p d j i; omega
  | succ n ih =>
    by_cases hp : p d[i]! = true
    · rw [← scanUp_step (by omega) hp] at h ⊢; exact ih h (by omega)
    · have hp2 : p d[i]! = false := by simpa using hp
      rw [scanUp_end (.inr hp2)]; exact hp2
theorem scanDown_stops (p : So.E → Bool) (d : Array So.E) (hi : 0 < i) (h : i ≤ scanDown p d i j) : p d[scanDown p d i j]! = false := by
  induction j with
  | zero => rw [show scanDown p d i 0 = 0 from rfl] at h; omega
  | succ j ih =>
    by_cases hp : i ≤ j + 1 ∧ p d[j + 1]! = true
    · rw [← scanDown_step hp.1 (by omega) hp.2] at h ⊢; exact ih h
    · by_cases h2 : i ≤ j + 1
      · have hp2 : p d[j + 1]! = false := by
          cases hq : p d[j + 1]! with
          | false => rfl
          | true => exact (hp ⟨h2, hq⟩).elim
        rw [scanDown_end (.inr hp2)]; exact hp2
      · rw [scanDown_end (.inl h2)] at h; omega
theorem scans_apart {p q : So.E → Bool} {d : Array So.E} {i j I J : Nat} (hq : ∀ x, q x = !p x) (hI : scanUp p d j i = I) (hJ : scanDown q d I j = J) (hi : 0 < i) (h : ¬ I > J) : I < J := by
  have h1 := scanUp_ge p d j i
  have h2 := scanDown_le q d I j
  rcases Nat.eq_or_lt_of_le (Nat.le_of_not_lt h) with e | e
  · exfalso
    have h3 := scanUp_stops p d (j := j) (i := i) (by omega)
    have h4 := scanDown_stops q d (i := I) (j := j) (by omega) (by omega)
    rw [hI] at h3
    rw [hJ, hq, ← e, h3] at h4
    cases h4
  · exact e
end
theorem part_stop {d d1 : Array So.E} {a b p I J : Nat} (h1 : swp d a p = d1) (hI : scanUp (fun x => So.lt x d1[a]!) d1 (b - 1) (a + 1) = I) (hJ : scanDown (fun x => !So.lt x d1[a]!) d1 I (b - 1) = J) (h : I > J) : partition So.lt d a b p = (J, true, swp d1 J a) := by
  unfold partition
  simp only [h1, hI, hJ, if_pos h]
theorem part_go {d d1 dF : Array So.E} {a b p I J m : Nat} (h1 : swp d a p = d1) (hI : scanUp (fun x => So.lt x d1[a]!) d1 (b - 1) (a + 1) = I) (hJ : scanDown (fun x => !So.lt x d1[a]!) d1 I (b - 1) = J) (h : ¬ I > J) (hm : partLoop So.lt a (I + 1) (J - 1) (swp d1 I J) = (m, dF)) : partition So.lt d a b p = (m, false, swp dF m a) := by
  unfold partition
  simp only [h1, hI, hJ, if_neg h, hm]
theorem ploop_stop {d : Array So.E} {a i j I J : Nat} (hI : scanUp (fun x => So.lt x d[a]!) d j i = I) (hJ : scanDown (fun x => !So.lt x d[a]!) d I j = J) (h : I > J) : partLoop So.lt a i j d = (J, d) := by
  rw [partLoop_eq, hI, hJ, if_pos h]
theorem ploop_go {d : Array So.E} {a i j I J : Nat} (hI : scanUp (fun x => So.lt x d[a]!) d j i = I) (hJ : scanDown (fun x => !So.lt x d[a]!) d I j = J) (h : ¬ I > J) : partLoop So.lt a i j d = partLoop So.lt a (I + 1) (J - 1) (swp d I J) := by
  rw [partLoop_eq, hI, hJ, if_neg h]
set_option maxRecDepth 1000000 in
set_option maxHeartbeats 8000000 in
theorem part_any (g off n c a b p : Nat) (d : Array So.E) (w : World) (hn : d.size = n) (hH : Holds So.enc w g off d) (hap : a ≤ p) (hpb : p < b) (hb : b ≤ n) (hsz : n ≤ 1000000) :
    Calls Try.prog 92 #[.slice (some ⟨g, off, none⟩) n c, .int .i64 (a : Int), .int .i64 (b : Int), .int .i64 (p : Int)] w fun e w' =>
      e = .returned (.tuple #[.int .i64 ((partition So.lt d a b p).1 : Int), .bool (partition So.lt d a b p).2.1]) ∧ So.Is w g off (partition So.lt d a b p).2.2 w' := by
  have HH := Lib.hid hH
  obtain ⟨G0, hG, hcw, hfw⟩ := (So.Is.refl HH.out).fam HH.out hn hn
  have HG0 := Lib.hid hG
  clear hH hG
  obtain ⟨z, hz⟩ := cell_behind (w := w) (p := ⟨g, off + a, none⟩) (x := .int .u32 (nb32 (G0 p))) (hcw p (by omega))
  obtain ⟨d1, hd1⟩ : ∃ d1, swp d a p = d1 := ⟨_, rfl⟩
  have hs1 : d1.size = n := by rw [← hd1, size_swp]; exact hn
  have H1 := Lib.hid hd1
  clear hd1
  obtain ⟨J0, hJ0⟩ : ∃ J0, b - 1 = J0 := ⟨_, rfl⟩
  have hb1 : (b : Int) - 1 = (J0 : Int) := by omega
  have hbw : IntKind.i64.wrap (b - 1 : Int) = (J0 : Int) := by rw [IntWalk.i64_in _ (by omega)]; omega
  obtain ⟨I, hI⟩ : ∃ I, scanUp (fun x => So.lt x d1[a]!) d1 J0 (a + 1) = I := ⟨_, rfl⟩
  obtain ⟨J, hJ⟩ : ∃ J, scanDown (fun x => !So.lt x d1[a]!) d1 I J0 = J := ⟨_, rfl⟩
  have hI1 : a + 1 ≤ I := by rw [← hI]; exact scanUp_ge _ _ _ _
  have hI2 : I ≤ J0 + 1 := by rw [← hI]; exact scanUp_le _ _ (by omega)
  have hJ1 : J ≤ J0 := by rw [← hJ]; exact scanDown_le _ _ _ _
  have hJ2 : I ≤ J + 1 := by rw [← hJ]; exact scanDown_ge _ _ (by omega)
  have hb0 : J0 + 1 = b := by omega
  have HI := Lib.hid hI
  have HJ := Lib.hid hJ
  have HJ0 := Lib.hid hJ0
  clear hI hJ hJ0
  go_enter Try.func92, Try.ntmps92
  go_wp2_with fail
  go_region
  have hsw := (So.Is.refl HH.out).swap (i := a) (j := p) (by omega) (by omega) 1
  rw [← HG0.out, ← HG0.out, H1.out] at hsw
  have HW := Lib.hid hsw
  clear hsw hz hcw hfw
  go_upto_region 2 with fail
  go_cut [10, 11] from 12 (fun vi vj wr => vi = .int .i64 ((a : Int) + 1) ∧ vj = .int .i64 (J0 : Int) ∧ RowKit.Hid (So.Is w g off d1 wr))
  case first =>
    go_wp2_with fail
    go_meet
    case rel => exact ⟨rfl, rfl, HW⟩
  case rest =>
    obtain ⟨rfl, rfl, HW1⟩ := hcut
    clear HW
    go_step
    go_step
    go_cut [10] from 12 (fun v wr => v = .int .i64 (I : Int) ∧ RowKit.Hid (So.Is w g off d1 wr))
    case first =>
      go_wp2_with fail
      go_loopw [10] (fun v wr => ∃ (k : Nat), v = .int .i64 (k : Int) ∧ (a + 1) ≤ k ∧ k ≤ J0 + 1 ∧ RowKit.Hid (So.Is w g off d1 wr) ∧ RowKit.Hid (scanUp (fun x => So.lt x d1[a]!) d1 J0 k = I)) (fun v _ => J0 + 1 - (intOf v).toNat)
      case atStart => exact ⟨(a + 1), by go_num, by omega, by omega, HW1, HI⟩
      case round =>
        obtain ⟨k, rfl, hk1, hk2, HK1, HK2⟩ := hrel
        obtain ⟨G, hG, hcw, hfw⟩ := HK1.out.fam HH.out hn hs1
        have HG := Lib.hid hG
        clear hG
        by_cases hle : k ≤ J0
        · have hlei : (k : Int) ≤ (J0 : Int) := by omega
          go_wp2_with fail
          go_big_quiet (first | (go_at_call 90; refine Calls.quiet_of_same (less_any _ _ _)))
          by_cases hl : So.lt (G k) (G a) = true
          · rw [hl]
            have hst := HK2.out
            rw [← scanUp_step hle (by show _ = true; rw [← HG.out, ← HG.out, hl])] at hst
            have HN := Lib.hid hst
            clear hst
            go_wp2_with fail
            go_roundw
            case rel => exact ⟨k + 1, by go_num, by omega, by omega, Lib.hid (HK1.out.draws nq), HN⟩
            case measure => (simp [intOf]; try omega)
          · have hl2 : So.lt (G k) (G a) = false := by simpa using hl
            rw [hl2]
            have hst := HK2.out
            rw [scanUp_end (.inr (by show _ = false; rw [← HG.out, ← HG.out, hl2]))] at hst
            have HN := Lib.hid hst
            clear hst
            go_wp2_with fail
            go_meet
            case rel => exact ⟨by rw [HN.out], Lib.hid (HK1.out.draws nq)⟩
        · have hlei : ¬ (k : Int) ≤ (J0 : Int) := by omega
          have hled : decide ((k : Int) ≤ (J0 : Int)) = false := decide_eq_false hlei
          have hst := HK2.out
          rw [scanUp_end (.inl hle)] at hst
          have HN := Lib.hid hst
          clear hst
          go_wp2_with fail
          go_big_quiet (first | (go_at_call 90; refine Calls.quiet_of_same (less_any _ _ _)))
          go_wp2_with fail
          go_meet
          case rel => exact ⟨by rw [HN.out], Lib.hid (HK1.out.draws nq)⟩
    case rest =>
      obtain ⟨rfl, HW2⟩ := hcut
      clear HW1
      go_step
      go_step
      go_cut [11] from 12 (fun v wr => v = .int .i64 (J : Int) ∧ RowKit.Hid (So.Is w g off d1 wr))
      case first =>
        go_wp2_with fail
        go_loopw [11] (fun v wr => ∃ (k : Nat), v = .int .i64 (k : Int) ∧ k ≤ J0 ∧ I ≤ k + 1 ∧ RowKit.Hid (So.Is w g off d1 wr) ∧ RowKit.Hid (scanDown (fun x => !So.lt x d1[a]!) d1 I k = J)) (fun v _ => (intOf v).toNat)
        case atStart => exact ⟨J0, by go_num, by omega, by omega, HW2, HJ⟩
        case round =>
          obtain ⟨k, rfl, hk1, hk2, HK1, HK2⟩ := hrel
          obtain ⟨G, hG, hcw, hfw⟩ := HK1.out.fam HH.out hn hs1
          have HG := Lib.hid hG
          clear hG
          by_cases hle : I ≤ k
          · have hlei : (I : Int) ≤ (k : Int) := by omega
            go_wp2_with fail
            go_big_quiet (first | (go_at_call 90; refine Calls.quiet_of_same (less_any _ _ _)))
            by_cases hl : So.lt (G k) (G a) = false
            · rw [hl]
              have hst := HK2.out
              rw [← scanDown_step hle (by omega) (by show _ = true; rw [← HG.out, ← HG.out, hl]; rfl)] at hst
              have HN := Lib.hid hst
              clear hst
              go_wp2_with fail
              go_roundw
              case rel => exact ⟨k - 1, by go_num, by omega, by omega, Lib.hid (HK1.out.draws nq), HN⟩
              case measure => (simp [intOf]; try omega)
            · have hl2 : So.lt (G k) (G a) = true := by simpa using hl
              rw [hl2]
              have hst := HK2.out
              rw [scanDown_end (.inr (by show _ = false; rw [← HG.out, ← HG.out, hl2]; rfl))] at hst
              have HN := Lib.hid hst
              clear hst
              go_wp2_with fail
              go_meet
              case rel => exact ⟨by rw [HN.out], Lib.hid (HK1.out.draws nq)⟩
          · have hlei : ¬ (I : Int) ≤ (k : Int) := by omega
            have hled : decide ((I : Int) ≤ (k : Int)) = false := decide_eq_false hlei
            have hst := HK2.out
            rw [scanDown_end (.inl hle)] at hst
            have HN := Lib.hid hst
            clear hst
            go_wp2_with fail
            go_big_quiet (first | (go_at_call 90; refine Calls.quiet_of_same (less_any _ _ _)))
            go_wp2_with fail
            go_meet
            case rel => exact ⟨by rw [HN.out], Lib.hid (HK1.out.draws nq)⟩
      case rest =>
        obtain ⟨rfl, HW3⟩ := hcut
        clear HW2
        obtain ⟨G, hG, hcw, hfw⟩ := HW3.out.fam HH.out hn hs1
        have HG := Lib.hid hG
        clear hG
        by_cases hIJ : I > J
        · have hIJi : (I : Int) > (J : Int) := by omega
          obtain ⟨z, hz⟩ := cell_behind (w := wc) (p := ⟨g, off + J, none⟩) (x := .int .u32 (nb32 (G a))) (hcw a (by omega))
          have hpt := part_stop H1.out (by rw [HJ0.out]; exact HI.out) (by rw [HJ0.out]; exact HJ.out) hIJ
          have HP := Lib.hid hpt
          clear hpt
          go_wp2_with fail
          go_region
          have hsw := HW3.out.swap (i := J) (j := a) (by omega) (by omega) 1
          rw [← HG.out, ← HG.out] at hsw
          have HW4 := Lib.hid hsw
          clear hsw hcw hfw hz
          go_wp2_with fail
          go_ret2
          rw [HP.out]
          exact ⟨rfl, HW4.out⟩
        · have hIJi : ¬ (I : Int) > (J : Int) := by omega
          obtain ⟨z, hz⟩ := cell_behind (w := wc) (p := ⟨g, off + I, none⟩) (x := .int .u32 (nb32 (G J))) (hcw J (by omega))
          go_wp2_with fail
          go_region
          have hsw := HW3.out.swap (i := I) (j := J) (by omega) (by omega) 1
          rw [← HG.out, ← HG.out] at hsw
          have HW4 := Lib.hid hsw
          clear hsw hcw hfw hz
          go_wp2_with fail
          have hIJ2 := scans_apart (q := fun x => !So.lt x d1[a]!) (fun _ => rfl) HI.out HJ.out (by omega) hIJ
          have hJ1i : IntKind.i64.wrap ((J : Int) - 1) = (J : Int) - 1 := IntWalk.i64_in _ (by omega)
          obtain ⟨m, dF, hm⟩ : ∃ m dF, partLoop So.lt a (I + 1) (J - 1) (swp d1 I J) = (m, dF) := ⟨_, _, rfl⟩
          have hpt := part_go H1.out (by rw [HJ0.out]; exact HI.out) (by rw [HJ0.out]; exact HJ.out) hIJ hm
          have HP := Lib.hid hpt
          have HM := Lib.hid hm
          clear hpt hm
          rename World => wB
          go_loopw [10, 11] (fun vi vj wr => ∃ (i j : Nat) (dk : Array So.E), vi = .int .i64 (i : Int) ∧ vj = .int .i64 (j : Int) ∧ a < i ∧ i ≤ j + 1 ∧ j < b ∧ dk.size = n ∧ RowKit.Hid (So.Is w g off dk wr) ∧ RowKit.Hid (partLoop So.lt a i j dk = (m, dF))) (fun vi vj _ => (intOf vj).toNat + 1 - (intOf vi).toNat)
          case atStart => exact ⟨I + 1, J - 1, swp d1 I J, by go_num, by go_num, by omega, by omega, by omega, by rw [size_swp]; exact hs1, HW4, HM⟩
          case round =>
            obtain ⟨i, j, dk, rfl, rfl, hai, hij, hjb, hsk, HWk, HMk⟩ := hrel
            obtain ⟨I2, hI2'⟩ : ∃ I2, scanUp (fun x => So.lt x dk[a]!) dk j i = I2 := ⟨_, rfl⟩
            obtain ⟨J2, hJ2'⟩ : ∃ J2, scanDown (fun x => !So.lt x dk[a]!) dk I2 j = J2 := ⟨_, rfl⟩
            have hI21 : i ≤ I2 := by rw [← hI2']; exact scanUp_ge _ _ _ _
            have hI22 : I2 ≤ j + 1 := by rw [← hI2']; exact scanUp_le _ _ (by omega)
            have hJ21 : J2 ≤ j := by rw [← hJ2']; exact scanDown_le _ _ _ _
            have hJ22 : I2 ≤ J2 + 1 := by rw [← hJ2']; exact scanDown_ge _ _ (by omega)
            have HI2 := Lib.hid hI2'
            have HJ2 := Lib.hid hJ2'
            clear hI2' hJ2' HI HJ HM HW4 HW3 H1
            go_step
            go_step
            go_step
            go_cut [10] from 99 to 152 (fun v wr => v = .int .i64 (I2 : Int) ∧ RowKit.Hid (So.Is w g off dk wr))
            case first =>
              go_wp2_with fail
              go_loopw [10] (fun v wr => ∃ (k : Nat), v = .int .i64 (k : Int) ∧ i ≤ k ∧ k ≤ j + 1 ∧ RowKit.Hid (So.Is w g off dk wr) ∧ RowKit.Hid (scanUp (fun x => So.lt x dk[a]!) dk j k = I2)) (fun v _ => j + 1 - (intOf v).toNat)
              case atStart => exact ⟨i, by go_num, by omega, by omega, HWk, HI2⟩
              case round =>
                obtain ⟨k, rfl, hk1, hk2, HK1, HK2⟩ := hrel
                obtain ⟨G, hG, hcw, hfw⟩ := HK1.out.fam HH.out hn hsk
                have HG := Lib.hid hG
                clear hG
                by_cases hle : k ≤ j
                · have hlei : (k : Int) ≤ (j : Int) := by omega
                  go_wp2_with fail
                  go_big_quiet (first | (go_at_call 90; refine Calls.quiet_of_same (less_any _ _ _)))
                  by_cases hl : So.lt (G k) (G a) = true
                  · rw [hl]
                    have hst := HK2.out
                    rw [← scanUp_step hle (by show _ = true; rw [← HG.out, ← HG.out, hl])] at hst
                    have HN := Lib.hid hst
                    clear hst
                    go_wp2_with fail
                    go_roundw
                    case rel => exact ⟨k + 1, by go_num, by omega, by omega, Lib.hid (HK1.out.draws nq), HN⟩
                    case measure => (simp [intOf]; try omega)
                  · have hl2 : So.lt (G k) (G a) = false := by simpa using hl
                    rw [hl2]
                    have hst := HK2.out
                    rw [scanUp_end (.inr (by show _ = false; rw [← HG.out, ← HG.out, hl2]))] at hst
                    have HN := Lib.hid hst
                    clear hst
                    go_wp2_with fail
                    go_meet
                    case rel => exact ⟨by rw [HN.out], Lib.hid (HK1.out.draws nq)⟩
                · have hlei : ¬ (k : Int) ≤ (j : Int) := by omega
                  have hled : decide ((k : Int) ≤ (j : Int)) = false := decide_eq_false hlei
                  have hst := HK2.out
                  rw [scanUp_end (.inl hle)] at hst
                  have HN := Lib.hid hst
                  clear hst
                  go_wp2_with fail
                  go_big_quiet (first | (go_at_call 90; refine Calls.quiet_of_same (less_any _ _ _)))
                  go_wp2_with fail
                  go_meet
                  case rel => exact ⟨by rw [HN.out], Lib.hid (HK1.out.draws nq)⟩
            case rest =>
              obtain ⟨rfl, HW5⟩ := hcut
              clear HWk
              go_step
              go_step
              go_cut [11] from 99 to 152 (fun v wr => v = .int .i64 (J2 : Int) ∧ RowKit.Hid (So.Is w g off dk wr))
              case first =>
                go_wp2_with fail
                go_loopw [11] (fun v wr => ∃ (k : Nat), v = .int .i64 (k : Int) ∧ k ≤ j ∧ I2 ≤ k + 1 ∧ RowKit.Hid (So.Is w g off dk wr) ∧ RowKit.Hid (scanDown (fun x => !So.lt x dk[a]!) dk I2 k = J2)) (fun v _ => (intOf v).toNat)
                case atStart => exact ⟨j, by go_num, by omega, by omega, HW5, HJ2⟩
                case round =>
                  obtain ⟨k, rfl, hk1, hk2, HK1, HK2⟩ := hrel
                  obtain ⟨G, hG, hcw, hfw⟩ := HK1.out.fam HH.out hn hsk
                  have HG := Lib.hid hG
                  clear hG
                  by_cases hle : I2 ≤ k
                  · have hlei : (I2 : Int) ≤ (k : Int) := by omega
                    go_wp2_with fail
                    go_big_quiet (first | (go_at_call 90; refine Calls.quiet_of_same (less_any _ _ _)))
                    by_cases hl : So.lt (G k) (G a) = false
                    · rw [hl]
                      have hst := HK2.out
                      rw [← scanDown_step hle (by omega) (by show _ = true; rw [← HG.out, ← HG.out, hl]; rfl)] at hst
                      have HN := Lib.hid hst
                      clear hst
                      go_wp2_with fail
                      go_roundw
                      case rel => exact ⟨k - 1, by go_num, by omega, by omega, Lib.hid (HK1.out.draws nq), HN⟩
                      case measure => (simp [intOf]; try omega)
                    · have hl2 : So.lt (G k) (G a) = true := by simpa using hl
                      rw [hl2]
                      have hst := HK2.out
                      rw [scanDown_end (.inr (by show _ = false; rw [← HG.out, ← HG.out, hl2]; rfl))] at hst
                      have HN := Lib.hid hst
                      clear hst
                      go_wp2_with fail
                      go_meet
                      case rel => exact ⟨by rw [HN.out], Lib.hid (HK1.out.draws nq)⟩
                  · have hlei : ¬ (I2 : Int) ≤ (k : Int) := by omega
                    have hled : decide ((I2 : Int) ≤ (k : Int)) = false := decide_eq_false hlei
                    have hst := HK2.out
                    rw [scanDown_end (.inl hle)] at hst
                    have HN := Lib.hid hst
                    clear hst
                    go_wp2_with fail
                    go_big_quiet (first | (go_at_call 90; refine Calls.quiet_of_same (less_any _ _ _)))
                    go_wp2_with fail
                    go_meet
                    case rel => exact ⟨by rw [HN.out], Lib.hid (HK1.out.draws nq)⟩
              case rest =>
                obtain ⟨rfl, HW6⟩ := hcut
                clear HW5
                obtain ⟨G2, hG2, hcw, hfw⟩ := HW6.out.fam HH.out hn hsk
                have HG2 := Lib.hid hG2
                clear hG2
                by_cases hIJ3 : I2 > J2
                · have hIJi3 : (I2 : Int) > (J2 : Int) := by omega
                  obtain ⟨z, hz⟩ := cell_behind (w := wc) (p := ⟨g, off + J2, none⟩) (x := .int .u32 (nb32 (G2 a))) (hcw a (by omega))
                  have hfin := ploop_stop HI2.out HJ2.out hIJ3
                  rw [HMk.out, Prod.mk.injEq] at hfin
                  obtain ⟨hm1, hd2⟩ := hfin
                  have HF := Lib.hid (And.intro hm1 hd2)
                  clear hm1 hd2
                  go_wp2_with fail
                  go_region
                  have hsw := HW6.out.swap (i := J2) (j := a) (by omega) (by omega) 1
                  rw [← HG2.out, ← HG2.out] at hsw
                  have HW7 := Lib.hid hsw
                  clear hsw hcw hfw hz
                  go_wp2_with fail
                  go_ret2
                  rw [HP.out, HF.out.1, HF.out.2]
                  exact ⟨rfl, HW7.out⟩
                · have hIJi3 : ¬ (I2 : Int) > (J2 : Int) := by omega
                  have hap3 := scans_apart (q := fun x => !So.lt x dk[a]!) (fun _ => rfl) HI2.out HJ2.out (by omega) hIJ3
                  obtain ⟨z, hz⟩ := cell_behind (w := wc) (p := ⟨g, off + I2, none⟩) (x := .int .u32 (nb32 (G2 J2))) (hcw J2 (by omega))
                  have hgo := ploop_go HI2.out HJ2.out hIJ3
                  rw [HMk.out] at hgo
                  have HF := Lib.hid hgo.symm
                  have hJ2i : IntKind.i64.wrap ((J2 : Int) - 1) = (J2 : Int) - 1 := IntWalk.i64_in _ (by omega)
                  clear hgo
                  go_wp2_with fail
                  go_region
                  have hsw := HW6.out.swap (i := I2) (j := J2) (by omega) (by omega) 1
                  rw [← HG2.out, ← HG2.out] at hsw
                  have HW7 := Lib.hid hsw
                  clear hsw hcw hfw hz
                  go_wp2_with fail
                  go_roundw
                  case rel => exact ⟨I2 + 1, J2 - 1, swp dk I2 J2, by go_num, by go_num, by omega, by omega, by omega, by rw [size_swp]; exact hsk, HW7, HF⟩
                  case measure => (simp [intOf]; try omega)
theorem peloop_stop {d : Array So.E} {a i j I J : Nat} (hI : scanUp (fun x => !So.lt d[a]! x) d j i = I) (hJ : scanDown (fun x => So.lt d[a]! x) d I j = J) (h : I > J) : partEqLoop So.lt a i j d = (I, d) := by
  rw [partEqLoop_eq, hI, hJ, if_pos h]
theorem peloop_go {d : Array So.E} {a i j I J : Nat} (hI : scanUp (fun x => !So.lt d[a]! x) d j i = I) (hJ : scanDown (fun x => So.lt d[a]! x) d I j = J) (h : ¬ I > J) : partEqLoop So.lt a i j d = partEqLoop So.lt a (I + 1) (J - 1) (swp d I J) := by
  rw [partEqLoop_eq, hI, hJ, if_neg h]
set_option maxRecDepth 1000000 in
set_option maxHeartbeats 8000000 in
theorem parteq_any (g off n c a b p : Nat) (d : Array So.E) (w : World) (hn : d.size = n) (hH : Holds So.enc w g off d) (hap : a ≤ p) (hpb : p < b) (hb : b ≤ n) (hsz : n ≤ 1000000) :
    Calls Try.prog 91 #[.slice (some ⟨g, off, none⟩) n c, .int .i64 (a : Int), .int .i64 (b : Int), .int .i64 (p : Int)] w fun e w' =>
      e = .returned (.int .i64 ((partitionEqual So.lt d a b p).1 : Int)) ∧ So.Is w g off (partitionEqual So.lt d a b p).2 w' := by
  have HH := Lib.hid hH
  obtain ⟨G0, hG, hcw, hfw⟩ := (So.Is.refl HH.out).fam HH.out hn hn
  have HG0 := Lib.hid hG
  clear hH hG
  obtain ⟨z, hz⟩ := cell_behind (w := w) (p := ⟨g, off + a, none⟩) (x := .int .u32 (nb32 (G0 p))) (hcw p (by omega))
  obtain ⟨d1, hd1⟩ : ∃ d1, swp d a p = d1 := ⟨_, rfl⟩
  have hs1 : d1.size = n := by rw [← hd1, size_swp]; exact hn
  obtain ⟨J0, hJ0⟩ : ∃ J0, b - 1 = J0 := ⟨_, rfl⟩
  have hb1 : (b : Int) - 1 = (J0 : Int) := by omega
  have hbw : IntKind.i64.wrap (b - 1 : Int) = (J0 : Int) := by rw [IntWalk.i64_in _ (by omega)]; omega
  obtain ⟨m, dF, hm⟩ : ∃ m dF, partEqLoop So.lt a (a + 1) J0 d1 = (m, dF) := ⟨_, _, rfl⟩
  have hpe : partitionEqual So.lt d a b p = (m, dF) := by rw [partitionEqual, hd1, hJ0, hm]
  have hb0 : J0 + 1 = b := by omega
  have H1 := Lib.hid hd1
  have HM := Lib.hid hm
  have HP := Lib.hid hpe
  clear hd1 hm hpe hJ0
  go_enter Try.func91, Try.ntmps91
  go_wp2_with fail
  go_region
  have hsw := (So.Is.refl HH.out).swap (i := a) (j := p) (by omega) (by omega) 1
  rw [← HG0.out, ← HG0.out, H1.out] at hsw
  have HW := Lib.hid hsw
  clear hsw hz hcw hfw
  go_wp2_with fail
  go_loopw [9, 10] (fun vi vj wr => ∃ (i j : Nat) (dk : Array So.E), vi = .int .i64 (i : Int) ∧ vj = .int .i64 (j : Int) ∧ a < i ∧ i ≤ j + 1 ∧ j < b ∧ dk.size = n ∧ RowKit.Hid (So.Is w g off dk wr) ∧ RowKit.Hid (partEqLoop So.lt a i j dk = (m, dF))) (fun vi vj _ => (intOf vj).toNat + 1 - (intOf vi).toNat)
  case atStart => exact ⟨a + 1, J0, d1, by go_num, by go_num, by omega, by omega, by omega, hs1, HW, HM⟩
  case round =>
    obtain ⟨i, j, dk, rfl, rfl, hai, hij, hjb, hsk, HWk, HMk⟩ := hrel
    obtain ⟨I2, hI2'⟩ : ∃ I2, scanUp (fun x => !So.lt dk[a]! x) dk j i = I2 := ⟨_, rfl⟩
    obtain ⟨J2, hJ2'⟩ : ∃ J2, scanDown (fun x => So.lt dk[a]! x) dk I2 j = J2 := ⟨_, rfl⟩
    have hI21 : i ≤ I2 := by rw [← hI2']; exact scanUp_ge _ _ _ _
    have hI22 : I2 ≤ j + 1 := by rw [← hI2']; exact scanUp_le _ _ (by omega)
    have hJ21 : J2 ≤ j := by rw [← hJ2']; exact scanDown_le _ _ _ _
    have hJ22 : I2 ≤ J2 + 1 := by rw [← hJ2']; exact scanDown_ge _ _ (by omega)
    have HI2 := Lib.hid hI2'
    have HJ2 := Lib.hid hJ2'
    clear hI2' hJ2' HM HW H1
    go_step
    go_step
    go_step
    go_cut [9] from 29 to 82 (fun v wr => v = .int .i64 (I2 : Int) ∧ RowKit.Hid (So.Is w g off dk wr))
    case first =>
      go_wp2_with fail
      go_loopw [9] (fun v wr => ∃ (k : Nat), v = .int .i64 (k : Int) ∧ i ≤ k ∧ k ≤ j + 1 ∧ RowKit.Hid (So.Is w g off dk wr) ∧ RowKit.Hid (scanUp (fun x => !So.lt dk[a]! x) dk j k = I2)) (fun v _ => j + 1 - (intOf v).toNat)
      case atStart => exact ⟨i, by go_num, by omega, by omega, HWk, HI2⟩
      case round =>
        obtain ⟨k, rfl, hk1, hk2, HK1, HK2⟩ := hrel
        obtain ⟨G, hG, hcw, hfw⟩ := HK1.out.fam HH.out hn hsk
        have HG := Lib.hid hG
        clear hG
        by_cases hle : k ≤ j
        · have hlei : (k : Int) ≤ (j : Int) := by omega
          go_wp2_with fail
          go_big_quiet (first | (go_at_call 90; refine Calls.quiet_of_same (less_any _ _ _)))
          by_cases hl : So.lt (G a) (G k) = false
          · rw [hl]
            have hst := HK2.out
            rw [← scanUp_step hle (by show _ = true; rw [← HG.out, ← HG.out, hl]; rfl)] at hst
            have HN := Lib.hid hst
            clear hst
            go_wp2_with fail
            go_roundw
            case rel => exact ⟨k + 1, by go_num, by omega, by omega, Lib.hid (HK1.out.draws nq), HN⟩
            case measure => (simp [intOf]; try omega)
          · have hl2 : So.lt (G a) (G k) = true := by simpa using hl
            rw [hl2]
            have hst := HK2.out
            rw [scanUp_end (.inr (by show _ = false; rw [← HG.out, ← HG.out, hl2]; rfl))] at hst
            have HN := Lib.hid hst
            clear hst
            go_wp2_with fail
            go_meet
            case rel => exact ⟨by rw [HN.out], Lib.hid (HK1.out.draws nq)⟩
        · have hlei : ¬ (k : Int) ≤ (j : Int) := by omega
          have hled : decide ((k : Int) ≤ (j : Int)) = false := decide_eq_false hlei
          have hst := HK2.out
          rw [scanUp_end (.inl hle)] at hst
          have HN := Lib.hid hst
          clear hst
          go_wp2_with fail
          go_big_quiet (first | (go_at_call 90; refine Calls.quiet_of_same (less_any _ _ _)))
          go_wp2_with fail
          go_meet
          case rel => exact ⟨by rw [HN.out], Lib.hid (HK1.out.draws nq)⟩
    case rest =>
      obtain ⟨rfl, HW5⟩ := hcut
      clear HWk
      go_step
      go_step
      go_cut [10] from 29 to 82 (fun v wr => v = .int .i64 (J2 : Int) ∧ RowKit.Hid (So.Is w g off dk wr))
      case first =>
        go_wp2_with fail
        go_loopw [10] (fun v wr => ∃ (k : Nat), v = .int .i64 (k : Int) ∧ k ≤ j ∧ I2 ≤ k + 1 ∧ RowKit.Hid (So.Is w g off dk wr) ∧ RowKit.Hid (scanDown (fun x => So.lt dk[a]! x) dk I2 k = J2)) (fun v _ => (intOf v).toNat)
        case atStart => exact ⟨j, by go_num, by omega, by omega, HW5, HJ2⟩
        case round =>
          obtain ⟨k, rfl, hk1, hk2, HK1, HK2⟩ := hrel
          obtain ⟨G, hG, hcw, hfw⟩ := HK1.out.fam HH.out hn hsk
          have HG := Lib.hid hG
          clear hG
          by_cases hle : I2 ≤ k
          · have hlei : (I2 : Int) ≤ (k : Int) := by omega
            go_wp2_with fail
            go_big_quiet (first | (go_at_call 90; refine Calls.quiet_of_same (less_any _ _ _)))
            by_cases hl : So.lt (G a) (G k) = true
            · rw [hl]
              have hst := HK2.out
              rw [← scanDown_step hle (by omega) (by show _ = true; rw [← HG.out, ← HG.out, hl])] at hst
              have HN := Lib.hid hst
              clear hst
              go_wp2_with fail
              go_roundw
              case rel => exact ⟨k - 1, by go_num, by omega, by omega, Lib.hid (HK1.out.draws nq), HN⟩
              case measure => (simp [intOf]; try omega)
            · have hl2 : So.lt (G a) (G k) = false := by simpa using hl
              rw [hl2]
              have hst := HK2.out
              rw [scanDown_end (.inr (by show _ = false; rw [← HG.out, ← HG.out, hl2]))] at hst
              have HN := Lib.hid hst
              clear hst
              go_wp2_with fail
              go_meet
              case rel => exact ⟨by rw [HN.out], Lib.hid (HK1.out.draws nq)⟩
          · have hlei : ¬ (I2 : Int) ≤ (k : Int) := by omega
            have hled : decide ((I2 : Int) ≤ (k : Int)) = false := decide_eq_false hlei
            have hst := HK2.out
            rw [scanDown_end (.inl hle)] at hst
            have HN := Lib.hid hst
            clear hst
            go_wp2_with fail
            go_big_quiet (first | (go_at_call 90; refine Calls.quiet_of_same (less_any _ _ _)))
            go_wp2_with fail
            go_meet
            case rel => exact ⟨by rw [HN.out], Lib.hid (HK1.out.draws nq)⟩
      case rest =>
        obtain ⟨rfl, HW6⟩ := hcut
        clear HW5
        obtain ⟨G2, hG2, hcw, hfw⟩ := HW6.out.fam HH.out hn hsk
        have HG2 := Lib.hid hG2
        clear hG2
        by_cases hIJ3 : I2 > J2
        · have hIJi3 : (I2 : Int) > (J2 : Int) := by omega
          have hfin := peloop_stop HI2.out HJ2.out hIJ3
          rw [HMk.out, Prod.mk.injEq] at hfin
          obtain ⟨hm1, hd2⟩ := hfin
          have HF := Lib.hid (And.intro hm1 hd2)
          clear hm1 hd2 hcw hfw
          go_wp2_with fail
          go_ret
          rw [HP.out, HF.out.1, HF.out.2]
          exact ⟨rfl, HW6.out⟩
        · have hIJi3 : ¬ (I2 : Int) > (J2 : Int) := by omega
          have hap3 := scans_apart (q := fun x => So.lt dk[a]! x) (fun x => by simp) HI2.out HJ2.out (by omega) hIJ3
          obtain ⟨z, hz⟩ := cell_behind (w := wc) (p := ⟨g, off + I2, none⟩) (x := .int .u32 (nb32 (G2 J2))) (hcw J2 (by omega))
          have hgo := peloop_go HI2.out HJ2.out hIJ3
          rw [HMk.out] at hgo
          have HF := Lib.hid hgo.symm
          have hJ2i : IntKind.i64.wrap ((J2 : Int) - 1) = (J2 : Int) - 1 := IntWalk.i64_in _ (by omega)
          clear hgo
          go_wp2_with fail
          go_region
          have hsw := HW6.out.swap (i := I2) (j := J2) (by omega) (by omega) 1
          rw [← HG2.out, ← HG2.out] at hsw
          have HW7 := Lib.hid hsw
          clear hsw hcw hfw hz
          go_wp2_with fail
          go_roundw
          case rel => exact ⟨I2 + 1, J2 - 1, swp dk I2 J2, by go_num, by go_num, by omega, by omega, by omega, by rw [size_swp]; exact hsk, HW7, HF⟩
          case measure => (simp [intOf]; try omega)
end Go.Proofs.Ytamigcbodplmcaa
