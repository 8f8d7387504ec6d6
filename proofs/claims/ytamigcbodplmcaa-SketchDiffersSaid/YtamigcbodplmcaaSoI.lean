/- the library's sort of words: partialInsertionSortOrdered -/
import Derived.Test.YtamigcbodplmcaaSoB
import Derived.Deep.CutRange
namespace Go.Proofs.Ytamigcbodplmcaa
open Go Go.RowKit Go.ChangeShapes Go.WideShapes Go.Sort
section
variable {d : Array So.E} {b i j : Nat}
theorem scanS_step (h : i < b) (hp : So.lt d[i]! d[i - 1]! = false) : scanSorted So.lt d b (i + 1) = scanSorted So.lt d b i := by
  rw [scanSorted.eq_def So.lt d b i, if_pos (by simp [h, hp])]
theorem scanS_end (h : ¬ i < b ∨ So.lt d[i]! d[i - 1]! = true) : scanSorted So.lt d b i = i := by
  rw [scanSorted.eq_def]
  rcases h with h | h
  · rw [if_neg (by simp [h])]
  · rw [if_neg (by simp [h])]
theorem scanS_in (h : i ≤ b) : i ≤ scanSorted So.lt d b i ∧ scanSorted So.lt d b i ≤ b := by
  obtain ⟨n, hn⟩ : ∃ n, n = b - i := ⟨_, rfl⟩
  induction n generalizing i with
  | zero => rw [scanS_end (.inl (by omega))]; omega
  | succ n ih =>
    by_cases hp : So.lt d[i]! d[i - 1]! = true
    · rw [scanS_end (.inr hp)]; omega
    · rw [← scanS_step (by omega) (by simpa using hp)]
      have := ih (i := i + 1) (by omega) (by omega)
      omega
theorem shiftD_go (hj : 0 < j) (hp : So.lt d[j]! d[j - 1]! = true) : shiftDown So.lt (j - 1) (swp d j (j - 1)) = shiftDown So.lt j d := by
  cases j with
  | zero => omega
  | succ j => rw [show j + 1 - 1 = j from rfl] at *; rw [shiftDown, if_neg (by simp [hp])]
theorem shiftD_end (h : j = 0 ∨ So.lt d[j]! d[j - 1]! = false) : shiftDown So.lt j d = d := by
  cases j with
  | zero => rfl
  | succ j =>
    rcases h with h | h
    · omega
    · rw [show j + 1 - 1 = j from rfl] at h; rw [shiftDown, if_pos (by simp [h])]
theorem shiftU_go (hj : j < b) (hp : So.lt d[j]! d[j - 1]! = true) : shiftUp So.lt b (j + 1) (swp d j (j - 1)) = shiftUp So.lt b j d := by
  rw [shiftUp.eq_def So.lt b j d, if_pos hj, if_neg (by simp [hp])]
theorem shiftU_end (h : ¬ j < b ∨ So.lt d[j]! d[j - 1]! = false) : shiftUp So.lt b j d = d := by
  rw [shiftUp.eq_def]
  by_cases hj : j < b
  · rw [if_pos hj]
    rcases h with h | h
    · exact (h hj).elim
    · rw [if_pos (by simp [h])]
  · rw [if_neg hj]
theorem shiftD_size : ∀ (j : Nat) (d : Array So.E), (shiftDown So.lt j d).size = d.size
  | 0, _ => rfl
  | j + 1, d => by
    rw [shiftDown]
    split
    · rfl
    · rw [shiftD_size j, size_swp]
theorem shiftU_size (b : Nat) : ∀ (k j : Nat) (d : Array So.E), b - j ≤ k → (shiftUp So.lt b j d).size = d.size := by
  intro k
  induction k with
  | zero => intro j d h; rw [shiftU_end (.inl (by omega))]
  | succ k ih =>
    intro j d h
    by_cases hj : j < b
    · by_cases hp : So.lt d[j]! d[j - 1]! = true
      · rw [← shiftU_go hj hp, ih _ _ (by omega), size_swp]
      · rw [shiftU_end (.inr (by simpa using hp))]
    · rw [shiftU_end (.inl hj)]
theorem fixD_size (a i : Nat) (d : Array So.E) : (fixDown So.lt a i d).size = d.size := by
  unfold fixDown
  split
  · exact shiftD_size _ _
  · rfl
theorem fixU_size (b i : Nat) (d : Array So.E) : (fixUp So.lt b i d).size = d.size := by
  unfold fixUp
  split
  · exact shiftU_size _ _ _ _ (Nat.le_refl _)
  · rfl
end
set_option maxRecDepth 1000000 in
set_option maxHeartbeats 8000000 in
theorem partial_any (g off n c a b : Nat) (d : Array So.E) (w : World) (hn : d.size = n) (hH : Holds So.enc w g off d) (hab : a < b) (hb : b ≤ n) (hsz : n ≤ 1000000) :
    Calls Try.prog 89 #[.slice (some ⟨g, off, none⟩) n c, .int .i64 (a : Int), .int .i64 (b : Int)] w fun e w' =>
      e = .returned (.bool (partialInsertionSort So.lt d a b).2) ∧ So.Is w g off (partialInsertionSort So.lt d a b).1 w' := by
  have HH := Lib.hid hH
  obtain ⟨dF, r, hF⟩ : ∃ dF r, partialInsertionSort So.lt d a b = (dF, r) := ⟨_, _, rfl⟩
  have hF2 : partialIns So.lt a b 5 (a + 1) d = (dF, r) := hF
  rw [hF]
  have HF := Lib.hid hF2
  clear hH hF hF2
  go_enter Try.func89, Try.ntmps89
  go_wp2
  go_loopw [7, 8] (fun vi vs wr => ∃ (i s : Nat) (z : Int) (dk : Array So.E), vi = .int .i64 (i : Int) ∧ vs = .int .i64 z ∧ z + (s : Int) = 5 ∧ s ≤ 5 ∧ a < i ∧ i ≤ b ∧ dk.size = n ∧ RowKit.Hid (So.Is w g off dk wr) ∧ RowKit.Hid (partialIns So.lt a b s i dk = (dF, r))) (fun _ vs _ => (5 - intOf vs).toNat)
  case atStart => exact ⟨a + 1, 5, 0, d, by go_num, rfl, rfl, Nat.le_refl _, by omega, by omega, hn, Lib.hid (So.Is.refl HH.out), HF⟩
  case round =>
    obtain ⟨i, s, z, dk, rfl, rfl, hz5, hs5, hai, hib, hsk, HW, HP⟩ := hrel
    cases s with
    | zero =>
      have h5 : ¬ z < 5 := by omega
      have hz := HP.out
      rw [partialIns, Prod.mk.injEq] at hz
      have HZ := Lib.hid hz
      clear hz
      go_wp2_with fail
      go_ret
      rw [← HZ.out.1, ← HZ.out.2]
      exact ⟨rfl, HW.out⟩
    | succ s =>
      have h5 : z < 5 := by omega
      have h5w : IntKind.i64.wrap (z + 1) = z + 1 := IntWalk.i64_in _ (by omega)
      obtain ⟨I, hI⟩ : ∃ I, scanSorted So.lt dk b i = I := ⟨_, rfl⟩
      have hI1 := (scanS_in (d := dk) hib).1
      have hI2 := (scanS_in (d := dk) hib).2
      rw [hI] at hI1 hI2
      have HI := Lib.hid hI
      have hps := HP.out
      rw [partialIns_succ, hI] at hps
      have HPS := Lib.hid hps
      clear hI hps HP
      go_upto_if 14 with fail
      go_step
      go_step
      go_step
      go_step
      go_step
      go_step
      go_step
      go_cut [7] from 13 to 132 (fun v wr => v = .int .i64 (I : Int) ∧ RowKit.Hid (So.Is w g off dk wr))
      case first =>
        go_wp2_with fail
        go_loopw [7] (fun v wr => ∃ (k : Nat), v = .int .i64 (k : Int) ∧ i ≤ k ∧ k ≤ b ∧ RowKit.Hid (So.Is w g off dk wr) ∧ RowKit.Hid (scanSorted So.lt dk b k = I)) (fun v _ => b - (intOf v).toNat)
        case atStart => exact ⟨i, rfl, Nat.le_refl _, hib, HW, HI⟩
        case round =>
          obtain ⟨k, rfl, hk1, hk2, HK1, HK2⟩ := hrel
          obtain ⟨G, hG, hcw, hfw⟩ := HK1.out.fam HH.out hn hsk
          have HG := Lib.hid hG
          clear hG
          have hkw : IntKind.i64.wrap ((k : Int) - 1) = (k : Int) - 1 := IntWalk.i64_in _ (by omega)
          by_cases hle : k < b
          · have hlei : (k : Int) < (b : Int) := by omega
            go_wp2_with fail
            go_big_quiet (first | (go_at_call 90; refine Calls.quiet_of_same (less_any _ _ _)))
            by_cases hl : So.lt (G k) (G (k - 1)) = false
            · rw [hl]
              have hst := HK2.out
              rw [← scanS_step hle (by rw [← HG.out, ← HG.out]; exact hl)] at hst
              have HN := Lib.hid hst
              clear hst
              go_wp2_with fail
              go_roundw
              case rel => exact ⟨k + 1, by go_num, by omega, by omega, Lib.hid (HK1.out.draws nq), HN⟩
              case measure => (simp [intOf]; try omega)
            · have hl2 : So.lt (G k) (G (k - 1)) = true := by simpa using hl
              rw [hl2]
              have hst := HK2.out
              rw [scanS_end (.inr (by rw [← HG.out, ← HG.out]; exact hl2))] at hst
              have HN := Lib.hid hst
              clear hst
              go_wp2_with fail
              go_meet
              case rel => exact ⟨by rw [HN.out], Lib.hid (HK1.out.draws nq)⟩
          · have hlei : ¬ (k : Int) < (b : Int) := by omega
            have hled : decide ((k : Int) < (b : Int)) = false := decide_eq_false hlei
            have hst := HK2.out
            rw [scanS_end (.inl hle)] at hst
            have HN := Lib.hid hst
            clear hst
            go_wp2_with fail
            go_big_quiet (first | (go_at_call 90; refine Calls.quiet_of_same (less_any _ _ _)))
            go_wp2_with fail
            go_meet
            case rel => exact ⟨by rw [HN.out], Lib.hid (HK1.out.draws nq)⟩
      case rest =>
        obtain ⟨rfl, HW1⟩ := hcut
        clear HW HI
        by_cases hIb : I = b
        · have hIbi : ((I : Int) == (b : Int)) = true := by simp [hIb]
          have hz := HPS.out
          rw [if_pos hIb, Prod.mk.injEq] at hz
          have HZ := Lib.hid hz
          have HIB := Lib.hid hIb
          clear hz hIb
          go_wp2_with fail
          go_ret
          rw [← HZ.out.1, ← HZ.out.2]
          exact ⟨rfl, HW1.out⟩
        · have hIbi : ((I : Int) == (b : Int)) = false := by rw [beq_eq_false_iff_ne]; omega
          have hIlt : I < b := by omega
          have hbaw : IntKind.i64.wrap ((b : Int) - (a : Int)) = (b : Int) - (a : Int) := IntWalk.i64_in _ (by omega)
          by_cases h50 : b - a < 50
          · have h50i : (b : Int) - (a : Int) < 50 := by omega
            have hz := HPS.out
            rw [if_neg hIb, if_pos h50, Prod.mk.injEq] at hz
            have HZ := Lib.hid hz
            clear hz
            go_wp2_with fail
            go_ret
            rw [← HZ.out.1, ← HZ.out.2]
            exact ⟨rfl, HW1.out⟩
          · have h50i : ¬ (b : Int) - (a : Int) < 50 := by omega
            have hz := HPS.out
            rw [if_neg hIb, if_neg h50] at hz
            obtain ⟨d2, hd2⟩ : ∃ d2, swp dk I (I - 1) = d2 := ⟨_, rfl⟩
            obtain ⟨d3, hd3⟩ : ∃ d3, fixDown So.lt a I d2 = d3 := ⟨_, rfl⟩
            obtain ⟨d4, hd4⟩ : ∃ d4, fixUp So.lt b I d3 = d4 := ⟨_, rfl⟩
            have hs2 : d2.size = n := by rw [← hd2, size_swp]; exact hsk
            have hs3 : d3.size = n := by rw [← hd3, fixD_size]; exact hs2
            have hs4 : d4.size = n := by rw [← hd4, fixU_size]; exact hs3
            rw [hd2, hd3, hd4] at hz
            have HZ := Lib.hid hz
            have HD2 := Lib.hid hd2
            have HD3 := Lib.hid hd3
            have HD4 := Lib.hid hd4
            clear hz hd2 hd3 hd4 HPS
            obtain ⟨G, hG, hcw, hfw⟩ := HW1.out.fam HH.out hn hsk
            have HG := Lib.hid hG
            clear hG
            have hIw : IntKind.i64.wrap ((I : Int) - 1) = (I : Int) - 1 := IntWalk.i64_in _ (by omega)
            go_wp2_with fail
            go_region
            have hsw := HW1.out.swap (i := I) (j := I - 1) (by omega) (by omega) 1
            rw [← HG.out, ← HG.out, HD2.out] at hsw
            have HW2 := Lib.hid hsw
            clear hsw hcw hfw
            have hIaw : IntKind.i64.wrap ((I : Int) - (a : Int)) = (I : Int) - (a : Int) := IntWalk.i64_in _ (by omega)
            have hbIw : IntKind.i64.wrap ((b : Int) - (I : Int)) = (b : Int) - (I : Int) := IntWalk.i64_in _ (by omega)
            go_upto_if 61 with fail
            go_cut [] from 13 to 132 (fun wr => RowKit.Hid (So.Is w g off d3 wr))
            case first =>
              by_cases h2 : I - a ≥ 2
              · have h2i : (I : Int) - (a : Int) ≥ 2 := by omega
                have hDn := HD3.out
                rw [fixDown, if_pos h2] at hDn
                have HD := Lib.hid hDn
                clear hDn
                go_wp2_with fail
                rename World => wB
                go_loopw [9] (fun v wr => ∃ (k : Nat) (dj : Array So.E), v = .int .i64 (k : Int) ∧ k + 1 ≤ I ∧ dj.size = n ∧ RowKit.Hid (So.Is w g off dj wr) ∧ RowKit.Hid (shiftDown So.lt k dj = d3)) (fun v _ => (intOf v).toNat)
                case atStart => exact ⟨I - 1, d2, by go_num, by omega, hs2, HW2, HD⟩
                case round =>
                  obtain ⟨k, dj, rfl, hk1, hsj, HK1, HK2⟩ := hrel
                  have hkw : IntKind.i64.wrap ((k : Int) - 1) = (k : Int) - 1 := IntWalk.i64_in _ (by omega)
                  by_cases hle : 1 ≤ k
                  · have hlei : (k : Int) ≥ 1 := by omega
                    obtain ⟨G, hG, hcw, hfw⟩ := HK1.out.fam HH.out hn hsj
                    have HG := Lib.hid hG
                    clear hG
                    go_wp2_with fail
                    go_big_quiet (first | (go_at_call 90; refine Calls.quiet_of_same (less_any _ _ _)))
                    have hz : RowKit.Hid (So.Is w g off dj (wr.drewN nq)) := Lib.hid (HK1.out.draws nq)
                    have hcz : ∀ t, t < n → (wr.drewN nq).cell? ⟨g, off + t, none⟩ = some (.int .u32 (nb32 (G t))) := hcw
                    have hfz : ∀ t, t < n → (wr.drewN nq).frozen? ⟨g, off + t, none⟩ = false := hfw
                    clear hcw hfw HK1
                    generalize wr.drewN nq = wz at hz hcz hfz ⊢
                    by_cases hl : So.lt (G k) (G (k - 1)) = true
                    · rw [hl]
                      have hst := HK2.out
                      rw [← shiftD_go (by omega) (by rw [← HG.out, ← HG.out]; exact hl)] at hst
                      have HN := Lib.hid hst
                      clear hst
                      go_wp2_with fail
                      go_region
                      have hsw := hz.out.swap (i := k) (j := k - 1) (by omega) (by omega) 1
                      rw [← HG.out, ← HG.out] at hsw
                      have HS := Lib.hid hsw
                      clear hsw hcz hfz
                      go_wp2_with fail
                      go_roundw
                      case rel => exact ⟨k - 1, swp dj k (k - 1), by go_num, by omega, by rw [size_swp]; exact hsj, HS, HN⟩
                      case measure => (simp [intOf]; try omega)
                    · have hl2 : So.lt (G k) (G (k - 1)) = false := by simpa using hl
                      rw [hl2]
                      have hst := HK2.out
                      rw [shiftD_end (.inr (by rw [← HG.out, ← HG.out]; exact hl2))] at hst
                      have HN := Lib.hid hst
                      clear hst hcz hfz
                      go_wp2_with fail
                      go_meet
                      case rel => exact Lib.hid (by rw [← HN.out]; exact hz.out)
                  · have hlei : ¬ (k : Int) ≥ 1 := by omega
                    have hst := HK2.out
                    rw [shiftD_end (.inl (by omega))] at hst
                    have HN := Lib.hid hst
                    clear hst
                    go_wp2_with fail
                    go_meet
                    case rel => exact Lib.hid (by rw [← HN.out]; exact HK1.out)
              · have h2i : ¬ (I : Int) - (a : Int) ≥ 2 := by omega
                have hDn := HD3.out
                rw [fixDown, if_neg h2] at hDn
                have HD := Lib.hid hDn
                clear hDn
                go_wp2_with fail
                go_meet
                case rel => exact Lib.hid (by rw [← HD.out]; exact HW2.out)
            case rest =>
              have HW3 := hcut
              clear HW2 hcut
              by_cases h2 : b - I ≥ 2
              · have h2i : (b : Int) - (I : Int) ≥ 2 := by omega
                have hU := HD4.out
                rw [fixUp, if_pos h2] at hU
                have HU := Lib.hid hU
                clear hU
                go_wp2_with fail
                rename World => wB
                go_loopw [10] (fun v wr => ∃ (k : Nat) (dj : Array So.E), v = .int .i64 (k : Int) ∧ I + 1 ≤ k ∧ k ≤ b ∧ dj.size = n ∧ RowKit.Hid (So.Is w g off dj wr) ∧ RowKit.Hid (shiftUp So.lt b k dj = d4)) (fun v _ => b - (intOf v).toNat)
                case atStart => exact ⟨I + 1, d3, by go_num, by omega, by omega, hs3, HW3, HU⟩
                case round =>
                  obtain ⟨k, dj, rfl, hk1, hk2, hsj, HK1, HK2⟩ := hrel
                  have hkw : IntKind.i64.wrap ((k : Int) - 1) = (k : Int) - 1 := IntWalk.i64_in _ (by omega)
                  by_cases hle : k < b
                  · have hlei : (k : Int) < (b : Int) := by omega
                    obtain ⟨G, hG, hcw, hfw⟩ := HK1.out.fam HH.out hn hsj
                    have HG := Lib.hid hG
                    clear hG
                    go_wp2_with fail
                    go_big_quiet (first | (go_at_call 90; refine Calls.quiet_of_same (less_any _ _ _)))
                    have hz : RowKit.Hid (So.Is w g off dj (wr.drewN nq)) := Lib.hid (HK1.out.draws nq)
                    have hcz : ∀ t, t < n → (wr.drewN nq).cell? ⟨g, off + t, none⟩ = some (.int .u32 (nb32 (G t))) := hcw
                    have hfz : ∀ t, t < n → (wr.drewN nq).frozen? ⟨g, off + t, none⟩ = false := hfw
                    clear hcw hfw HK1
                    generalize wr.drewN nq = wz at hz hcz hfz ⊢
                    by_cases hl : So.lt (G k) (G (k - 1)) = true
                    · rw [hl]
                      have hst := HK2.out
                      rw [← shiftU_go (by omega) (by rw [← HG.out, ← HG.out]; exact hl)] at hst
                      have HN := Lib.hid hst
                      clear hst
                      go_wp2_with fail
                      go_region
                      have hsw := hz.out.swap (i := k) (j := k - 1) (by omega) (by omega) 1
                      rw [← HG.out, ← HG.out] at hsw
                      have HS := Lib.hid hsw
                      clear hsw hcz hfz
                      go_wp2_with fail
                      go_roundw
                      case rel => exact ⟨k + 1, swp dj k (k - 1), by go_num, by omega, by omega, by rw [size_swp]; exact hsj, HS, HN⟩
                      case measure => (simp [intOf]; try omega)
                    · have hl2 : So.lt (G k) (G (k - 1)) = false := by simpa using hl
                      rw [hl2]
                      have hst := HK2.out
                      rw [shiftU_end (.inr (by rw [← HG.out, ← HG.out]; exact hl2))] at hst
                      have HN := Lib.hid hst
                      clear hst hcz hfz
                      go_wp2_with fail
                      go_roundw
                      case rel => exact ⟨I, s, z + 1, d4, rfl, by go_num, by omega, by omega, by omega, by omega, hs4, Lib.hid (by rw [← HN.out]; exact hz.out), HZ⟩
                      case measure => (simp [intOf]; try omega)
                  · have hlei : ¬ (k : Int) < (b : Int) := by omega
                    have hst := HK2.out
                    rw [shiftU_end (.inl hle)] at hst
                    have HN := Lib.hid hst
                    clear hst
                    go_wp2_with fail
                    go_roundw
                    case rel => exact ⟨I, s, z + 1, d4, rfl, by go_num, by omega, by omega, by omega, by omega, hs4, Lib.hid (by rw [← HN.out]; exact HK1.out), HZ⟩
                    case measure => (simp [intOf]; try omega)
              · have h2i : ¬ (b : Int) - (I : Int) ≥ 2 := by omega
                have hU := HD4.out
                rw [fixUp, if_neg h2] at hU
                have HU := Lib.hid hU
                clear hU
                go_wp2_with fail
                go_roundw
                case rel => exact ⟨I, s, z + 1, d4, rfl, by go_num, by omega, by omega, by omega, by omega, hs4, Lib.hid (by rw [← HU.out]; exact HW3.out), HZ⟩
                case measure => (simp [intOf]; try omega)
end Go.Proofs.Ytamigcbodplmcaa
