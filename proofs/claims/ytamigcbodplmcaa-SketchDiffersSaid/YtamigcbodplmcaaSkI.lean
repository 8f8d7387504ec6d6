/- package sketch: all, Decode; slices.Reverse -/
import Derived.Test.YtamigcbodplmcaaSkG
import Derived.Test.YtamigcbodplmcaaSkP
import Derived.Test.YtamigcbodplmcaaSoZ
import Derived.Test.YtamigcbodplmcaaMsC
namespace Go.Proofs.Ytamigcbodplmcaa
open Go Go.RowKit Go.ChangeShapes Go.WideShapes Go.Sort
set_option maxRecDepth 1000000 in
set_option maxHeartbeats 4000000 in
theorem srev_any (g n c : Nat) (l : List (BitVec 32)) (cs : Array Value) (w : World) (hw : Words32 w (some ⟨g, 0, none⟩) n l) (hh : Has w g 54 cs) (h1 : 1 ≤ n) (hsz : n ≤ 1000) :
    Calls Try.prog 35 #[.slice (some ⟨g, 0, none⟩) n c] w fun e w' =>
      e = .returned (.tuple #[]) ∧ Words32 w' (some ⟨g, 0, none⟩) n l.reverse ∧ w.grownBy w' (some g) := by
  have hl := hw.1
  have hds : l.toArray.size = n := by simp; exact hl
  have hH : Holds So.enc w g 0 l.toArray := fun j hj => ⟨by
    obtain ⟨x, e, hx⟩ := hw.2.2 j (by omega)
    injection e with e
    subst e
    rw [Addr.add_mid] at hx
    rw [hx, get_at]
    rfl, hh.loose _⟩
  have HH := Lib.hid hH
  obtain ⟨J0, hJ0⟩ : ∃ J0, n - 1 = J0 := ⟨_, rfl⟩
  have hb1 : (n : Int) - 1 = (J0 : Int) := by omega
  have hbw : IntKind.i64.wrap (n - 1 : Int) = (J0 : Int) := by rw [IntWalk.i64_in _ (by omega)]; omega
  have HJ := Lib.hid hJ0
  have HL := Lib.hid hl
  have hJn : J0 < n := by omega
  clear hH hJ0 hl
  go_enter Try.func35, Try.ntmps35
  go_wp2
  go_loopw [2, 3] (fun vi vj wr => ∃ (i j : Nat) (dk : Array So.E), vi = .int .i64 (i : Int) ∧ vj = .int .i64 (j : Int) ∧ i ≤ n ∧ j < n ∧ dk.size = n ∧ RowKit.Hid (So.Is w g 0 dk wr) ∧ RowKit.Hid (i + j = J0 ∧ ∀ t, t < n → dk[t]! = if t < i ∨ j < t then l.getD (J0 - t) 0 else l.getD t 0)) (fun vi vj _ => (intOf vj).toNat + 1 - (intOf vi).toNat)
  case atStart => exact ⟨0, J0, l.toArray, rfl, rfl, by omega, hJn, hds, Lib.hid (So.Is.refl HH.out), Lib.hid ⟨by omega, fun t ht => by rw [get_at, if_neg (by omega)]⟩⟩
  case round =>
    obtain ⟨i, j, dk, rfl, rfl, hin, hjn, hsk, HW, HR⟩ := hrel
    obtain ⟨G, hG, hcw, hfw⟩ := HW.out.fam HH.out hds hsk
    have HG := Lib.hid hG
    clear hG
    simp only [Nat.zero_add] at hcw hfw
    by_cases hij : i < j
    · have hiji : (i : Int) < (j : Int) := by omega
      have hinn : i < n := by omega
      have hjw : IntKind.i64.wrap ((j : Int) - 1) = (j : Int) - 1 := IntWalk.i64_in _ (by omega)
      have hst : i + 1 + (j - 1) = J0 ∧ ∀ t, t < n → (Go.Sort.swp dk i j)[t]! = if t < i + 1 ∨ j - 1 < t then l.getD (J0 - t) 0 else l.getD t 0 := by
        obtain ⟨hs, hd⟩ := HR.out
        refine ⟨by omega, fun t ht => ?_⟩
        by_cases e1 : t = i
        · subst e1
          rw [swp_left dk t j (by omega) (by omega), hd j hjn, if_neg (by omega), if_pos (by omega), show J0 - t = j by omega]
        · by_cases e2 : t = j
          · subst e2
            rw [swp_right dk i t (by omega), hd i (by omega), if_neg (by omega), if_pos (by omega), show J0 - t = i by omega]
          · rw [swp_other dk i j t e1 e2, hd t ht]
            by_cases e3 : t < i ∨ j < t
            · rw [if_pos e3, if_pos (by omega)]
            · rw [if_neg e3, if_neg (by omega)]
      have HS := Lib.hid hst
      clear hst
      go_wp2_with fail
      go_region
      have hsw := HW.out.swap (i := i) (j := j) (by omega) (by omega) 1
      rw [← HG.out, ← HG.out] at hsw
      simp only [Nat.zero_add] at hsw
      have HW2 := Lib.hid hsw
      clear hsw hcw hfw
      go_wp2_with fail
      go_roundw
      case rel => exact ⟨i + 1, j - 1, Go.Sort.swp dk i j, by go_num, by go_num, by omega, by omega, by rw [size_swp]; exact hsk, HW2, HS⟩
      case measure => (simp [intOf]; try omega)
    · have hiji : ¬ (i : Int) < (j : Int) := by omega
      go_wp2_with fail
      go_end0
      have hat := HW.out.at HH.out (by omega)
      refine ⟨rfl, ⟨by rw [List.length_reverse]; exact HL.out, by have := hw.2.1; omega, fun t ht => ⟨_, rfl, ?_⟩⟩, hat.grown⟩
      rw [Addr.add_mid]
      have h2 := (hat.holds t (by omega)).1
      rw [h2]
      obtain ⟨hs, hd⟩ := HR.out
      have h3 : dk[t]! = l.reverse.getD t 0 := by
        have h4 : l.reverse.getD t 0 = l.getD (J0 - t) 0 := by
          have hlen := HL.out
          have hJ := HJ.out
          rw [List.getD_eq_getElem?_getD, List.getElem?_reverse (by omega), List.getD_eq_getElem?_getD, show l.length - 1 - t = J0 - t from by omega]
        rw [hd t ht, h4]
        by_cases e : t < i ∨ j < t
        · rw [if_pos e]
        · rw [if_neg e, show J0 - t = t from by omega]
      rw [h3]
      rfl
end Go.Proofs.Ytamigcbodplmcaa
