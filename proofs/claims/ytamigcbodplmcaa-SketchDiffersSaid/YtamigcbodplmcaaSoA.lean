/- the library's sort of words: cmp.Less, insertionSortOrdered -/
import Derived.Test.YtamigcbodplmcaaPz
import Derived.Test.YtamigcbodplmcaaWe
import Derived.Sort.Grow
import Derived.Sort.LotA
import Derived.Sort.LotB
import Derived.Sort.LotC
import Derived.BigQuiet
import Derived.StillTailTactics
import Derived.CellFam
namespace Go.Proofs.Ytamigcbodplmcaa
open Go Go.RowKit Go.ChangeShapes Go.WideShapes Go.Sort
namespace So
abbrev E := BitVec 32
/-- an element as it lies in memory -/
def enc (x : E) : Value := .int .u32 (nb32 x)
/-- what cmp.Less says -/
def lt (x y : E) : Bool := decide (x.toNat < y.toNat)
theorem swo : SWO lt where
  irrefl := fun x => by simp [lt]
  trans := fun x y z h h' => by simp only [lt, decide_eq_true_eq] at *; omega
  ntrans := fun x y z h h' => by simp only [lt, decide_eq_false_iff_not] at *; omega
end So
theorem isnan_any (x : BitVec 32) (w : World) :
    Calls Try.prog 101 #[.int .u32 (nb32 x)] w fun e w' => e = .returned (.bool false) ∧ w' = w := by
  go_enter Try.func101, Try.ntmps101
  go_wp2
  go_ret
  exact ⟨by simp, rfl⟩
theorem less_any (x y : BitVec 32) (w : World) :
    Calls Try.prog 90 #[.int .u32 (nb32 x), .int .u32 (nb32 y)] w fun e w' => e = .returned (.bool (So.lt x y)) ∧ w' = w := by
  have hl : decide (nb32 x < nb32 y) = So.lt x y := by unfold So.lt nb32; congr 1; simp
  go_enter Try.func90, Try.ntmps90
  go_wp2_with (first | (go_at_call 101; refine (isnan_any _ _).mono ?_; rintro e w2 ⟨rfl, rfl⟩))
  go_ret
  exact ⟨rfl, rfl⟩
namespace So
/-- the world in which the row at g, off holds d, w otherwise, but for draws -/
def Is (w : World) (g off : Nat) (d : Array E) (w' : World) : Prop := ∃ n, w' = putRow enc (Sort.ahead w n) g off d
theorem Is.refl {w : World} {g off : Nat} {d : Array E} (h : Holds enc w g off d) : Is w g off d w := ⟨0, (putRow_self _ _ _ _ _ h).symm⟩
theorem Is.draws {w w' : World} {g off : Nat} {d : Array E} (h : Is w g off d w') (q : Nat) : Is w g off d (w'.drewN q) := by
  obtain ⟨n, rfl⟩ := h
  exact ⟨n + q, by simp [World.drewN, Sort.ahead, putRow, mapBlock, Nat.add_assoc]⟩
theorem Is.swap {w w' : World} {g off : Nat} {d : Array E} (h : Is w g off d w') {i j : Nat} (hi : i < d.size) (hj : j < d.size) (q : Nat) :
    Is w g off (swp d i j) (((w'.drewN q).setCell ⟨g, off + i, none⟩ (enc d[j]!)).setCell ⟨g, off + j, none⟩ (enc d[i]!)) := by
  obtain ⟨n, hn⟩ := h.draws q
  exact ⟨n, by rw [hn, putRow_swp _ _ _ _ _ _ _ hi hj]⟩
theorem Is.cell {w w' : World} {g off : Nat} {d0 d : Array E} (h : Is w g off d w') (h0 : Holds enc w g off d0) (hs : d.size = d0.size) {t : Nat} (ht : t < d.size) : w'.cell? ⟨g, off + t, none⟩ = some (enc d[t]!) ∧ w'.frozen? ⟨g, off + t, none⟩ = false := by
  obtain ⟨n, rfl⟩ := h
  exact holds_putRow enc _ g off d0 d (holds_ahead _ _ _ _ _ _ h0) hs t ht
theorem Is.fam {w w' : World} {g off n : Nat} {d0 d : Array E} (h : Is w g off d w') (h0 : Holds enc w g off d0) (hn : d0.size = n) (hs : d.size = n) :
    ∃ G : Nat → E, (∀ t, G t = d[t]!) ∧ (∀ t, t < n → w'.cell? ⟨g, off + t, none⟩ = some (.int .u32 (nb32 (G t)))) ∧ (∀ t, t < n → w'.frozen? ⟨g, off + t, none⟩ = false) :=
  ⟨fun t => d[t]!, fun _ => rfl, fun _ ht => (h.cell h0 (by omega) (by omega)).1, fun _ ht => (h.cell h0 (by omega) (by omega)).2⟩
theorem Is.holds {w w' : World} {g off : Nat} {d0 d : Array E} (h : Is w g off d w') (h0 : Holds enc w g off d0) (hs : d.size = d0.size) : Holds enc w' g off d := fun _ hj => h.cell h0 hs hj
theorem Is.trans {w w' w'' : World} {g off : Nat} {d d' : Array E} (h : Is w g off d w') (h' : Is w' g off d' w'') (hs : d'.size = d.size) : Is w g off d' w'' := by
  obtain ⟨n, rfl⟩ := h
  obtain ⟨m, rfl⟩ := h'
  exact ⟨n + m, putRow_ahead_putRow enc w n m g off d d' hs⟩
theorem _root_.Go.Proofs.Ytamigcbodplmcaa.insStop {a j : Nat} {d : Array E} (h : j ≤ a ∨ lt d[j]! d[j - 1]! = false) : insInner lt a j d = d := by
  cases j with
  | zero => rfl
  | succ j =>
    rw [insInner]
    rcases h with h | h
    · rw [if_neg (by simp; omega)]
    · rw [if_neg (by rw [show j + 1 - 1 = j from rfl] at h; simp [h])]
theorem _root_.Go.Proofs.Ytamigcbodplmcaa.insOuterGo {a b i : Nat} {d : Array E} (h : i < b) : insOuter lt a b i d = insOuter lt a b (i + 1) (insInner lt a i d) := by
  rw [insOuter, if_pos h]
theorem _root_.Go.Proofs.Ytamigcbodplmcaa.insGo {a j : Nat} {d : Array E} (h : a < j) (h2 : lt d[j]! d[j - 1]! = true) : insInner lt a j d = insInner lt a (j - 1) (swp d j (j - 1)) := by
  cases j with
  | zero => omega
  | succ j =>
    rw [insInner, if_pos (by rw [show j + 1 - 1 = j from rfl] at h2; simp [h2, h])]
    rfl
end So
set_option maxRecDepth 1000000 in
set_option maxHeartbeats 4000000 in
theorem insertion_any (g off n c a b : Nat) (d : Array So.E) (w : World) (hn : d.size = n) (hH : Holds So.enc w g off d) (hab : a ≤ b) (hb : b ≤ n) (hsz : n ≤ 1000000) :
    Calls Try.prog 84 #[.slice (some ⟨g, off, none⟩) n c, .int .i64 (a : Int), .int .i64 (b : Int)] w fun e w' =>
      e = .returned (.tuple #[]) ∧ So.Is w g off (insertionSort So.lt d a b) w' := by
  have HH := Lib.hid hH
  clear hH
  go_enter Try.func84, Try.ntmps84
  go_wp2
  go_loopw [6] (fun vi wr => ∃ (i : Nat) (dk : Array So.E), vi = .int .i64 (i : Int) ∧ a < i ∧ i ≤ b + 1 ∧ dk.size = n ∧ RowKit.Hid (So.Is w g off dk wr) ∧ RowKit.Hid (insOuter So.lt a b i dk = insertionSort So.lt d a b)) (fun vi _ => b + 1 - (intOf vi).toNat)
  case atStart => exact ⟨a + 1, d, by go_num, by omega, by omega, hn, Lib.hid (So.Is.refl HH.out), Lib.hid rfl⟩
  case round =>
    obtain ⟨i, dk, rfl, hai, hib, hsk, HW, HO⟩ := hrel
    by_cases hlt : i < b
    · have hlti : (i : Int) < (b : Int) := by omega
      go_wp2
      rename World => wA
      go_loopw [7] (fun vj wr => ∃ (j : Nat) (dj : Array So.E), vj = .int .i64 (j : Int) ∧ a ≤ j ∧ j ≤ i ∧ dj.size = n ∧ RowKit.Hid (So.Is w g off dj wr) ∧ RowKit.Hid (insInner So.lt a j dj = insInner So.lt a i dk)) (fun vj _ => (intOf vj).toNat)
      case atStart => exact ⟨i, dk, rfl, by omega, Nat.le_refl _, hsk, HW, Lib.hid rfl⟩
      case round =>
        obtain ⟨j, dj, rfl, haj, hji, hsj, HW2, HI⟩ := hrel
        by_cases hja : a < j
        · obtain ⟨x, hx⟩ : ∃ x, x = dj[j]! := ⟨_, rfl⟩
          obtain ⟨y, hy⟩ : ∃ y, y = dj[j - 1]! := ⟨_, rfl⟩
          have hcx := HW2.out.cell HH.out (by omega) (t := j) (by omega)
          have hcy := HW2.out.cell HH.out (by omega) (t := j - 1) (by omega)
          rw [← hx] at hcx
          rw [← hy] at hcy
          obtain ⟨hcx, hfx⟩ := hcx
          obtain ⟨hcy, hfy⟩ := hcy
          unfold So.enc at hcx hcy
          have HX := Lib.hid hx
          have HY := Lib.hid hy
          clear hx hy
          go_wp2_with fail
          go_big_quiet (first | (go_at_call 90; refine Calls.quiet_of_same (less_any _ _ _)))
          by_cases hl : So.lt x y = true
          · rw [hl]
            go_wp2_with fail
            go_region
            have hsw := HW2.out.swap (i := j) (j := j - 1) (by omega) (by omega) (nq + 1)
            rw [← HX.out, ← HY.out] at hsw
            have hin : insInner So.lt a (j - 1) (swp dj j (j - 1)) = insInner So.lt a i dk := by
              rw [← HI.out]
              exact (insGo hja (by rw [← HX.out, ← HY.out]; exact hl)).symm
            have HS := Lib.hid hsw
            have HN := Lib.hid hin
            clear hsw hin
            go_wp2_with fail
            go_roundw
            case rel => exact ⟨j - 1, swp dj j (j - 1), by go_num, by omega, by omega, by rw [size_swp]; exact hsj, HS, HN⟩
            case measure => simp [intOf]; omega
          · have hl2 : So.lt x y = false := by simpa using hl
            rw [hl2]
            go_wp2_with fail
            go_roundw
            case rel => exact ⟨i + 1, dj, by go_num, by omega, by omega, hsj, Lib.hid (HW2.out.draws nq), Lib.hid (by
              rw [← HO.out, insOuterGo hlt, ← HI.out, insStop (.inr (by rw [← HX.out, ← HY.out]; exact hl2))])⟩
            case measure => simp [intOf]; omega
        · have hja2 : ¬ (a : Int) < (j : Int) := by omega
          have hja3 : decide ((j : Int) > (a : Int)) = false := decide_eq_false (by omega)
          go_wp2_with fail
          go_big_quiet (first | (go_at_call 90; refine Calls.quiet_of_same (less_any _ _ _)))
          go_wp2_with fail
          go_roundw
          case rel => exact ⟨i + 1, dj, by go_num, by omega, by omega, hsj, Lib.hid (HW2.out.draws nq), Lib.hid (by
            rw [← HO.out, insOuterGo hlt, ← HI.out, insStop (.inl (by omega))])⟩
          case measure => simp [intOf]; omega
    · have hlti : ¬ (i : Int) < (b : Int) := by omega
      go_wp2
      go_end0
      exact ⟨rfl, by rw [← HO.out, insOuter, if_neg hlt]; exact HW.out⟩
end Go.Proofs.Ytamigcbodplmcaa
