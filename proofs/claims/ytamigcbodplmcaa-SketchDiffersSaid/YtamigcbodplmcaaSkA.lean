/- helpers of package sketch: Contains, written; the reference's Bytes -/
import Derived.Test.YtamigcbodplmcaaSkM
import Derived.Test.YtamigcbodplmcaaPz
import Derived.Test.YtamigcbodplmcaaWe
import Derived.Test.YtamigcbodplmcaaBy
import Derived.OwnWalk
import Derived.BigQuiet
import Derived.Deep.RegionHeld3
import Derived.StillTailTactics
namespace Go.Proofs.Ytamigcbodplmcaa
open Go Go.RowKit Go.ChangeShapes Go.WideShapes
set_option maxRecDepth 100000 in
set_option maxHeartbeats 2000000 in
theorem index_any (a : Option Addr) (n c : Nat) (l : List (BitVec 32)) (y : BitVec 32) (w : World) (h : Words32 w a n l) :
    Calls Try.prog 53 #[.slice a n c, .int .u32 (nb32 y)] w fun e w' => (∃ z : Int, e = .returned (.int .i64 z) ∧ (0 ≤ z ↔ y ∈ l)) ∧ w = w' := by
  have hl := h.1
  have hmx : n ≤ 9223372036854775807 := h.2.1
  go_enter Try.func53, Try.ntmps53
  go_wp2
  go_loop [8] (fun iv => ∃ i : Nat, i ≤ n ∧ iv = .int .i64 i ∧ RowKit.Hid (∀ t, t < i → Po.cf l t ≠ y)) (fun iv => n - (intOf iv).toNat)
  case atStart => exact ⟨0, Nat.zero_le _, rfl, Lib.hid (fun t ht => by omega)⟩
  case round =>
    obtain ⟨i, hi, rfl, HA⟩ := hrel
    by_cases hlt : i < n
    · obtain ⟨ad, rfl, hx⟩ := h.2.2 i hlt
      obtain ⟨x, hxe⟩ : ∃ x, x = l.getD i 0 := ⟨_, rfl⟩
      rw [← hxe] at hx
      by_cases hz : y = x
      · have hxb : (y == x) = true := by simpa using hz
        have hrt : y ∈ l := by rw [hz, hxe, List.getD_eq_getElem?_getD, List.getElem?_eq_getElem (by omega)]; exact List.getElem_mem _
        have HT := Lib.hid hrt
        clear hz hxe hrt
        go_wp2
        go_ret
        exact ⟨⟨_, rfl, fun _ => HT.out, fun _ => by omega⟩, rfl⟩
      · have hxb : (y == x) = false := by simpa using hz
        have HA2 : RowKit.Hid (∀ t, t < i + 1 → Po.cf l t ≠ y) := Lib.hid (fun t ht => by
          by_cases e : t = i
          · rw [e]; intro g; exact hz (g.symm.trans hxe.symm)
          · exact HA.out t (by omega))
        clear hz hxe
        go_wp2
        go_round
        case rel => exact ⟨i + 1, by omega, by go_num, HA2⟩
        case measure => (simp [intOf]; try omega)
    · have hrf : ¬ y ∈ l := fun hm => by
        obtain ⟨t, ht, e⟩ := List.mem_iff_getElem.1 hm
        refine absurd ?_ (HA.out t (by omega))
        show l.getD t 0 = y
        rw [List.getD_eq_getElem?_getD, List.getElem?_eq_getElem ht]
        exact e
      have HF := Lib.hid hrf
      clear hrf
      have hii : ¬ (i : Int) < (n : Int) := by omega
      go_wp2
      go_ret
      exact ⟨⟨_, rfl, fun h => by omega, fun h => (HF.out h).elim⟩, rfl⟩
theorem contains_any (a : Option Addr) (n c : Nat) (l : List (BitVec 32)) (y : BitVec 32) (w : World) (h : Words32 w a n l) (r : Bool) (hr : r = true ↔ y ∈ l) :
    Calls Try.prog 39 #[.slice a n c, .int .u32 (nb32 y)] w fun e w' => e = .returned (.bool r) ∧ w = w' := by
  have HR := Lib.hid hr
  clear hr
  go_enter Try.func39, Try.ntmps39
  go_wp2_with (first | (go_at_call 53; refine (index_any a n c l y _ h).mono ?_; rintro e w1 ⟨⟨z, rfl, hz⟩, rfl⟩; have HZ := Lib.hid hz; clear hz))
  go_ret
  refine ⟨?_, rfl⟩
  have h1 : decide (0 ≤ z) = r := by
    rw [Bool.eq_iff_iff, decide_eq_true_iff, HZ.out, HR.out]
  exact congrArg (fun b => Ending.returned (.bool b)) h1
set_option maxRecDepth 100000 in
set_option maxHeartbeats 2000000 in
theorem written_any (a : Option Addr) (n c : Nat) (l : List (BitVec 32)) (w : World) (h : Words32 w a n l) (hn : n ≤ 1000) :
    Calls Try.prog 28 #[.slice a n c] w fun e w' => (∃ v, e = .returned v ∧ OwnB 5 w.heap.size w' v (bytes8 l)) ∧ Below w.heap.size w w' := by
  have hl := h.1
  have hw4 : IntKind.i64.wrap (4 * (n : Int)) = 4 * (n : Int) := IntWalk.i64_in _ (by omega)
  obtain ⟨i0, hi0, hz0, hz1, hz2⟩ := info_parts info_byte
  go_enter Try.func28, Try.ntmps28
  go_wp2_with (first | (at_make; refine wpList_make_own _ rfl _ _ 23 rfl w.heap.size 5 i0 (.int .u8 0) 1 Try.underlying23 hi0 hz0 hz1 .i64 .i64 (4 * (n : Int)) (4 * n) rfl rfl (by omega) (by rw [hz2]; omega) (by unfold maxLen; omega) (Nat.le_refl _) ?_; intro w1 hm1 hm2))
  have hb1 : Below w.heap.size w w1 := (Below.refl _ w).grown hm2 (Nat.le_refl _) (fun k e => by cases e)
  have ho1 : OwnB 5 w.heap.size w1 (.slice (some ⟨w.heap.size, 0, none⟩) 0 (4 * n)) (bytes8 (l.take 0)) := hm1
  clear hm1 hm2
  go_loopw [3, 12] (fun vo iv wr => ∃ i : Nat, i ≤ n ∧ iv = .int .i64 i ∧ OwnB 5 w.heap.size wr vo (bytes8 (l.take i)) ∧ Below w.heap.size w wr) (fun _ iv _ => n - (intOf iv).toNat)
  case atStart => exact ⟨0, Nat.zero_le _, rfl, ho1, hb1⟩
  case round =>
    obtain ⟨i, hi, rfl, ho, hb⟩ := hrel
    by_cases hlt : i < n
    · obtain ⟨ad, rfl, hx⟩ := (h.below hb).2.2 i hlt
      obtain ⟨x, hxe⟩ : ∃ x, x = l.getD i 0 := ⟨_, rfl⟩
      rw [← hxe] at hx
      have HX : RowKit.Hid (bytes8 (l.take (i + 1)) = bytes8 (l.take i) ++ by4 x) := Lib.hid (by rw [hxe]; exact bytes8_snoc (by omega))
      have hle : (bytes8 (l.take i)).length + 4 ≤ 1099511627776 := by rw [bytes8_length, List.length_take]; omega
      clear hxe
      go_wp2_with (first
        | (at_builtin; refine wpList_append_lit rfl (.tmp 16) (.tmp 28) 23 rfl 5 Try.underlying23 info_byte w.heap.size _ (bytes8 (l.take i)) rfl ho 4 (by4 x) rfl _ rfl rfl hle hb.size ?_; intro v' w2 h2 h3))
      go_roundw
      case rel => exact ⟨i + 1, by omega, by go_num, by rw [HX.out]; exact h2, below_own_row (hb.alloc hb.size _) h3 ho.lt⟩
      case measure => (simp [intOf]; try omega)
    · have hii : ¬ (i : Int) < (n : Int) := by omega
      have hti : l.take i = l := List.take_of_length_le (by omega)
      rw [hti] at ho
      clear hti
      go_wp2
      go_ret
      exact ⟨⟨_, rfl, ho⟩, hb⟩
end Go.Proofs.Ytamigcbodplmcaa
