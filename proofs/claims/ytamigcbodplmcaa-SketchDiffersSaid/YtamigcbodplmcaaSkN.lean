/- law05's own helpers: none -/
import Derived.Test.YtamigcbodplmcaaSkM
import Derived.Test.YtamigcbodplmcaaPz
import Derived.Test.YtamigcbodplmcaaWe
namespace Go.Proofs.Ytamigcbodplmcaa
open Go Go.RowKit Go.ChangeShapes Go.WideShapes
set_option maxRecDepth 100000 in
set_option maxHeartbeats 2000000 in
theorem none5_any (a : Option Addr) (n c : Nat) (l : List (BitVec 32)) (w : World) (h : Words32 w a n l) (r : Bool) (hr : r = true ↔ (0 : BitVec 32) ∈ l) :
    Calls Try.prog 16 #[.slice a n c] w fun e w' => e = .returned (.bool r) ∧ w = w' := by
  have hl := h.1
  have hmx : n ≤ 9223372036854775807 := h.2.1
  have HR := Lib.hid hr
  clear hr
  go_enter Try.func16, Try.ntmps16
  go_wp2
  go_loop [7] (fun iv => ∃ i : Nat, i ≤ n ∧ iv = .int .i64 i ∧ RowKit.Hid (∀ t, t < i → Po.cf l t ≠ 0)) (fun iv => n - (intOf iv).toNat)
  case atStart => exact ⟨0, Nat.zero_le _, rfl, Lib.hid (fun t ht => by omega)⟩
  case round =>
    obtain ⟨i, hi, rfl, HA⟩ := hrel
    by_cases hlt : i < n
    · obtain ⟨ad, rfl, hx⟩ := h.2.2 i hlt
      obtain ⟨x, hxe⟩ : ∃ x, x = l.getD i 0 := ⟨_, rfl⟩
      rw [← hxe] at hx
      by_cases hz : x = 0
      · have hxb : (x == 0#32) = true := by rw [hz]; rfl
        have hrt : r = true := HR.out.2 (by rw [← hz, hxe, List.getD_eq_getElem?_getD, List.getElem?_eq_getElem (by omega)]; exact List.getElem_mem _)
        have HT := Lib.hid hrt
        clear hz hxe hrt
        go_wp2
        go_ret
        exact ⟨by rw [HT.out]; rfl, rfl⟩
      · have hxb : (x == 0#32) = false := by simpa using hz
        have HA2 : RowKit.Hid (∀ t, t < i + 1 → Po.cf l t ≠ 0) := Lib.hid (fun t ht => by
          by_cases e : t = i
          · rw [e]; intro g; exact hz (hxe.trans g)
          · exact HA.out t (by omega))
        clear hz hxe
        go_wp2
        go_round
        case rel => exact ⟨i + 1, by omega, by go_num, HA2⟩
        case measure => (simp [intOf]; try omega)
    · have hrf : r = false := by
        cases hr : r
        · rfl
        · obtain ⟨t, ht, e⟩ := List.mem_iff_getElem.1 (HR.out.1 hr)
          refine absurd ?_ (HA.out t (by omega))
          show l.getD t 0 = 0
          rw [List.getD_eq_getElem?_getD, List.getElem?_eq_getElem ht]
          exact e
      have HF := Lib.hid hrf
      clear hrf
      have hii : ¬ (i : Int) < (n : Int) := by omega
      go_wp2
      go_ret
      exact ⟨by rw [HF.out]; rfl, rfl⟩
end Go.Proofs.Ytamigcbodplmcaa
