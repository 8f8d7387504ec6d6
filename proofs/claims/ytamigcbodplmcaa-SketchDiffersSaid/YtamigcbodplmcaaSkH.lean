/- package sketch: Empty, Further, Copy -/
import Derived.Test.YtamigcbodplmcaaSkG
import Derived.Lib.SliceRun
namespace Go.Proofs.Ytamigcbodplmcaa
open Go Go.RowKit Go.ChangeShapes Go.WideShapes
theorem capacity_any (B g ga K c : Nat) (l : List (BitVec 32)) (w : World) (h : SkA B w g ga K c l) :
    Calls Try.prog 13 #[.pointer (some ⟨g, 0, none⟩)] w fun e w' => e = .returned (.int .i64 (K : Int)) ∧ w = w' := by
  have hc := h.hcell
  go_enter Try.func13, Try.ntmps13
  go_wp2
  go_ret
  exact ⟨rfl, rfl⟩
theorem capacity_nil (w : World) :
    Calls Try.prog 13 #[.pointer none] w fun e w' => e = .returned (.int .i64 0) ∧ w = w' := by
  go_enter Try.func13, Try.ntmps13
  go_wp2
  go_ret
  exact ⟨rfl, rfl⟩
theorem emptyfn_any (x : BitVec 32) (w : World) :
    Calls Try.prog 30 #[.int .u32 (nb32 x)] w fun e w' => e = .returned (.bool (x != 0#32)) ∧ w = w' := by
  go_enter Try.func30, Try.ntmps30
  go_wp2
  go_ret
  exact ⟨rfl, rfl⟩
set_option maxRecDepth 100000 in
set_option maxHeartbeats 2000000 in
theorem indexfunc_any (a : Option Addr) (n c : Nat) (l : List (BitVec 32)) (w : World) (h : Words32 w a n l) :
    Calls Try.prog 42 #[.slice a n c, .func (.func 30) #[] #[]] w fun e w' => (∃ z : Int, e = .returned (.int .i64 z) ∧ (0 ≤ z ↔ ∃ x, x ∈ l ∧ x ≠ 0)) ∧ w = w' := by
  have hl := h.1
  have hmx : n ≤ 9223372036854775807 := h.2.1
  go_enter Try.func42, Try.ntmps42
  go_wp2
  go_loop [8] (fun iv => ∃ i : Nat, i ≤ n ∧ iv = .int .i64 i ∧ RowKit.Hid (∀ t, t < i → Po.cf l t = 0)) (fun iv => n - (intOf iv).toNat)
  case atStart => exact ⟨0, Nat.zero_le _, rfl, Lib.hid (fun t ht => by omega)⟩
  case round =>
    obtain ⟨i, hi, rfl, HA⟩ := hrel
    by_cases hlt : i < n
    · obtain ⟨ad, rfl, hx⟩ := h.2.2 i hlt
      obtain ⟨x, hxe⟩ : ∃ x, x = l.getD i 0 := ⟨_, rfl⟩
      rw [← hxe] at hx
      by_cases hz : x = 0
      · have hxb : (x != 0#32) = false := by rw [hz]; rfl
        have HA2 : RowKit.Hid (∀ t, t < i + 1 → Po.cf l t = 0) := Lib.hid (fun t ht => by
          by_cases e : t = i
          · rw [e]; exact hxe.symm.trans hz
          · exact HA.out t (by omega))
        clear hz hxe
        go_wp2_with (first | (go_at_call 30; refine (emptyfn_any x _).mono ?_; rw [hxb]; rintro e w1 ⟨rfl, rfl⟩))
        go_round
        case rel => exact ⟨i + 1, by omega, by go_num, HA2⟩
        case measure => (simp [intOf]; try omega)
      · have hxb : (x != 0#32) = true := by simpa using hz
        have hrt : ∃ x, x ∈ l ∧ x ≠ 0 := ⟨x, by rw [hxe, List.getD_eq_getElem?_getD, List.getElem?_eq_getElem (by omega)]; exact List.getElem_mem _, hz⟩
        have HT := Lib.hid hrt
        clear hz hxe hrt
        go_wp2_with (first | (go_at_call 30; refine (emptyfn_any x _).mono ?_; rw [hxb]; rintro e w1 ⟨rfl, rfl⟩))
        go_ret
        exact ⟨⟨_, rfl, fun _ => HT.out, fun _ => by omega⟩, rfl⟩
    · have hrf : ¬ ∃ x, x ∈ l ∧ x ≠ 0 := fun ⟨y, hm, hne⟩ => by
        obtain ⟨t, ht, e⟩ := List.mem_iff_getElem.1 hm
        refine hne ?_
        rw [← HA.out t (by omega)]
        show y = l.getD t 0
        rw [List.getD_eq_getElem?_getD, List.getElem?_eq_getElem ht]
        exact e.symm
      have HF := Lib.hid hrf
      clear hrf
      have hii : ¬ (i : Int) < (n : Int) := by omega
      go_wp2
      go_ret
      exact ⟨⟨_, rfl, fun h => by omega, fun h => (HF.out h).elim⟩, rfl⟩
theorem containsfunc_any (a : Option Addr) (n c : Nat) (l : List (BitVec 32)) (w : World) (h : Words32 w a n l) (r : Bool) (hr : r = true ↔ ∃ x, x ∈ l ∧ x ≠ 0) :
    Calls Try.prog 29 #[.slice a n c, .func (.func 30) #[] #[]] w fun e w' => e = .returned (.bool r) ∧ w = w' := by
  have HR := Lib.hid hr
  clear hr
  go_enter Try.func29, Try.ntmps29
  go_wp2_with (first | (go_at_call 42; refine (indexfunc_any a n c l _ h).mono ?_; rintro e w1 ⟨⟨z, rfl, hz⟩, rfl⟩; have HZ := Lib.hid hz; clear hz))
  go_ret
  refine ⟨?_, rfl⟩
  have h1 : decide (0 ≤ z) = r := by
    rw [Bool.eq_iff_iff, decide_eq_true_iff, HZ.out, HR.out]
  exact congrArg (fun b => Ending.returned (.bool b)) h1
theorem empty_any (B g ga K c : Nat) (l : List (BitVec 32)) (w : World) (h : SkA B w g ga K c l) (r : Bool) (hr : r = true ↔ ∀ x, x ∈ l → x = 0) :
    Calls Try.prog 15 #[.pointer (some ⟨g, 0, none⟩)] w fun e w' => e = .returned (.bool r) ∧ w = w' := by
  have hc := h.hcell
  have hw := h.words
  have HR := Lib.hid hr
  clear hr
  obtain ⟨q, hq⟩ := ex_bool (∃ x, x ∈ l ∧ x ≠ 0)
  have hqr : (!q) = r := by
    rw [Bool.eq_iff_iff, HR.out, Bool.not_eq_true', ← Bool.not_eq_true, hq]
    constructor
    · intro h1 x hx
      exact Decidable.byContradiction fun hne => h1 ⟨x, hx, hne⟩
    · rintro h1 ⟨x, hx, hne⟩
      exact hne (h1 x hx)
  have HQ := Lib.hid (And.intro hq hqr)
  clear hq hqr
  go_enter Try.func15, Try.ntmps15
  go_wp2_with (first | (go_at_call 29; refine (containsfunc_any _ K c l _ hw q HQ.out.1).mono ?_; rintro e w1 ⟨rfl, rfl⟩))
  go_ret
  exact ⟨congrArg (fun b => Ending.returned (.bool b)) HQ.out.2, rfl⟩
theorem empty_nil (w : World) :
    Calls Try.prog 15 #[.pointer none] w fun e w' => e = .returned (.bool true) ∧ w = w' := by
  go_enter Try.func15, Try.ntmps15
  go_wp2
  go_ret
  exact ⟨rfl, rfl⟩
theorem words_drop {w : World} {ga K from_ : Nat} {l : List (BitVec 32)} (h : Words32 w (some ⟨ga, 0, none⟩) K l) (hf : from_ ≤ K) (ad : Addr) (ha : from_ < K → ad = ⟨ga, from_, none⟩) : Words32 w (some ad) (K - from_) (l.drop from_) := by
  refine ⟨by rw [List.length_drop, h.1], by have := h.2.1; omega, fun i hi => ⟨ad, rfl, ?_⟩⟩
  obtain ⟨x, e, hx⟩ := h.2.2 (from_ + i) (by omega)
  injection e with e
  subst e
  rw [ha (by omega), Addr.add_mid]
  rw [Addr.add_mid, Nat.zero_add] at hx
  rw [hx]
  congr 3
  rw [List.getD_eq_getElem?_getD, List.getD_eq_getElem?_getD, List.getElem?_drop]
set_option maxRecDepth 100000 in
theorem further_ok (B g ga K c from_ : Nat) (l : List (BitVec 32)) (w : World) (h : SkA B w g ga K c l) (hf : from_ ≤ K) :
    Calls Try.prog 22 #[.pointer (some ⟨g, 0, none⟩), .int .i64 (from_ : Int)] w fun e w' => (∃ v, e = .returned (.tuple #[v, .nilIface]) ∧ OwnB 5 w.heap.size w' v (bytes8 (l.drop from_))) ∧ Below w.heap.size w w' := by
  have hc := h.hcell
  have hw := h.words
  have h40 := h.top
  have hcap := h.cap
  have hg0 : ¬ (from_ : Int) < 0 := by omega
  have hgK : ¬ (K : Int) < (from_ : Int) := by omega
  have h1 : (0 : Int) ≤ (from_ : Int) := by omega
  have h2 : (from_ : Int) ≤ (K : Int) := by omega
  have h3 : (from_ : Int) ≤ (c : Int) := by omega
  have h4 : (K : Int) ≤ (c : Int) := by omega
  by_cases hcf : c = from_
  · have hwd := words_drop hw hf ⟨ga, 0, none⟩ (fun h => by omega)
    go_enter Try.func22, Try.ntmps22
    go_wp2_with (first
      | (go_at_call 28; refine (written_any _ _ _ (l.drop from_) _ hwd (by omega)).mono ?_; rintro e w2 ⟨⟨v, rfl, ho⟩, hb⟩))
    go_ret2
    exact ⟨⟨_, rfl, ho⟩, hb⟩
  · have hwd := words_drop hw hf ⟨ga, from_, none⟩ (fun _ => rfl)
    go_enter Try.func22, Try.ntmps22
    go_wp2_with (first
      | (go_at_call 28; refine (written_any _ _ _ (l.drop from_) _ hwd (by omega)).mono ?_; rintro e w2 ⟨⟨v, rfl, ho⟩, hb⟩))
    go_ret2
    exact ⟨⟨_, rfl, ho⟩, hb⟩
theorem further_no (B g ga K c : Nat) (z : Int) (l : List (BitVec 32)) (w : World) (h : SkA B w g ga K c l) (hz : z < 0 ∨ (K : Int) < z) :
    Calls Try.prog 22 #[.pointer (some ⟨g, 0, none⟩), .int .i64 z] w fun e w' => e = .returned (.tuple #[.slice none 0 0, errOf 1]) ∧ w = w' := by
  have hc := h.hcell
  by_cases h0 : z < 0
  · clear hz
    go_enter Try.func22, Try.ntmps22
    go_wp2
    go_ret2
    exact ⟨rfl, rfl⟩
  · have hz2 : (K : Int) < z := by omega
    clear hz
    go_enter Try.func22, Try.ntmps22
    go_wp2
    go_ret2
    exact ⟨rfl, rfl⟩
theorem further_nil (v : Value) (w : World) :
    Calls Try.prog 22 #[.pointer none, v] w fun e w' => e = .returned (.tuple #[.slice none 0 0, errOf 1]) ∧ w = w' := by
  go_enter Try.func22, Try.ntmps22
  go_wp2
  go_ret2
  exact ⟨rfl, rfl⟩
set_option maxRecDepth 100000 in
theorem clone_any (ad : Addr) (n c : Nat) (l : List (BitVec 32)) (w : World) (h : Words32 w (some ad) n l) (hn : n ≤ 1000) :
    Calls Try.prog 38 #[.slice (some ad) n c] w fun e w' => (∃ v, e = .returned v ∧ OwnW 54 w.heap.size w' v l) ∧ Below w.heap.size w w' := by
  have hl := h.1
  have hB1 : Below w.heap.size w (w.alloc (.cells #[] 54)) := (Below.refl _ w).alloc (Nat.le_refl _) _
  have ho1 : OwnW 54 w.heap.size (w.alloc (.cells #[] 54)) (.slice (some ⟨w.heap.size, 0, none⟩) 0 0) [] := OwnW.empty (Nat.le_refl _) (Has.fresh _ _ _)
  have hw1 := h.past (.cells #[] 54)
  have hnil := Lib.run_eql_slice_nil (P := Try.prog) w 22 54 (some ad) n c 0 0 Try.underlying22
  go_enter Try.func38, Try.ntmps38
  go_wp2_with (first
    | (at_builtin; refine wpList_append_words rfl (.tmp 5) (.tmp 6) 22 rfl 54 Try.underlying22 info_word w.heap.size _ [] rfl ho1 (some ad) n c l rfl hw1 (fun e => by cases e) (by simp; omega) hB1.size ?_; intro v' w2 h2 h3))
  go_ret
  exact ⟨⟨_, rfl, by simpa using h2⟩, below_own_row hB1 h3 ho1.lt⟩
theorem scopy_any (B g ga K c : Nat) (l : List (BitVec 32)) (w : World) (h : SkA B w g ga K c l) :
    Calls Try.prog 24 #[.pointer (some ⟨g, 0, none⟩)] w fun e w' => (∃ g' ga' c', e = .returned (.pointer (some ⟨g', 0, none⟩)) ∧ SkA w.heap.size w' g' ga' K c' l) ∧ Below w.heap.size w w' := by
  have hc := h.hcell
  have hw := h.words
  have h40 := h.top
  have h1 := h.pos
  have hl := Lib.hid h.len
  go_enter Try.func24, Try.ntmps24
  go_wp2_with (first
    | (go_at_call 38; refine (clone_any _ K c l _ hw (by omega)).mono ?_; rintro e w2 ⟨⟨v, rfl, ho⟩, hb⟩; obtain ⟨ga', c', rfl⟩ := own_head ho hl.out h1))
  refine ⟨rfl, _, results_tmp rfl _ _ _, ⟨_, _, _, rfl, SkA.box ho hl.out h1 h40 hb.size⟩, hb.alloc hb.size _⟩
theorem scopy_nil (w : World) :
    Calls Try.prog 24 #[.pointer none] w fun e w' => e = .returned (.pointer none) ∧ w = w' := by
  go_enter Try.func24, Try.ntmps24
  go_wp2
  go_ret
  exact ⟨rfl, rfl⟩
end Go.Proofs.Ytamigcbodplmcaa
