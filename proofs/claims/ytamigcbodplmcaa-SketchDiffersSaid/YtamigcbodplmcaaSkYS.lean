/- SketchSums -/
import Derived.Test.YtamigcbodplmcaaSkL
import Derived.Test.YtamigcbodplmcaaSkH
import Derived.Test.YtamigcbodplmcaaSkR
import Derived.Test.YtamigcbodplmcaaHe
import Derived.Deep.Cut
import Derived.Deep.CutRange
namespace Go.Proofs.Ytamigcbodplmcaa
open Go Go.RowKit Go.ChangeShapes Go.WideShapes
/-- what New answers -/
def NewPost (B : Nat) (z : Int) (ids : List (BitVec 32)) (v e : Value) (w : World) : Prop :=
  ((z < 1 ∨ 40 < z ∨ (0 : BitVec 32) ∈ ids) → v = .pointer none ∧ e = errOf 1) ∧
  (∀ cap : Nat, z = (cap : Int) → 1 ≤ cap → cap ≤ 40 → ¬ (0 : BitVec 32) ∈ ids → e = .nilIface ∧ ∃ g ga c, v = .pointer (some ⟨g, 0, none⟩) ∧ SkA B w g ga cap c (Sk.syn cap ids))
theorem new_any (z : Int) (a : Option Addr) (n d : Nat) (ids : List (BitVec 32)) (w : World) (hi : Words32 w a n ids) :
    Calls Try.prog 8 #[.int .i64 z, .slice a n d] w fun e w' => (∃ v e', e = .returned (.tuple #[v, e']) ∧ NewPost w.heap.size z ids v e' w') ∧ Below w.heap.size w w' := by
  by_cases hb : z < 1 ∨ 40 < z
  · refine (new_no z hb _ w).mono ?_
    rintro e w' ⟨rfl, rfl⟩
    exact ⟨⟨_, _, rfl, fun _ => ⟨rfl, rfl⟩, fun cap hc h1 h2 => by omega⟩, Below.refl _ _⟩
  · obtain ⟨cap, rfl⟩ := Int.eq_ofNat_of_zero_le (show 0 ≤ z by omega)
    by_cases h0 : (0 : BitVec 32) ∈ ids
    · refine (new_zero cap (by omega) (by omega) a n d ids w hi h0).mono ?_
      rintro e w' ⟨rfl, hbl⟩
      exact ⟨⟨_, _, rfl, fun _ => ⟨rfl, rfl⟩, fun _ _ _ _ h => absurd h0 h⟩, hbl⟩
    · refine (new_ok cap (by omega) (by omega) a n d ids w hi h0).mono ?_
      rintro e w' ⟨⟨g, ga, c, rfl, hs⟩, hbl⟩
      exact ⟨⟨_, _, rfl, fun h => by rcases h with h | h | h <;> first | omega | exact absurd h h0, fun cap' hc _ _ _ => by
        obtain rfl : cap = cap' := by omega
        exact ⟨rfl, g, ga, c, rfl, hs⟩⟩, hbl⟩
/-- what Read answers -/
def ReadPost (B n : Nat) (lb : List (BitVec 8)) (v e : Value) (w : World) : Prop :=
  ((n = 0 ∨ n % 4 ≠ 0 ∨ 40 < n / 4) → v = .pointer none ∧ e = errOf 2) ∧
  (∀ q : Nat, n = 4 * q → 1 ≤ q → q ≤ 40 → e = .nilIface ∧ ∃ g ga d, v = .pointer (some ⟨g, 0, none⟩) ∧ SkA B w g ga q d (sums8 lb))
theorem sread_any (a : Option Addr) (n c : Nat) (lb : List (BitVec 8)) (w : World) (h : Bytes8 w a n lb) (hnc : n ≤ c) :
    Calls Try.prog 9 #[.slice a n c] w fun e w' => (∃ v e', e = .returned (.tuple #[v, e']) ∧ ReadPost w.heap.size n lb v e' w') ∧ Below w.heap.size w w' := by
  by_cases hb : n = 0 ∨ n % 4 ≠ 0 ∨ 40 < n / 4
  · refine (sread_no a n c w h.2.1 (Lib.hid hb)).mono ?_
    rintro e w' ⟨rfl, rfl⟩
    exact ⟨⟨_, _, rfl, fun _ => ⟨rfl, rfl⟩, fun q hq h1 h2 => by omega⟩, Below.refl _ _⟩
  · refine (sread_ok a n c lb w h hnc (n / 4) (Lib.hid (by omega)) (by omega) (by omega)).mono ?_
    rintro e w' ⟨⟨g, ga, d, rfl, hs⟩, hbl⟩
    exact ⟨⟨_, _, rfl, fun h => absurd h hb, fun q hq _ _ => by
      obtain rfl : n / 4 = q := by omega
      exact ⟨rfl, g, ga, d, rfl, hs⟩⟩, hbl⟩
/-- what the reference's Sums answers -/
def SumsPost (n : Nat) (lb : List (BitVec 8)) (a : Option Addr) (q : Nat) (ok : Bool) (w : World) : Prop :=
  (n % 4 ≠ 0 → q = 0 ∧ ok = false) ∧ (n % 4 = 0 → q = n / 4 ∧ ok = true ∧ Words32 w a q (sums8 lb))
theorem rsums5_any (a : Option Addr) (n c : Nat) (lb : List (BitVec 8)) (w : World) (h : Bytes8 w a n lb) (hn : n ≤ 4000) :
    Calls Try.prog 11 #[.slice a n c] w fun e w' => (∃ a' q c' ok, e = .returned (.tuple #[.slice a' q c', .bool ok]) ∧ SumsPost n lb a' q ok w') ∧ Below w.heap.size w w' := by
  by_cases hd : n % 4 = 0
  · refine (rsums5_ok a n c lb w h (Lib.hid hd) hn).mono ?_
    rintro e w' ⟨⟨v, rfl, ho⟩, hbl⟩
    obtain ⟨a', c', rfl, _, _, hw⟩ := fresh_shapeK (K := n / 4) ho.fresh (by rw [sums8_length, h.1])
    exact ⟨⟨_, _, _, _, rfl, fun h => absurd hd h, fun _ => ⟨rfl, rfl, hw⟩⟩, hbl⟩
  · refine (rsums5_no a n c w (Lib.hid hd)).mono ?_
    rintro e w' ⟨rfl, rfl⟩
    exact ⟨⟨_, _, _, _, rfl, fun _ => ⟨rfl, rfl⟩, fun h => absurd h hd⟩, Below.refl _ _⟩
theorem Sk.zeros_iff {l : List (BitVec 32)} {n : Nat} (hl : l.length = n) : l = Po.mk n (fun _ => 0) ↔ ∀ x, x ∈ l → x = 0 := by
  subst hl
  constructor
  · intro h x hx
    rw [h] at hx
    obtain ⟨_, _, e⟩ := List.mem_map.1 hx
    exact e.symm
  · intro h
    refine Po.list_ext (by rw [Po.mk_length]) fun i hi => ?_
    rw [Po.cf_mk, if_pos hi]
    refine h _ ?_
    show l.getD i 0 ∈ l
    rw [List.getD_eq_getElem?_getD, List.getElem?_eq_getElem hi]
    exact List.getElem_mem _
/-- comparing with as many zeros -/
theorem words_zero (a : Option Addr) (n c g : Nat) (l : List (BitVec 32)) (w : World) (h : Words32 w a n l) (hh : Has w g 54 (wcells n fun _ => 0)) (hn : n ≤ 1000) (b : Bool) (hb : b = true ↔ ∀ x, x ∈ l → x = 0) :
    Calls Try.prog 10 #[.slice a n c, .slice (some ⟨g, 0, none⟩) n n] w fun e w' => e = .returned (.bool b) ∧ Below w.heap.size w w' := by
  refine (words_any a _ n c n n l (Po.mk n fun _ => 0) w h (words_of_has hh (Nat.le_refl _) (by omega))).mono ?_
  rintro e w' ⟨rfl, hd⟩
  refine ⟨?_, hd.below _⟩
  have : decide (l = Po.mk n fun _ => 0) = b := by
    rw [Bool.eq_iff_iff, hb, decide_eq_true_eq]
    exact Sk.zeros_iff h.1
  rw [this]
theorem has_made {w w' : World} {n : Nat} (h : w' = w.alloc (.cells (wcells n fun _ => 0) 54)) : Has w' w.heap.size 54 (wcells n fun _ => 0) ∧ Below w.heap.size w w' := by
  subst h
  exact ⟨Has.fresh _ _ _, (Below.refl _ w).alloc (Nat.le_refl _) _⟩
theorem Words32.drew' {w : World} {a : Option Addr} {n : Nat} {l : List (BitVec 32)} (h : Words32 w a n l) : Words32 w.drew a n l := h
set_option maxRecDepth 100000 in
set_option maxHeartbeats 16000000 in
theorem sumsMain (W : World) (z : Int) (hz : -9223372036854775808 ≤ z ∧ z < 9223372036854775808) (a1 : Option Addr) (n1 c1 : Nat) (l1 : List (BitVec 32)) (hw1 : Words32 W a1 n1 l1) (ha1 : a1 = none → c1 = 0) (a2 : Option Addr) (n2 c2 : Nat) (lb : List (BitVec 8)) (hw2 : Bytes8 W a2 n2 lb) (hnc2 : n2 ≤ c2)
    (hn1 : n1 ≤ 20) (hn2 : n2 ≤ 400) :
    Calls Try.prog 3 #[.int .i64 z, .slice a1 n1 c1, .slice a2 n2 c2] W fun e w' => e = .returned (.bool true) ∧ Below W.heap.size W w' := by
  have g1 : ¬ (20 : Int) < (n1 : Int) := by omega
  have g2 : ¬ (400 : Int) < (n2 : Int) := by omega
  have HL := Lib.hid (And.intro hw1.1 hw2.1)
  go_enter Try.func3, Try.ntmps3
  go_upto_region 11 with (first
      | (go_at_call 11; refine (rsums5_any a2 n2 c2 lb wd (hw2.below hTd) (by omega)).mono ?_; rintro e w5 ⟨⟨a5, q5, c5, ok5, rfl, hsu⟩, hB5⟩; have HSU := Lib.hid hsu; clear hsu; have hT5 := hTd.trans (hB5.mono hTd.size))
      | (go_at_call 10; refine (words_same oa a1 n1 oc n1 c1 l1 l1 w4 ((how.below hB3).below hB4) (hw1.below hT4) rfl).mono ?_; rintro e wd ⟨rfl, hd4⟩; have hTd := hT4.trans (hd4.below _))
      | (go_at_call 9; refine (sread_any a2 n2 c2 lb w3 (hw2.below hT3) hnc2).mono ?_; rintro e w4 ⟨⟨v10, v11, rfl, hrd⟩, hB4⟩; have HRD := Lib.hid hrd; clear hrd; have hT4 := hT3.trans (hB4.mono hT3.size))
      | (go_at_call 8; refine (new_any z oa n1 oc l1 w2 how).mono ?_; rintro e w3 ⟨⟨v8, v9, rfl, hnew⟩, hB3⟩; have HNEW := Lib.hid hnew; clear hnew; have hT3 := hT2.trans (hB3.mono hT2.size))
      | (at_builtin; have hoE : OwnW 54 w1.heap.size (w1.alloc (.cells #[] 54)) (.slice (some ⟨w1.heap.size, 0, none⟩) 0 0) [] := OwnW.empty (Nat.le_refl _) (Has.fresh w1 _ _); refine wpList_append_words rfl (.tmp 25) (.tmp 26) 22 rfl 54 Try.underlying22 info_word w1.heap.size _ [] rfl hoE a1 n1 c1 l1 rfl ((hw1.below hb1).past _) ha1 (by have := HL.out; simp; omega) (by simp) ?_; intro va w2 ho2 hg2; rw [List.nil_append] at ho2; have hB2 := below_own_row ((Below.refl w1.heap.size w1).alloc (Nat.le_refl _) _) hg2 hoE.lt; have hT2 := hb1.trans (hB2.mono hb1.size); obtain ⟨oa, oc, rfl, _, _, how⟩ := fresh_shapeK ho2.fresh HL.out.1)
      | (go_at_call 7; refine (alive05 W).mono ?_; rintro e w1 ⟨rfl, hb1⟩))
  go_cut [59] from 48 (fun v wx => v = .bool (decide (n2 % 4 ≠ 0 ∨ (q5 : Int) < 1 ∨ (40 : Int) < (q5 : Int))) ∧ w5 = wx)
  case first =>
    by_cases h4 : n2 % 4 = 0
    · obtain ⟨hq, rfl, hws⟩ := HSU.out.2 h4
      by_cases h1 : (q5 : Int) < 1
      · have hdd : decide (n2 % 4 ≠ 0 ∨ (q5 : Int) < 1 ∨ (40 : Int) < (q5 : Int)) = true := decide_eq_true (.inr (.inl h1))
        have HDD := Lib.hid (And.intro hdd (And.intro hq h4))
        clear hdd hq h4
        go_wp2_with fail
        go_meet
        case rel => exact ⟨by rw [HDD.out.1], rfl⟩
      · by_cases h2 : (40 : Int) < (q5 : Int)
        · have hdd : decide (n2 % 4 ≠ 0 ∨ (q5 : Int) < 1 ∨ (40 : Int) < (q5 : Int)) = true := decide_eq_true (.inr (.inr h2))
          have HDD := Lib.hid (And.intro hdd (And.intro hq h4))
          clear hdd hq h4
          go_wp2_with fail
          go_meet
          case rel => exact ⟨by rw [HDD.out.1], rfl⟩
        · have hdd : decide (n2 % 4 ≠ 0 ∨ (q5 : Int) < 1 ∨ (40 : Int) < (q5 : Int)) = false := decide_eq_false (fun h => h.elim (fun g => g h4) (fun g => g.elim h1 h2))
          have HDD := Lib.hid (And.intro hdd (And.intro hq h4))
          clear hdd hq h4
          go_wp2_with fail
          go_meet
          case rel => exact ⟨by rw [HDD.out.1], rfl⟩
    · obtain ⟨hq, rfl⟩ := HSU.out.1 h4
      have hdd : decide (n2 % 4 ≠ 0 ∨ (q5 : Int) < 1 ∨ (40 : Int) < (q5 : Int)) = true := decide_eq_true (.inl h4)
      have HDD := Lib.hid (And.intro hdd (And.intro hq h4))
      clear hdd hq h4
      go_wp2_with fail
      go_meet
      case rel => exact ⟨by rw [HDD.out.1], rfl⟩
  case rest =>
    obtain ⟨rfl, rfl⟩ := hcut
    obtain ⟨bd, hbd⟩ : ∃ bd, decide (n2 % 4 ≠ 0 ∨ (q5 : Int) < 1 ∨ (40 : Int) < (q5 : Int)) = bd := ⟨_, rfl⟩
    rw [hbd]
    have HBD := Lib.hid hbd
    clear hbd
    go_upto_if 59 with fail
    go_cut [6] from 43 (fun _ wx => Below w5.heap.size w5 wx)
    case first =>
      cases bd with
      | true =>
        have hov := of_decide_eq_true HBD.out
        have hbad : n2 = 0 ∨ n2 % 4 ≠ 0 ∨ 40 < n2 / 4 := by
          rcases hov with h | h | h
          · exact .inr (.inl h)
          · by_cases h4 : n2 % 4 = 0
            · have := (HSU.out.2 h4).1; omega
            · exact .inr (.inl h4)
          · by_cases h4 : n2 % 4 = 0
            · have := (HSU.out.2 h4).1; omega
            · exact .inr (.inl h4)
        obtain ⟨rfl, rfl⟩ := HRD.out.1 hbad
        clear hov hbad HSU HRD HBD HNEW
        go_wp2_with (first | (go_at_call 12; refine (is_err 2 rfl _).mono ?_; rintro e wi ⟨rfl, rfl⟩))
        go_meet
        case rel => exact Below.refl _ _
      | false =>
        have hov := of_decide_eq_false HBD.out
        have h4 : n2 % 4 = 0 := Decidable.byContradiction fun h => hov (.inl h)
        obtain ⟨hq, rfl, hws⟩ := HSU.out.2 h4
        have hq1 : 1 ≤ q5 := Nat.le_of_not_lt fun h => hov (.inr (.inl (by omega)))
        have hq40 : q5 ≤ 40 := Nat.le_of_not_lt fun h => hov (.inr (.inr (by omega)))
        have hq4 : n2 = 4 * q5 := by omega
        obtain ⟨rfl, g, ga, d, rfl, hs4⟩ := HRD.out.2 q5 hq4 hq1 hq40
        have hs5 := (hs4.below (hd4.below _)).below hB5
        have hbb : bytes8 (sums8 lb) = lb := bytes8_sums8 q5 lb (by rw [HL.out.2, hq4])
        obtain ⟨b, hb⟩ := ex_bool (∀ x, x ∈ sums8 lb → x = 0)
        have HQ := Lib.hid (And.intro hbb (And.intro hq4 (And.intro hq (And.intro h4 hb))))
        have hm5 := (hw2.below hT5).draw
        clear hov h4 hq hq4 hbb hb HSU HRD HNEW HBD
        go_upto_region 14 with fail
        go_cut [93] from 67 (fun v wx => v = .bool false ∧ Below w5.heap.size w5 wx)
        case first =>
          refine wp_region_held_drew (S := Held w5.drew) (by kernel_rfl) (Held.refl _) (fun hHeld => ?_)
          refine take_at (v := ?_) 0 67 rfl rfl (by kernel_rfl) (by kernel_rfl) (by kernel_rfl) (fun _ _ _ h => h) hHeld (Or.inl ⟨by rfl, ?_⟩) rfl ?_
          rotate_left
          · intro wq hSw
            go_simp
            try with_reducible rfl
          simp only [List.set_cons_zero, List.set_cons_succ]
          refine take_at (v := ?_) 1 68 rfl rfl (by kernel_rfl) (by kernel_rfl) (by kernel_rfl) (fun _ _ _ h => h) hHeld (Or.inl ⟨by rfl, ?_⟩) rfl ?_
          rotate_left
          · intro wq hSw
            go_simp
            try with_reducible rfl
          simp only [List.set_cons_zero, List.set_cons_succ]
          refine take_at (v := ?_) 2 69 rfl rfl (by kernel_rfl) (by kernel_rfl) (by kernel_rfl) (fun _ _ _ h => h) hHeld (Or.inl ⟨by rfl, ?_⟩) rfl ?_
          rotate_left
          · intro wq hSw
            go_simp
            try with_reducible rfl
          simp only [List.set_cons_zero, List.set_cons_succ]
          refine take_at (v := ?_) 3 70 rfl rfl (by kernel_rfl) (by kernel_rfl) (by kernel_rfl) (fun _ _ _ h => h) hHeld (Or.inl ⟨by rfl, ?_⟩) rfl ?_
          rotate_left
          · intro wq hSw
            go_simp
            try with_reducible rfl
          simp only [List.set_cons_zero, List.set_cons_succ]
          refine take_at (v := ?_) 5 72 rfl rfl (by kernel_rfl) (by kernel_rfl) (by kernel_rfl) (fun _ _ _ h => h) hHeld (Or.inl ⟨by rfl, ?_⟩) rfl ?_
          rotate_left
          · intro wq hSw
            go_simp
            try with_reducible rfl
          simp only [List.set_cons_zero, List.set_cons_succ]
          refine take_at (v := ?_) 6 73 rfl rfl (by kernel_rfl) (by kernel_rfl) (by kernel_rfl) (fun _ _ _ h => h) hHeld (Or.inl ⟨by rfl, ?_⟩) rfl ?_
          rotate_left
          · intro wq hSw
            go_simp
            try with_reducible rfl
          simp only [List.set_cons_zero, List.set_cons_succ]
          refine wpAnyH_ready (rs := [4]) (by kernel_rfl) (by simp) ?_
          refine AllReadyH.cons rfl (fun K hK => ?_) AllReadyH.nil
          go_simp
          go_at_call 13; refine (capacity_any _ g ga q5 d _ w5.drew hs5.draw).mono ?_; rintro e wk ⟨rfl, rfl⟩
          refine hK.out _ _ hHeld (fun _ => ?_)
          clear hK K
          try simp only [Act.put, List.setIfInBounds_toArray, List.set_cons_zero, List.set_cons_succ]
          refine take_at (v := ?_) 7 74 rfl rfl (by kernel_rfl) (by kernel_rfl) (by kernel_rfl) (fun _ _ _ h => h) hHeld (Or.inl ⟨by rfl, ?_⟩) rfl ?_
          rotate_left
          · intro wq hSw
            go_simp
            try with_reducible rfl
          simp only [List.set_cons_zero, List.set_cons_succ]
          refine take_at (v := ?_) 8 75 rfl rfl (by kernel_rfl) (by kernel_rfl) (by kernel_rfl) (fun _ _ _ h => h) hHeld (Or.inl ⟨by rfl, ?_⟩) rfl ?_
          rotate_left
          · intro wq hSw
            go_simp
            try with_reducible rfl
          simp only [List.set_cons_zero, List.set_cons_succ]
          refine take_at (v := ?_) 9 76 rfl rfl (by kernel_rfl) (by kernel_rfl) (by kernel_rfl) (fun _ _ _ h => h) hHeld (Or.inl ⟨by rfl, ?_⟩) rfl ?_
          rotate_left
          · intro wq hSw
            go_simp
            try with_reducible rfl
          simp only [List.set_cons_zero, List.set_cons_succ]
          refine take_at (v := ?_) 10 77 rfl rfl (by kernel_rfl) (by kernel_rfl) (by kernel_rfl) (fun _ _ _ h => h) hHeld (Or.inl ⟨by rfl, ?_⟩) rfl ?_
          rotate_left
          · intro wq hSw
            go_simp
            try with_reducible rfl
          simp only [List.set_cons_zero, List.set_cons_succ]
          refine take_at (v := ?_) 13 80 rfl rfl (by kernel_rfl) (by kernel_rfl) (by kernel_rfl) (fun _ _ _ h => h) hHeld (Or.inl ⟨by rfl, ?_⟩) rfl ?_
          rotate_left
          · intro wq hSw
            go_simp
            try with_reducible rfl
          simp only [List.set_cons_zero, List.set_cons_succ]
          refine take_at (v := ?_) 14 81 rfl rfl (by kernel_rfl) (by kernel_rfl) (by kernel_rfl) (fun _ _ _ h => h) hHeld (Or.inl ⟨by rfl, ?_⟩) rfl ?_
          rotate_left
          · intro wq hSw
            have hst := run_string (P := Try.prog) 23 9 5 Try.underlying23 Try.underlying5 Try.underlying9 (c := c2) (hm5.below hSw)
            go_simp
            try with_reducible rfl
          simp only [List.set_cons_zero, List.set_cons_succ]
          refine wpAnyH_ready (rs := [11]) (by kernel_rfl) (by simp) ?_
          refine AllReadyH.cons rfl (fun K hK => ?_) AllReadyH.nil
          go_simp
          go_at_call 14; refine (sbytes_any _ g ga q5 d _ w5.drew (hs5.draw)).mono ?_; rintro e w6 ⟨⟨b6, rfl, hb6⟩, hB6⟩; obtain ⟨x6, y6, rfl, _, _, hx6⟩ := hb6.shape (K := n2) (by rw [HQ.out.1]; exact HL.out.2)
          refine hK.out _ _ (Held.of hB6) (fun _ => ?_)
          clear hK K
          try simp only [Act.put, List.setIfInBounds_toArray, List.set_cons_zero, List.set_cons_succ]
          refine held_grow (w1 := w6) (Held.of hB6) ?_
          clear hHeld
          have hHeld : Held w6 w6 := Held.refl _
          rw [HQ.out.1] at hx6
          refine take_at (v := ?_) 12 79 rfl rfl (by kernel_rfl) (by kernel_rfl) (by kernel_rfl) (fun _ _ _ h => h) hHeld (Or.inl ⟨by rfl, ?_⟩) rfl ?_
          rotate_left
          · intro wq hSw
            have hst := run_string (P := Try.prog) 23 9 5 Try.underlying23 Try.underlying5 Try.underlying9 (c := y6) (hx6.below hSw)
            go_simp
            try with_reducible rfl
          simp only [List.set_cons_zero, List.set_cons_succ]
          refine take_at (v := ?_) 15 82 rfl rfl (by kernel_rfl) (by kernel_rfl) (by kernel_rfl) (fun _ _ _ h => h) hHeld (Or.inl ⟨by rfl, ?_⟩) rfl ?_
          rotate_left
          · intro wq hSw
            go_simp
            try with_reducible rfl
          simp only [List.set_cons_zero, List.set_cons_succ]
          refine take_at (v := ?_) 16 83 rfl rfl (by kernel_rfl) (by kernel_rfl) (by kernel_rfl) (fun _ _ _ h => h) hHeld (Or.inl ⟨by rfl, ?_⟩) rfl ?_
          rotate_left
          · intro wq hSw
            go_simp
            try with_reducible rfl
          simp only [List.set_cons_zero, List.set_cons_succ]
          refine take_at (v := ?_) 17 84 rfl rfl (by kernel_rfl) (by kernel_rfl) (by kernel_rfl) (fun _ _ _ h => h) hHeld (Or.inl ⟨by rfl, ?_⟩) rfl ?_
          rotate_left
          · intro wq hSw
            go_simp
            try with_reducible rfl
          simp only [List.set_cons_zero, List.set_cons_succ]
          refine take_at (v := ?_) 18 85 rfl rfl (by kernel_rfl) (by kernel_rfl) (by kernel_rfl) (fun _ _ _ h => h) hHeld (Or.inl ⟨by rfl, ?_⟩) rfl ?_
          rotate_left
          · intro wq hSw
            go_simp
            try with_reducible rfl
          simp only [List.set_cons_zero, List.set_cons_succ]
          refine take_at (v := ?_) 20 87 rfl rfl (by kernel_rfl) (by kernel_rfl) (by kernel_rfl) (fun _ _ _ h => h) hHeld (Or.inl ⟨by rfl, ?_⟩) rfl ?_
          rotate_left
          · intro wq hSw
            go_simp
            try with_reducible rfl
          simp only [List.set_cons_zero, List.set_cons_succ]
          refine take_at (v := ?_) 21 88 rfl rfl (by kernel_rfl) (by kernel_rfl) (by kernel_rfl) (fun _ _ _ h => h) hHeld (Or.inl ⟨by rfl, ?_⟩) rfl ?_
          rotate_left
          · intro wq hSw
            go_simp
            try with_reducible rfl
          simp only [List.set_cons_zero, List.set_cons_succ]
          refine take_at (v := ?_) 22 89 rfl rfl (by kernel_rfl) (by kernel_rfl) (by kernel_rfl) (fun _ _ _ h => h) hHeld (Or.inl ⟨by rfl, ?_⟩) rfl ?_
          rotate_left
          · intro wq hSw
            go_simp
            try with_reducible rfl
          simp only [List.set_cons_zero, List.set_cons_succ]
          refine wpAnyH_ready (rs := [19, 23]) (by kernel_rfl) (by simp) ?_
          refine AllReadyH.cons rfl (fun K hK => ?_) (AllReadyH.cons rfl (fun K hK => ?_) AllReadyH.nil)
          · go_simp
            go_at_call 15; refine (empty_any _ g ga q5 d _ w6 (hs5.draw.below hB6) b HQ.out.2.2.2.2).mono ?_; rintro e wk ⟨rfl, rfl⟩
            refine hK.out _ _ hHeld (fun _ => ?_)
            clear hK K
            try simp only [Act.put, List.setIfInBounds_toArray, List.set_cons_zero, List.set_cons_succ]
            refine wpAnyH_ready (rs := [23]) (by kernel_rfl) (by simp) ?_
            refine AllReadyH.cons rfl (fun K hK => ?_) AllReadyH.nil
            go_simp
            rw [make_words q5 (by omega) w6]
            go_simp
            obtain ⟨w7, hw7⟩ : ∃ x, x = w6.alloc (.cells (wcells q5 fun _ => 0#32) 54) := ⟨_, rfl⟩
            rw [← hw7]
            obtain ⟨hHw7, hBw7⟩ := has_made hw7
            clear hw7
            refine hK.out _ _ (Held.of hBw7) (fun _ => ?_)
            clear hK K
            try simp only [Act.put, List.setIfInBounds_toArray, List.set_cons_zero, List.set_cons_succ]
            refine held_grow (w1 := w7) (Held.of hBw7) ?_
            clear hHeld
            have hHeld : Held w7 w7 := Held.refl _
            refine wpAnyH_ready (rs := [24]) (by kernel_rfl) (by simp) ?_
            refine AllReadyH.cons rfl (fun K hK => ?_) AllReadyH.nil
            go_simp
            go_at_call 10; refine (words_zero a5 q5 c5 w6.heap.size (sums8 lb) w7 (((Words32.drew' hws).below hB6).below hBw7) hHw7 (by omega) b HQ.out.2.2.2.2).mono ?_; rintro e w8 ⟨rfl, hB8⟩
            refine hK.out _ _ (Held.of hB8) (fun _ => ?_)
            clear hK K
            try simp only [Act.put, List.setIfInBounds_toArray, List.set_cons_zero, List.set_cons_succ]
            refine held_grow (w1 := w8) (Held.of hB8) ?_
            clear hHeld
            have hHeld : Held w8 w8 := Held.refl _
            refine take_at (v := .bool false) 25 92 rfl rfl (by kernel_rfl) (by kernel_rfl) (by kernel_rfl) (fun _ _ _ h => h) hHeld (Or.inl ⟨by rfl, ?_⟩) rfl ?_
            · intro wq hSw
              go_simp
              skip
            simp only [List.set_cons_zero, List.set_cons_succ]
            refine take_at (v := ?_) 26 93 rfl rfl (by kernel_rfl) (by kernel_rfl) (by kernel_rfl) (fun _ _ _ h => h) hHeld (Or.inl ⟨by rfl, ?_⟩) rfl ?_
            rotate_left
            · intro wq hSw
              go_simp
              try with_reducible rfl
            simp only [List.set_cons_zero, List.set_cons_succ]
            refine wpAnyH_done (by kernel_rfl) ?_ _
            have hBx := (((Below.refl w5.heap.size w5).drew.trans hB6).trans (hBw7.mono hB6.size)).trans (hB8.mono (hB6.trans (hBw7.mono hB6.size)).size)
            go_wp2_with fail
            go_meet
            case rel => exact ⟨rfl, hBx⟩
          · go_simp
            rw [make_words q5 (by omega) w6]
            go_simp
            obtain ⟨w7, hw7⟩ : ∃ x, x = w6.alloc (.cells (wcells q5 fun _ => 0#32) 54) := ⟨_, rfl⟩
            rw [← hw7]
            obtain ⟨hHw7, hBw7⟩ := has_made hw7
            clear hw7
            refine hK.out _ _ (Held.of hBw7) (fun _ => ?_)
            clear hK K
            try simp only [Act.put, List.setIfInBounds_toArray, List.set_cons_zero, List.set_cons_succ]
            refine held_grow (w1 := w7) (Held.of hBw7) ?_
            clear hHeld
            have hHeld : Held w7 w7 := Held.refl _
            refine wpAnyH_ready (rs := [19]) (by kernel_rfl) (by simp) ?_
            refine AllReadyH.cons rfl (fun K hK => ?_) AllReadyH.nil
            go_simp
            go_at_call 15; refine (empty_any _ g ga q5 d _ w7 ((hs5.draw.below hB6).below hBw7) b HQ.out.2.2.2.2).mono ?_; rintro e wk ⟨rfl, rfl⟩
            refine hK.out _ _ hHeld (fun _ => ?_)
            clear hK K
            try simp only [Act.put, List.setIfInBounds_toArray, List.set_cons_zero, List.set_cons_succ]
            refine wpAnyH_ready (rs := [24]) (by kernel_rfl) (by simp) ?_
            refine AllReadyH.cons rfl (fun K hK => ?_) AllReadyH.nil
            go_simp
            go_at_call 10; refine (words_zero a5 q5 c5 w6.heap.size (sums8 lb) w7 (((Words32.drew' hws).below hB6).below hBw7) hHw7 (by omega) b HQ.out.2.2.2.2).mono ?_; rintro e w8 ⟨rfl, hB8⟩
            refine hK.out _ _ (Held.of hB8) (fun _ => ?_)
            clear hK K
            try simp only [Act.put, List.setIfInBounds_toArray, List.set_cons_zero, List.set_cons_succ]
            refine held_grow (w1 := w8) (Held.of hB8) ?_
            clear hHeld
            have hHeld : Held w8 w8 := Held.refl _
            refine take_at (v := .bool false) 25 92 rfl rfl (by kernel_rfl) (by kernel_rfl) (by kernel_rfl) (fun _ _ _ h => h) hHeld (Or.inl ⟨by rfl, ?_⟩) rfl ?_
            · intro wq hSw
              go_simp
              skip
            simp only [List.set_cons_zero, List.set_cons_succ]
            refine take_at (v := ?_) 26 93 rfl rfl (by kernel_rfl) (by kernel_rfl) (by kernel_rfl) (fun _ _ _ h => h) hHeld (Or.inl ⟨by rfl, ?_⟩) rfl ?_
            rotate_left
            · intro wq hSw
              go_simp
              try with_reducible rfl
            simp only [List.set_cons_zero, List.set_cons_succ]
            refine wpAnyH_done (by kernel_rfl) ?_ _
            have hBx := (((Below.refl w5.heap.size w5).drew.trans hB6).trans (hBw7.mono hB6.size)).trans (hB8.mono (hB6.trans (hBw7.mono hB6.size)).size)
            go_wp2_with fail
            go_meet
            case rel => exact ⟨rfl, hBx⟩
        case rest =>
          obtain ⟨rfl, hB6⟩ := hcut
          go_wp2_with fail
          go_meet
          case rel => exact hB6
    case rest =>
      clear HBD HSU HRD
      obtain ⟨w6, hw6⟩ : ∃ w6, w6 = wc := ⟨_, rfl⟩
      rw [← hw6] at hcut ⊢
      clear hw6
      have hT6 := hT5.trans (hcut.mono hT5.size)
      have hB36 := (hB4.trans ((hd4.below _).mono hB4.size)).trans ((hB5.trans (hcut.mono hB5.size)).mono (hB4.trans ((hd4.below _).mono hB4.size)).size)
      clear hcut
      by_cases hz1 : z < 1
      · obtain ⟨rfl, rfl⟩ := HNEW.out.1 (.inl hz1)
        clear HNEW
        go_wp2_with (first | (go_at_call 12; refine (is_err 1 rfl _).mono ?_; rintro e wi ⟨rfl, rfl⟩))
        go_ret
        exact ⟨rfl, hT6⟩
      · by_cases hz2 : 40 < z
        · obtain ⟨rfl, rfl⟩ := HNEW.out.1 (.inr (.inl hz2))
          clear HNEW
          go_wp2_with (first | (go_at_call 12; refine (is_err 1 rfl _).mono ?_; rintro e wi ⟨rfl, rfl⟩))
          go_ret
          exact ⟨rfl, hT6⟩
        · by_cases h0 : (0 : BitVec 32) ∈ l1
          · obtain ⟨rfl, rfl⟩ := HNEW.out.1 (.inr (.inr h0))
            have H0 := Lib.hid h0
            clear HNEW h0
            go_wp2_with (first
              | (go_at_call 12; refine (is_err 1 rfl _).mono ?_; rintro e wi ⟨rfl, rfl⟩)
              | (go_at_call 16; refine (none5_any a1 n1 c1 l1 w6 (hw1.below hT6) true ⟨fun _ => H0.out, fun _ => rfl⟩).mono ?_; rintro e wi ⟨rfl, rfl⟩))
            go_ret
            exact ⟨rfl, hT6⟩
          · obtain ⟨cap, rfl⟩ := Int.eq_ofNat_of_zero_le (show 0 ≤ z by omega)
            have hc1 : 1 ≤ cap := by omega
            have hc40 : cap ≤ 40 := by omega
            obtain ⟨rfl, g, ga, d, rfl, hs3⟩ := HNEW.out.2 cap rfl hc1 hc40 h0
            have hs6 := hs3.below hB36
            have H0 := Lib.hid h0
            obtain ⟨b, hb⟩ := ex_bool (∀ x, x ∈ Sk.syn cap l1 → x = 0)
            have hlS : (Sk.syn cap l1).length = cap := by unfold Sk.syn; rw [Po.mk_length]
            obtain ⟨m4, hm4⟩ : ∃ m4, m4 = 4 * cap := ⟨_, rfl⟩
            have hlB : (bytes8 (Sk.syn cap l1)).length = m4 := by rw [bytes8_length, hlS, hm4]
            have HQ := Lib.hid (And.intro hb (And.intro hlS hlB))
            clear HNEW h0 hb hlS hlB hm4 hz
            go_upto_region 19 with (first
              | (go_at_call 17; refine (rof_any cap n1 c1 a1 l1 w6 (hw1.below hT6) (by omega)).mono ?_; rintro e w7 ⟨⟨v7, rfl, hv7⟩, hB7⟩; obtain ⟨ra, rc, rfl, _, _, hr7⟩ := fresh_shapeK hv7.fresh HQ.out.2.1)
              | (go_at_call 16; refine (none5_any a1 n1 c1 l1 w6 (hw1.below hT6) false ⟨fun e => (Bool.false_ne_true e).elim, fun e => (H0.out e).elim⟩).mono ?_; rintro e wi ⟨rfl, rfl⟩))
            have hs7 := (hs6.below hB7).draw
            have hr7d := hr7.drew'
            have hT7 := (hT6.trans (hB7.mono hT6.size)).drew
            refine wp_region_held_drew (S := Held w7.drew) (by kernel_rfl) (Held.refl _) (fun hHeld => ?_)
            refine take_at (v := ?_) 0 113 rfl rfl (by kernel_rfl) (by kernel_rfl) (by kernel_rfl) (fun _ _ _ h => h) hHeld (Or.inl ⟨by rfl, ?_⟩) rfl ?_
            rotate_left
            · intro wq hSw
              go_simp
              try with_reducible rfl
            simp only [List.set_cons_zero, List.set_cons_succ]
            refine take_at (v := ?_) 1 114 rfl rfl (by kernel_rfl) (by kernel_rfl) (by kernel_rfl) (fun _ _ _ h => h) hHeld (Or.inl ⟨by rfl, ?_⟩) rfl ?_
            rotate_left
            · intro wq hSw
              go_simp
              try with_reducible rfl
            simp only [List.set_cons_zero, List.set_cons_succ]
            refine take_at (v := ?_) 2 115 rfl rfl (by kernel_rfl) (by kernel_rfl) (by kernel_rfl) (fun _ _ _ h => h) hHeld (Or.inl ⟨by rfl, ?_⟩) rfl ?_
            rotate_left
            · intro wq hSw
              go_simp
              try with_reducible rfl
            simp only [List.set_cons_zero, List.set_cons_succ]
            refine take_at (v := ?_) 3 116 rfl rfl (by kernel_rfl) (by kernel_rfl) (by kernel_rfl) (fun _ _ _ h => h) hHeld (Or.inl ⟨by rfl, ?_⟩) rfl ?_
            rotate_left
            · intro wq hSw
              go_simp
              try with_reducible rfl
            simp only [List.set_cons_zero, List.set_cons_succ]
            refine take_at (v := ?_) 5 118 rfl rfl (by kernel_rfl) (by kernel_rfl) (by kernel_rfl) (fun _ _ _ h => h) hHeld (Or.inl ⟨by rfl, ?_⟩) rfl ?_
            rotate_left
            · intro wq hSw
              go_simp
              try with_reducible rfl
            simp only [List.set_cons_zero, List.set_cons_succ]
            refine wpAnyH_ready (rs := [4]) (by kernel_rfl) (by simp) ?_
            refine AllReadyH.cons rfl (fun K hK => ?_) AllReadyH.nil
            go_simp
            go_at_call 13; refine (capacity_any _ g ga cap d _ w7.drew hs7).mono ?_; rintro e wk ⟨rfl, rfl⟩
            refine hK.out _ _ hHeld (fun _ => ?_)
            clear hK K
            try simp only [Act.put, List.setIfInBounds_toArray, List.set_cons_zero, List.set_cons_succ]
            refine take_at (v := ?_) 6 119 rfl rfl (by kernel_rfl) (by kernel_rfl) (by kernel_rfl) (fun _ _ _ h => h) hHeld (Or.inl ⟨by rfl, ?_⟩) rfl ?_
            rotate_left
            · intro wq hSw
              go_simp
              try with_reducible rfl
            simp only [List.set_cons_zero, List.set_cons_succ]
            refine take_at (v := ?_) 7 120 rfl rfl (by kernel_rfl) (by kernel_rfl) (by kernel_rfl) (fun _ _ _ h => h) hHeld (Or.inl ⟨by rfl, ?_⟩) rfl ?_
            rotate_left
            · intro wq hSw
              go_simp
              try with_reducible rfl
            simp only [List.set_cons_zero, List.set_cons_succ]
            refine take_at (v := ?_) 8 121 rfl rfl (by kernel_rfl) (by kernel_rfl) (by kernel_rfl) (fun _ _ _ h => h) hHeld (Or.inl ⟨by rfl, ?_⟩) rfl ?_
            rotate_left
            · intro wq hSw
              go_simp
              try with_reducible rfl
            simp only [List.set_cons_zero, List.set_cons_succ]
            refine take_at (v := ?_) 9 122 rfl rfl (by kernel_rfl) (by kernel_rfl) (by kernel_rfl) (fun _ _ _ h => h) hHeld (Or.inl ⟨by rfl, ?_⟩) rfl ?_
            rotate_left
            · intro wq hSw
              go_simp
              try with_reducible rfl
            simp only [List.set_cons_zero, List.set_cons_succ]
            refine take_at (v := ?_) 12 125 rfl rfl (by kernel_rfl) (by kernel_rfl) (by kernel_rfl) (fun _ _ _ h => h) hHeld (Or.inl ⟨by rfl, ?_⟩) rfl ?_
            rotate_left
            · intro wq hSw
              go_simp
              try with_reducible rfl
            simp only [List.set_cons_zero, List.set_cons_succ]
            refine wpAnyH_ready (rs := [10]) (by kernel_rfl) (by simp) ?_
            refine AllReadyH.cons rfl (fun K hK => ?_) AllReadyH.nil
            go_simp
            go_at_call 14; refine (sbytes_any _ g ga cap d _ w7.drew (hs7)).mono ?_; rintro e w8 ⟨⟨b8, rfl, hb8⟩, hB8⟩; obtain ⟨x8, y8, rfl, _, _, hx8⟩ := hb8.shape HQ.out.2.2
            refine hK.out _ _ (Held.of hB8) (fun _ => ?_)
            clear hK K
            try simp only [Act.put, List.setIfInBounds_toArray, List.set_cons_zero, List.set_cons_succ]
            refine held_grow (w1 := w8) (Held.of hB8) ?_
            clear hHeld
            have hHeld : Held w8 w8 := Held.refl _
            refine take_at (v := ?_) 11 124 rfl rfl (by kernel_rfl) (by kernel_rfl) (by kernel_rfl) (fun _ _ _ h => h) hHeld (Or.inl ⟨by rfl, ?_⟩) rfl ?_
            rotate_left
            · intro wq hSw
              have hst := run_string (P := Try.prog) 23 9 5 Try.underlying23 Try.underlying5 Try.underlying9 (c := y8) (hx8.below hSw)
              go_simp
              try with_reducible rfl
            simp only [List.set_cons_zero, List.set_cons_succ]
            refine wpAnyH_ready (rs := [13]) (by kernel_rfl) (by simp) ?_
            refine AllReadyH.cons rfl (fun K hK => ?_) AllReadyH.nil
            go_simp
            go_at_call 18; refine (rbytes5_any ra cap rc (Sk.syn cap l1) w8 (hr7d.below hB8) (by omega)).mono ?_; rintro e w9 ⟨⟨b9, rfl, hb9⟩, hB9⟩; obtain ⟨x9, y9, rfl, _, _, hx9⟩ := hb9.shape HQ.out.2.2; have hD9 := hB8.trans (hB9.mono hB8.size)
            refine hK.out _ _ (Held.of hB9) (fun _ => ?_)
            clear hK K
            try simp only [Act.put, List.setIfInBounds_toArray, List.set_cons_zero, List.set_cons_succ]
            refine held_grow (w1 := w9) (Held.of hB9) ?_
            clear hHeld
            have hHeld : Held w9 w9 := Held.refl _
            refine take_at (v := ?_) 14 127 rfl rfl (by kernel_rfl) (by kernel_rfl) (by kernel_rfl) (fun _ _ _ h => h) hHeld (Or.inl ⟨by rfl, ?_⟩) rfl ?_
            rotate_left
            · intro wq hSw
              have hst := run_string (P := Try.prog) 23 9 5 Try.underlying23 Try.underlying5 Try.underlying9 (c := y9) (hx9.below hSw)
              go_simp
              try with_reducible rfl
            simp only [List.set_cons_zero, List.set_cons_succ]
            refine take_at (v := ?_) 15 128 rfl rfl (by kernel_rfl) (by kernel_rfl) (by kernel_rfl) (fun _ _ _ h => h) hHeld (Or.inl ⟨by rfl, ?_⟩) rfl ?_
            rotate_left
            · intro wq hSw
              go_simp
              try with_reducible rfl
            simp only [List.set_cons_zero, List.set_cons_succ]
            refine take_at (v := ?_) 16 129 rfl rfl (by kernel_rfl) (by kernel_rfl) (by kernel_rfl) (fun _ _ _ h => h) hHeld (Or.inl ⟨by rfl, ?_⟩) rfl ?_
            rotate_left
            · intro wq hSw
              go_simp
              try with_reducible rfl
            simp only [List.set_cons_zero, List.set_cons_succ]
            refine take_at (v := ?_) 17 130 rfl rfl (by kernel_rfl) (by kernel_rfl) (by kernel_rfl) (fun _ _ _ h => h) hHeld (Or.inl ⟨by rfl, ?_⟩) rfl ?_
            rotate_left
            · intro wq hSw
              go_simp
              try with_reducible rfl
            simp only [List.set_cons_zero, List.set_cons_succ]
            refine take_at (v := ?_) 18 131 rfl rfl (by kernel_rfl) (by kernel_rfl) (by kernel_rfl) (fun _ _ _ h => h) hHeld (Or.inl ⟨by rfl, ?_⟩) rfl ?_
            rotate_left
            · intro wq hSw
              go_simp
              try with_reducible rfl
            simp only [List.set_cons_zero, List.set_cons_succ]
            refine take_at (v := ?_) 20 133 rfl rfl (by kernel_rfl) (by kernel_rfl) (by kernel_rfl) (fun _ _ _ h => h) hHeld (Or.inl ⟨by rfl, ?_⟩) rfl ?_
            rotate_left
            · intro wq hSw
              go_simp
              try with_reducible rfl
            simp only [List.set_cons_zero, List.set_cons_succ]
            refine take_at (v := ?_) 21 134 rfl rfl (by kernel_rfl) (by kernel_rfl) (by kernel_rfl) (fun _ _ _ h => h) hHeld (Or.inl ⟨by rfl, ?_⟩) rfl ?_
            rotate_left
            · intro wq hSw
              go_simp
              try with_reducible rfl
            simp only [List.set_cons_zero, List.set_cons_succ]
            refine wpAnyH_ready (rs := [19, 22]) (by kernel_rfl) (by simp) ?_
            refine AllReadyH.cons rfl (fun K hK => ?_) (AllReadyH.cons rfl (fun K hK => ?_) AllReadyH.nil)
            · go_simp
              go_at_call 15; refine (empty_any _ g ga cap d _ w9 (hs7.below hD9) b HQ.out.1).mono ?_; rintro e wk ⟨rfl, rfl⟩
              refine hK.out _ _ hHeld (fun _ => ?_)
              clear hK K
              try simp only [Act.put, List.setIfInBounds_toArray, List.set_cons_zero, List.set_cons_succ]
              refine wpAnyH_ready (rs := [22]) (by kernel_rfl) (by simp) ?_
              refine AllReadyH.cons rfl (fun K hK => ?_) AllReadyH.nil
              go_simp
              rw [make_words cap (by omega) w9]
              go_simp
              obtain ⟨w10, hw10⟩ : ∃ x, x = w9.alloc (.cells (wcells cap fun _ => 0#32) 54) := ⟨_, rfl⟩
              rw [← hw10]
              obtain ⟨hHw10, hBw10⟩ := has_made hw10
              clear hw10
              refine hK.out _ _ (Held.of hBw10) (fun _ => ?_)
              clear hK K
              try simp only [Act.put, List.setIfInBounds_toArray, List.set_cons_zero, List.set_cons_succ]
              refine held_grow (w1 := w10) (Held.of hBw10) ?_
              clear hHeld
              have hHeld : Held w10 w10 := Held.refl _
              refine wpAnyH_ready (rs := [23]) (by kernel_rfl) (by simp) ?_
              refine AllReadyH.cons rfl (fun K hK => ?_) AllReadyH.nil
              go_simp
              go_at_call 10; refine (words_zero ra cap rc w9.heap.size (Sk.syn cap l1) w10 ((hr7d.below hD9).below hBw10) hHw10 (by omega) b HQ.out.1).mono ?_; rintro e w11 ⟨rfl, hB11⟩
              refine hK.out _ _ (Held.of hB11) (fun _ => ?_)
              clear hK K
              try simp only [Act.put, List.setIfInBounds_toArray, List.set_cons_zero, List.set_cons_succ]
              refine held_grow (w1 := w11) (Held.of hB11) ?_
              clear hHeld
              have hHeld : Held w11 w11 := Held.refl _
              refine take_at (v := .bool true) 24 137 rfl rfl (by kernel_rfl) (by kernel_rfl) (by kernel_rfl) (fun _ _ _ h => h) hHeld (Or.inl ⟨by rfl, ?_⟩) rfl ?_
              · intro wq hSw
                go_simp
                skip
              simp only [List.set_cons_zero, List.set_cons_succ]
              refine take_at (v := ?_) 25 138 rfl rfl (by kernel_rfl) (by kernel_rfl) (by kernel_rfl) (fun _ _ _ h => h) hHeld (Or.inl ⟨by rfl, ?_⟩) rfl ?_
              rotate_left
              · intro wq hSw
                go_simp
                try with_reducible rfl
              simp only [List.set_cons_zero, List.set_cons_succ]
              refine take_at (v := ?_) 26 6 rfl rfl (by kernel_rfl) (by kernel_rfl) (by kernel_rfl) (fun _ _ _ h => h) hHeld (Or.inl ⟨by rfl, ?_⟩) rfl ?_
              rotate_left
              · intro wq hSw
                go_simp
                try with_reducible rfl
              simp only [List.set_cons_zero, List.set_cons_succ]
              refine wpAnyH_done (by kernel_rfl) ?_ _
              have hBx := ((hD9.trans (hBw10.mono hD9.size)).trans (hB11.mono (hD9.trans (hBw10.mono hD9.size)).size))
              go_wp2_with fail
              go_ret
              exact ⟨rfl, hT7.trans (hBx.mono hT7.size)⟩
            · go_simp
              rw [make_words cap (by omega) w9]
              go_simp
              obtain ⟨w10, hw10⟩ : ∃ x, x = w9.alloc (.cells (wcells cap fun _ => 0#32) 54) := ⟨_, rfl⟩
              rw [← hw10]
              obtain ⟨hHw10, hBw10⟩ := has_made hw10
              clear hw10
              refine hK.out _ _ (Held.of hBw10) (fun _ => ?_)
              clear hK K
              try simp only [Act.put, List.setIfInBounds_toArray, List.set_cons_zero, List.set_cons_succ]
              refine held_grow (w1 := w10) (Held.of hBw10) ?_
              clear hHeld
              have hHeld : Held w10 w10 := Held.refl _
              refine wpAnyH_ready (rs := [19]) (by kernel_rfl) (by simp) ?_
              refine AllReadyH.cons rfl (fun K hK => ?_) AllReadyH.nil
              go_simp
              go_at_call 15; refine (empty_any _ g ga cap d _ w10 ((hs7.below hD9).below hBw10) b HQ.out.1).mono ?_; rintro e wk ⟨rfl, rfl⟩
              refine hK.out _ _ hHeld (fun _ => ?_)
              clear hK K
              try simp only [Act.put, List.setIfInBounds_toArray, List.set_cons_zero, List.set_cons_succ]
              refine wpAnyH_ready (rs := [23]) (by kernel_rfl) (by simp) ?_
              refine AllReadyH.cons rfl (fun K hK => ?_) AllReadyH.nil
              go_simp
              go_at_call 10; refine (words_zero ra cap rc w9.heap.size (Sk.syn cap l1) w10 ((hr7d.below hD9).below hBw10) hHw10 (by omega) b HQ.out.1).mono ?_; rintro e w11 ⟨rfl, hB11⟩
              refine hK.out _ _ (Held.of hB11) (fun _ => ?_)
              clear hK K
              try simp only [Act.put, List.setIfInBounds_toArray, List.set_cons_zero, List.set_cons_succ]
              refine held_grow (w1 := w11) (Held.of hB11) ?_
              clear hHeld
              have hHeld : Held w11 w11 := Held.refl _
              refine take_at (v := .bool true) 24 137 rfl rfl (by kernel_rfl) (by kernel_rfl) (by kernel_rfl) (fun _ _ _ h => h) hHeld (Or.inl ⟨by rfl, ?_⟩) rfl ?_
              · intro wq hSw
                go_simp
                skip
              simp only [List.set_cons_zero, List.set_cons_succ]
              refine take_at (v := ?_) 25 138 rfl rfl (by kernel_rfl) (by kernel_rfl) (by kernel_rfl) (fun _ _ _ h => h) hHeld (Or.inl ⟨by rfl, ?_⟩) rfl ?_
              rotate_left
              · intro wq hSw
                go_simp
                try with_reducible rfl
              simp only [List.set_cons_zero, List.set_cons_succ]
              refine take_at (v := ?_) 26 6 rfl rfl (by kernel_rfl) (by kernel_rfl) (by kernel_rfl) (fun _ _ _ h => h) hHeld (Or.inl ⟨by rfl, ?_⟩) rfl ?_
              rotate_left
              · intro wq hSw
                go_simp
                try with_reducible rfl
              simp only [List.set_cons_zero, List.set_cons_succ]
              refine wpAnyH_done (by kernel_rfl) ?_ _
              have hBx := ((hD9.trans (hBw10.mono hD9.size)).trans (hB11.mono (hD9.trans (hBw10.mono hD9.size)).size))
              go_wp2_with fail
              go_ret
              exact ⟨rfl, hT7.trans (hBx.mono hT7.size)⟩
set_option maxRecDepth 100000 in
set_option maxHeartbeats 16000000 in
theorem sketchSumsWalk {H : Type} {enc : TypeId × Value → H} (W : World) (base : Nat) (v0 : Value) (d0 : DataW H) (p0 : List MemPlace) (v1 : Value) (d1 : DataW H) (p1 : List MemPlace) (v2 : Value) (d2 : DataW H) (p2 : List MemPlace)
    (o0 : Value.okWide Try.prog W .any base 3 v0) (o1 : Value.okWide Try.prog W .any base 22 v1) (o2 : Value.okWide Try.prog W .any base 23 v2)
    (h0 : DataW.Trod enc Try.prog W 0 (fun _ => true) true 3 v0 d0 p0) (h1 : DataW.Trod enc Try.prog W 0 (fun _ => true) true 22 v1 d1 p1) (h2 : DataW.Trod enc Try.prog W 0 (fun _ => true) true 23 v2 d2 p2) :
    Calls Try.prog 3 #[v0, v1, v2] W fun e w' => e = .returned (.bool true) ∧ Below W.heap.size W w' := by
  obtain ⟨z, rfl, hz⟩ := arg_int Try.underlying3 o0 h0
  obtain ⟨a1, n1, c1, l1, rfl, hw1, hnc1, ha1⟩ := arg_wordsc Try.underlying22 Try.underlying54 (by kernel_rfl) o1 h1
  obtain ⟨a2, n2, c2, lb, rfl, hw2, hnc2, ha2⟩ := arg_bytes Try.underlying23 Try.underlying5 (by kernel_rfl) o2 h2
  clear o0 h0 o1 h1 o2 h2
  have hmx1 : n1 ≤ 9223372036854775807 := hw1.2.1
  have hmx2 : n2 ≤ 9223372036854775807 := hw2.2.1
  by_cases g1 : (20 : Int) < (n1 : Int)
  · have HL := Lib.hid (And.intro hw1 hw2)
    clear hw1 hw2
    go_enter Try.func3, Try.ntmps3
    go_wp2_with (first | (go_at_call 7; refine (alive05 W).mono ?_; rintro e w1 ⟨rfl, hb1⟩))
    go_ret
    exact ⟨rfl, hb1⟩
  · by_cases g2 : (400 : Int) < (n2 : Int)
    · have HL := Lib.hid (And.intro hw1 hw2)
      clear hw1 hw2
      go_enter Try.func3, Try.ntmps3
      go_wp2_with (first | (go_at_call 7; refine (alive05 W).mono ?_; rintro e w1 ⟨rfl, hb1⟩))
      go_ret
      exact ⟨rfl, hb1⟩
    · exact sumsMain W z hz a1 n1 c1 l1 hw1 ha1 a2 n2 c2 lb hw2 hnc2 (by omega) (by omega)
end Go.Proofs.Ytamigcbodplmcaa
