/- SketchFurther -/
import Derived.Test.YtamigcbodplmcaaSkL
import Derived.Test.YtamigcbodplmcaaSkV
import Derived.Test.YtamigcbodplmcaaSkW
import Derived.Test.YtamigcbodplmcaaHe
import Derived.Deep.Cut
import Derived.Deep.CutRange
namespace Go.Proofs.Ytamigcbodplmcaa
open Go Go.RowKit Go.ChangeShapes Go.WideShapes
theorem Words32.dropX {w : World} {x : Addr} {K f : Nat} {l : List (BitVec 32)} (h : Words32 w (some x) K l) (hf : f ≤ K) (ad : Addr) (ha : f < K → ad = x.add f) : Words32 w (some ad) (K - f) (l.drop f) := by
  refine ⟨by rw [List.length_drop, h.1], by have := h.2.1; omega, fun i hi => ⟨ad, rfl, ?_⟩⟩
  obtain ⟨y, e, hx⟩ := h.2.2 (f + i) (by omega)
  injection e with e
  subst e
  rw [ha (by omega), Addr.add_add]
  rw [hx]
  congr 3
  rw [List.getD_eq_getElem?_getD, List.getD_eq_getElem?_getD, List.getElem?_drop]
/-- what Further answers -/
def FuPost (B K : Nat) (l : List (BitVec 32)) (z : Int) (v e : Value) (w : World) : Prop :=
  ((z < 0 ∨ (K : Int) < z) → v = .slice none 0 0 ∧ e = errOf 1) ∧ (∀ f : Nat, z = (f : Int) → f ≤ K → e = .nilIface ∧ OwnB 5 B w v (bytes8 (l.drop f)))
theorem further_any (B g ga K c : Nat) (z : Int) (l : List (BitVec 32)) (w : World) (h : SkA B w g ga K c l) :
    Calls Try.prog 22 #[.pointer (some ⟨g, 0, none⟩), .int .i64 z] w fun e w' => (∃ v e', e = .returned (.tuple #[v, e']) ∧ FuPost w.heap.size K l z v e' w') ∧ Below w.heap.size w w' := by
  by_cases hb : z < 0 ∨ (K : Int) < z
  · refine (further_no B g ga K c z l w h hb).mono ?_
    rintro e w' ⟨rfl, rfl⟩
    exact ⟨⟨_, _, rfl, fun _ => ⟨rfl, rfl⟩, fun f hf hK => by omega⟩, Below.refl _ _⟩
  · obtain ⟨f, rfl⟩ := Int.eq_ofNat_of_zero_le (show 0 ≤ z by omega)
    refine (further_ok B g ga K c f l w h (by omega)).mono ?_
    rintro e w' ⟨⟨v, rfl, ho⟩, hbl⟩
    exact ⟨⟨_, _, rfl, fun h => absurd h hb, fun f' hf _ => by
      obtain rfl : f' = f := by omega
      exact ⟨rfl, ho⟩⟩, hbl⟩
set_option maxRecDepth 100000 in
set_option maxHeartbeats 16000000 in
theorem furtherMain (W : World) (x1 : Addr) (n1 c1 : Nat) (l1 : List (BitVec 32)) (hw1 : Words32 W (some x1) n1 l1) (hnc1 : n1 ≤ c1) (z : Int) (hz : -9223372036854775808 ≤ z ∧ z < 9223372036854775808) (a2 : Option Addr) (n2 c2 : Nat) (lb : List (BitVec 8)) (hw2 : Bytes8 W a2 n2 lb) (hnc2 : n2 ≤ c2)
    (hn1 : 1 ≤ n1) (hn40 : n1 ≤ 40) (hn2 : n2 ≤ 300) :
    Calls Try.prog 5 #[.slice (some x1) n1 c1, .int .i64 z, .slice a2 n2 c2] W fun e w' => e = .returned (.bool true) ∧ Below W.heap.size W w' := by
  have g1 : ¬ (n1 : Int) < 1 := by omega
  have g2 : ¬ (40 : Int) < (n1 : Int) := by omega
  have g3 : ¬ (300 : Int) < (n2 : Int) := by omega
  obtain ⟨m, hm⟩ : ∃ m, m = 4 * n1 := ⟨_, rfl⟩
  have HM := Lib.hid hm
  have hbl : (bytes8 l1).length = m := by rw [bytes8_length, hw1.1, hm]
  have hss : sums8 (bytes8 l1) = l1 := sums8_bytes8 l1
  have HL := Lib.hid (And.intro hw1.1 (And.intro hbl (And.intro hss hw2.1)))
  clear hm hbl hss
  go_enter Try.func5, Try.ntmps5
  go_upto_region 9 with (first
      | (go_at_call 22; refine (further_any _ g ga n1 d z l1 w3 hsk).mono ?_; rintro e w4 ⟨⟨v9, v8, rfl, hfu⟩, hb4⟩; have HFU := Lib.hid hfu; clear hfu; have hT4 := hT3.trans (hb4.mono hT3.size))
      | (go_at_call 9; refine (sread_ok ba m bc (bytes8 l1) w2 hbw hbc n1 HM hn1 hn40).mono ?_; rw [HL.out.2.2.1]; rintro e w3 ⟨⟨g, ga, d, rfl, hsk⟩, hb3⟩; have hT3 := hT2.trans (hb3.mono hT2.size))
      | (go_at_call 18; refine (rbytes5_any (some x1) n1 c1 l1 w1 (hw1.below hb1) (by omega)).mono ?_; rintro e w2 ⟨⟨bv, rfl, hbv⟩, hb2⟩; obtain ⟨ba, bc, rfl, hbc, hba0, hbw⟩ := hbv.shape HL.out.2.1; have hT2 := hb1.trans (hb2.mono hb1.size))
      | (go_at_call 7; refine (alive05 W).mono ?_; rintro e w1 ⟨rfl, hb1⟩))
  go_cut [52] from 45 (fun v wx => v = .bool (decide (z < 0 ∨ (n1 : Int) < z)) ∧ w4 = wx)
  case first =>
    by_cases hz0 : z < 0
    · have hdd : decide (z < 0 ∨ (n1 : Int) < z) = true := decide_eq_true (.inl hz0)
      have HDD := Lib.hid hdd
      clear hdd
      go_wp2_with fail
      go_meet
      case rel => exact ⟨by rw [HDD.out], rfl⟩
    · by_cases hz1 : (n1 : Int) < z
      · have hdd : decide (z < 0 ∨ (n1 : Int) < z) = true := decide_eq_true (.inr hz1)
        have HDD := Lib.hid hdd
        clear hdd
        go_wp2_with fail
        go_meet
        case rel => exact ⟨by rw [HDD.out], rfl⟩
      · have hdd : decide (z < 0 ∨ (n1 : Int) < z) = false := decide_eq_false (fun h => h.elim hz0 hz1)
        have HDD := Lib.hid hdd
        clear hdd
        go_wp2_with fail
        go_meet
        case rel => exact ⟨by rw [HDD.out], rfl⟩
  case rest =>
    obtain ⟨rfl, rfl⟩ := hcut
    obtain ⟨bd, hbd⟩ : ∃ bd, decide (z < 0 ∨ (n1 : Int) < z) = bd := ⟨_, rfl⟩
    rw [hbd]
    have HBD := Lib.hid hbd
    clear hbd
    go_upto_if 52 with fail
    go_cut [8, 9, 10, 11, 12] from 39 (fun _ _ _ _ _ wx => Below w3.heap.size w3 wx)
    case first =>
      cases bd with
      | true =>
        have hov : z < 0 ∨ (n1 : Int) < z := of_decide_eq_true HBD.out
        obtain ⟨rfl, rfl⟩ := HFU.out.1 hov
        clear hov HFU HBD
        go_wp2_with (first | (go_at_call 12; refine (is_err 1 rfl _).mono ?_; rintro e wi ⟨rfl, rfl⟩))
        go_meet
        case rel => exact hb4
      | false =>
        have hov : ¬ (z < 0 ∨ (n1 : Int) < z) := of_decide_eq_false HBD.out
        obtain ⟨f, rfl⟩ := Int.eq_ofNat_of_zero_le (show 0 ≤ z by omega)
        have hf : f ≤ n1 := by omega
        obtain ⟨rfl, ho⟩ := HFU.out.2 f rfl hf
        clear hov HFU HBD hz
        obtain ⟨m9, hm9⟩ : ∃ m9, 4 * (n1 - f) = m9 := ⟨_, rfl⟩
        obtain ⟨x9, y9, rfl, hy9, _, hx9⟩ := ho.shape (K := m9) (by rw [bytes8_length, List.length_drop, HL.out.1, hm9])
        have HM9 := Lib.hid hm9
        clear hm9
        have h1 : (0 : Int) ≤ (f : Int) := by omega
        have h2 : (f : Int) ≤ (n1 : Int) := by omega
        have h3 : (f : Int) ≤ (c1 : Int) := by omega
        have h4 : (n1 : Int) ≤ (c1 : Int) := by omega
        have hw4 := hw1.below hT4
        obtain ⟨ad, had⟩ : ∃ ad : Addr, ad = if c1 = f then x1 else x1.add f := ⟨_, rfl⟩
        have HAD := Lib.hid had
        clear had
        have hwd : Words32 w4.drew (some ad) (n1 - f) (l1.drop f) := hw4.draw.dropX hf ad (fun h => by rw [HAD.out, if_neg (by omega)])
        have HWD := Lib.hid hwd
        clear hwd
        go_upto_region 12 with fail
        go_cut [72] from 61 (fun v wx => v = .bool false ∧ Below w4.heap.size w4 wx)
        case first =>
          refine wp_region_held_drew (S := Held w4.drew) (by kernel_rfl) (Held.refl _) (fun hHeld => ?_)
          refine take_at (v := ?_) 0 61 rfl rfl (by kernel_rfl) (by kernel_rfl) (by kernel_rfl) (fun _ _ _ h => h) hHeld (Or.inl ⟨by rfl, ?_⟩) rfl ?_
          rotate_left
          · intro wq hSw
            go_simp
            try with_reducible rfl
          simp only [List.set_cons_zero, List.set_cons_succ]
          refine take_at (v := ?_) 1 62 rfl rfl (by kernel_rfl) (by kernel_rfl) (by kernel_rfl) (fun _ _ _ h => h) hHeld (Or.inl ⟨by rfl, ?_⟩) rfl ?_
          rotate_left
          · intro wq hSw
            go_simp
            try with_reducible rfl
          simp only [List.set_cons_zero, List.set_cons_succ]
          refine take_at (v := ?_) 2 63 rfl rfl (by kernel_rfl) (by kernel_rfl) (by kernel_rfl) (fun _ _ _ h => h) hHeld (Or.inl ⟨by rfl, ?_⟩) rfl ?_
          rotate_left
          · intro wq hSw
            go_simp
            try with_reducible rfl
          simp only [List.set_cons_zero, List.set_cons_succ]
          refine take_at (v := ?_) 3 64 rfl rfl (by kernel_rfl) (by kernel_rfl) (by kernel_rfl) (fun _ _ _ h => h) hHeld (Or.inl ⟨by rfl, ?_⟩) rfl ?_
          rotate_left
          · intro wq hSw
            go_simp
            try with_reducible rfl
          simp only [List.set_cons_zero, List.set_cons_succ]
          refine take_at (v := ?_) 4 65 rfl rfl (by kernel_rfl) (by kernel_rfl) (by kernel_rfl) (fun _ _ _ h => h) hHeld (Or.inl ⟨by rfl, ?_⟩) rfl ?_
          rotate_left
          · intro wq hSw
            have hst := run_string (P := Try.prog) 23 9 5 Try.underlying23 Try.underlying5 Try.underlying9 (c := y9) (hx9.draw.below hSw)
            go_simp
            try with_reducible rfl
          simp only [List.set_cons_zero, List.set_cons_succ]
          refine take_at (v := ?_) 5 66 rfl rfl (by kernel_rfl) (by kernel_rfl) (by kernel_rfl) (fun _ _ _ h => h) hHeld (Or.inl ⟨by rfl, ?_⟩) rfl ?_
          rotate_left
          · intro wq hSw
            go_simp
            try with_reducible rfl
          simp only [List.set_cons_zero, List.set_cons_succ]
          refine take_at (v := ?_) 6 67 rfl rfl (by kernel_rfl) (by kernel_rfl) (by kernel_rfl) (fun _ _ _ h => h) hHeld (Or.inl ⟨by rfl, ?_⟩) rfl ?_
          rotate_left
          · intro wq hSw
            go_simp
            try with_reducible rfl
          simp only [List.set_cons_zero, List.set_cons_succ]
          refine take_at (v := .slice (some ad) (n1 - f) (c1 - f)) 7 68 rfl rfl (by kernel_rfl) (by kernel_rfl) (by kernel_rfl) (fun _ _ _ h => h) hHeld (Or.inl ⟨by rfl, ?_⟩) rfl ?_
          · intro wq hSw
            by_cases hcf : c1 = f
            · have hae : ad = x1 := by rw [HAD.out, if_pos hcf]
              subst hae
              go_simp
            · have hae : ad = x1.add f := by rw [HAD.out, if_neg hcf]
              subst hae
              go_simp
            skip
          simp only [List.set_cons_zero, List.set_cons_succ]
          refine wpAnyH_ready (rs := [8]) (by kernel_rfl) (by simp) ?_
          refine AllReadyH.cons rfl (fun K hK => ?_) AllReadyH.nil
          go_simp
          go_at_call 18; refine (rbytes5_any (some ad) (n1 - f) (c1 - f) (l1.drop f) w4.drew HWD.out (by omega)).mono ?_; rintro e w5 ⟨⟨b5, rfl, hb5'⟩, hB5⟩; obtain ⟨x5, y5, rfl, _, _, hx5⟩ := hb5'.shape (K := m9) (by rw [bytes8_length, List.length_drop, HL.out.1, HM9.out])
          refine hK.out _ _ (Held.of hB5) (fun _ => ?_)
          clear hK K
          try simp only [Act.put, List.setIfInBounds_toArray, List.set_cons_zero, List.set_cons_succ]
          refine held_grow (w1 := w5) (Held.of hB5) ?_
          clear hHeld
          have hHeld : Held w5 w5 := Held.refl _
          refine take_at (v := ?_) 9 70 rfl rfl (by kernel_rfl) (by kernel_rfl) (by kernel_rfl) (fun _ _ _ h => h) hHeld (Or.inl ⟨by rfl, ?_⟩) rfl ?_
          rotate_left
          · intro wq hSw
            have hst := run_string (P := Try.prog) 23 9 5 Try.underlying23 Try.underlying5 Try.underlying9 (c := y5) (hx5.below hSw)
            go_simp
            try with_reducible rfl
          simp only [List.set_cons_zero, List.set_cons_succ]
          refine take_at (v := ?_) 10 71 rfl rfl (by kernel_rfl) (by kernel_rfl) (by kernel_rfl) (fun _ _ _ h => h) hHeld (Or.inl ⟨by rfl, ?_⟩) rfl ?_
          rotate_left
          · intro wq hSw
            go_simp
            try with_reducible rfl
          simp only [List.set_cons_zero, List.set_cons_succ]
          refine take_at (v := ?_) 11 72 rfl rfl (by kernel_rfl) (by kernel_rfl) (by kernel_rfl) (fun _ _ _ h => h) hHeld (Or.inl ⟨by rfl, ?_⟩) rfl ?_
          rotate_left
          · intro wq hSw
            go_simp
            try with_reducible rfl
          simp only [List.set_cons_zero, List.set_cons_succ]
          refine wpAnyH_done (by kernel_rfl) ?_ _
          go_wp2_with fail
          go_meet
          case rel => exact ⟨rfl, (Below.refl _ w4).drew.trans hB5⟩
        case rest =>
          obtain ⟨rfl, hB5⟩ := hcut
          obtain ⟨w5, hw5⟩ : ∃ w5, w5 = wc := ⟨_, rfl⟩
          rw [← hw5] at hB5 ⊢
          clear hw5
          have hB3 := hb4.trans (hB5.mono hb4.size)
          have hT5 := hT4.trans (hB5.mono hT4.size)
          have hx9 := hx9.below hB5
          by_cases hf0 : f = 0
          · subst hf0
            go_wp2_with fail
            go_meet
            case rel => exact hB3
          · have hf1 : 1 ≤ f := by omega
            have g5 : (0 : Int) < (f : Int) := by omega
            obtain ⟨m6, hm6⟩ : ∃ m6, 4 * f = m6 := ⟨_, rfl⟩
            have HM6 := Lib.hid (And.intro hm6.symm (show (bytes8 (l1.take f)).length = m6 by rw [bytes8_length, List.length_take, HL.out.1, ← hm6, Nat.min_eq_left hf]))
            clear hm6 hf0
            go_upto_region 19 with (first
        | (go_at_call 23; refine (join_ok _ g7 ga7 f d7 n1 (l1.take f) x9 m9 y9 (bytes8 (l1.drop f)) w7 hs7 hx7 hy9 (Lib.hid (by have := HM9.out; omega)) (by have := HM9.out; omega) (Lib.hid (by have := HM9.out; omega)) hn40).mono ?_; rw [sums8_bytes8, List.take_append_drop]; rintro e w8 ⟨⟨g8, ga8, d8, rfl, hs8⟩, hB8⟩; have hB38 := hB37.trans (hB8.mono hB37.size))
        | (go_at_call 9; refine (sread_ok x6 m6 y6 (bytes8 (l1.take f)) w6 hx6 hy6 f (Lib.hid HM6.out.1) hf1 (by omega)).mono ?_; rw [sums8_bytes8]; rintro e w7 ⟨⟨g7, ga7, d7, rfl, hs7⟩, hB7⟩; have hB37 := hB36.trans (hB7.mono hB36.size); have hx7 := (hx9.below hB6).below hB7)
        | (go_at_call 18; refine (rbytes5_any (some x1) f c1 (l1.take f) w5 ((hw1.below hT5).take hf) (by omega)).mono ?_; rintro e w6 ⟨⟨b6, rfl, hb6⟩, hB6⟩; obtain ⟨x6, y6, rfl, hy6, _, hx6⟩ := hb6.shape HM6.out.2; have hB36 := hB3.trans (hB6.mono hB3.size)))
            have hs8' := hs8.draw
            have hsk8 := (hsk.below hB38).draw
            have hs78 := (hs7.below hB8).draw
            have hB38d := hB38.drew
            refine wp_region_held_drew (S := Held w8.drew) (by kernel_rfl) (Held.refl _) (fun hHeld => ?_)
            refine take_at (v := ?_) 0 91 rfl rfl (by kernel_rfl) (by kernel_rfl) (by kernel_rfl) (fun _ _ _ h => h) hHeld (Or.inl ⟨by rfl, ?_⟩) rfl ?_
            rotate_left
            · intro wq hSw
              go_simp
              try with_reducible rfl
            simp only [List.set_cons_zero, List.set_cons_succ]
            refine take_at (v := ?_) 1 92 rfl rfl (by kernel_rfl) (by kernel_rfl) (by kernel_rfl) (fun _ _ _ h => h) hHeld (Or.inl ⟨by rfl, ?_⟩) rfl ?_
            rotate_left
            · intro wq hSw
              go_simp
              try with_reducible rfl
            simp only [List.set_cons_zero, List.set_cons_succ]
            refine take_at (v := ?_) 2 93 rfl rfl (by kernel_rfl) (by kernel_rfl) (by kernel_rfl) (fun _ _ _ h => h) hHeld (Or.inl ⟨by rfl, ?_⟩) rfl ?_
            rotate_left
            · intro wq hSw
              go_simp
              try with_reducible rfl
            simp only [List.set_cons_zero, List.set_cons_succ]
            refine take_at (v := ?_) 3 94 rfl rfl (by kernel_rfl) (by kernel_rfl) (by kernel_rfl) (fun _ _ _ h => h) hHeld (Or.inl ⟨by rfl, ?_⟩) rfl ?_
            rotate_left
            · intro wq hSw
              go_simp
              try with_reducible rfl
            simp only [List.set_cons_zero, List.set_cons_succ]
            refine take_at (v := ?_) 6 97 rfl rfl (by kernel_rfl) (by kernel_rfl) (by kernel_rfl) (fun _ _ _ h => h) hHeld (Or.inl ⟨by rfl, ?_⟩) rfl ?_
            rotate_left
            · intro wq hSw
              go_simp
              try with_reducible rfl
            simp only [List.set_cons_zero, List.set_cons_succ]
            refine wpAnyH_ready (rs := [4]) (by kernel_rfl) (by simp) ?_
            refine AllReadyH.cons rfl (fun K hK => ?_) AllReadyH.nil
            go_simp
            go_at_call 14; refine (sbytes_any _ g8 ga8 n1 d8 _ w8.drew hs8').mono ?_; rintro e w9 ⟨⟨b4, rfl, hb4'⟩, hB9⟩; obtain ⟨x4, y4, rfl, _, _, hx4⟩ := hb4'.shape HL.out.2.1
            refine hK.out _ _ (Held.of hB9) (fun _ => ?_)
            clear hK K
            try simp only [Act.put, List.setIfInBounds_toArray, List.set_cons_zero, List.set_cons_succ]
            refine held_grow (w1 := w9) (Held.of hB9) ?_
            clear hHeld
            have hHeld : Held w9 w9 := Held.refl _
            refine take_at (v := ?_) 5 96 rfl rfl (by kernel_rfl) (by kernel_rfl) (by kernel_rfl) (fun _ _ _ h => h) hHeld (Or.inl ⟨by rfl, ?_⟩) rfl ?_
            rotate_left
            · intro wq hSw
              have hst := run_string (P := Try.prog) 23 9 5 Try.underlying23 Try.underlying5 Try.underlying9 (c := y4) (hx4.below hSw)
              go_simp
              try with_reducible rfl
            simp only [List.set_cons_zero, List.set_cons_succ]
            refine wpAnyH_ready (rs := [7]) (by kernel_rfl) (by simp) ?_
            refine AllReadyH.cons rfl (fun K hK => ?_) AllReadyH.nil
            go_simp
            go_at_call 14; refine (sbytes_any _ g ga n1 d _ w9 (hsk8.below hB9)).mono ?_; rintro e w10 ⟨⟨b2, rfl, hb2'⟩, hB10⟩; obtain ⟨x2, y2, rfl, _, _, hx2⟩ := hb2'.shape HL.out.2.1; have hD10 := hB9.trans (hB10.mono hB9.size)
            refine hK.out _ _ (Held.of hB10) (fun _ => ?_)
            clear hK K
            try simp only [Act.put, List.setIfInBounds_toArray, List.set_cons_zero, List.set_cons_succ]
            refine held_grow (w1 := w10) (Held.of hB10) ?_
            clear hHeld
            have hHeld : Held w10 w10 := Held.refl _
            refine take_at (v := ?_) 8 99 rfl rfl (by kernel_rfl) (by kernel_rfl) (by kernel_rfl) (fun _ _ _ h => h) hHeld (Or.inl ⟨by rfl, ?_⟩) rfl ?_
            rotate_left
            · intro wq hSw
              have hst := run_string (P := Try.prog) 23 9 5 Try.underlying23 Try.underlying5 Try.underlying9 (c := y2) (hx2.below hSw)
              go_simp
              try with_reducible rfl
            simp only [List.set_cons_zero, List.set_cons_succ]
            refine take_at (v := ?_) 9 100 rfl rfl (by kernel_rfl) (by kernel_rfl) (by kernel_rfl) (fun _ _ _ h => h) hHeld (Or.inl ⟨by rfl, ?_⟩) rfl ?_
            rotate_left
            · intro wq hSw
              go_simp
              try with_reducible rfl
            simp only [List.set_cons_zero, List.set_cons_succ]
            refine take_at (v := ?_) 10 101 rfl rfl (by kernel_rfl) (by kernel_rfl) (by kernel_rfl) (fun _ _ _ h => h) hHeld (Or.inl ⟨by rfl, ?_⟩) rfl ?_
            rotate_left
            · intro wq hSw
              go_simp
              try with_reducible rfl
            simp only [List.set_cons_zero, List.set_cons_succ]
            refine take_at (v := ?_) 11 102 rfl rfl (by kernel_rfl) (by kernel_rfl) (by kernel_rfl) (fun _ _ _ h => h) hHeld (Or.inl ⟨by rfl, ?_⟩) rfl ?_
            rotate_left
            · intro wq hSw
              go_simp
              try with_reducible rfl
            simp only [List.set_cons_zero, List.set_cons_succ]
            refine take_at (v := ?_) 12 103 rfl rfl (by kernel_rfl) (by kernel_rfl) (by kernel_rfl) (fun _ _ _ h => h) hHeld (Or.inl ⟨by rfl, ?_⟩) rfl ?_
            rotate_left
            · intro wq hSw
              go_simp
              try with_reducible rfl
            simp only [List.set_cons_zero, List.set_cons_succ]
            refine take_at (v := ?_) 14 105 rfl rfl (by kernel_rfl) (by kernel_rfl) (by kernel_rfl) (fun _ _ _ h => h) hHeld (Or.inl ⟨by rfl, ?_⟩) rfl ?_
            rotate_left
            · intro wq hSw
              go_simp
              try with_reducible rfl
            simp only [List.set_cons_zero, List.set_cons_succ]
            refine wpAnyH_ready (rs := [13]) (by kernel_rfl) (by simp) ?_
            refine AllReadyH.cons rfl (fun K hK => ?_) AllReadyH.nil
            go_simp
            go_at_call 13; refine (capacity_any _ g7 ga7 f d7 _ w10 (hs78.below hD10)).mono ?_; rintro e w11 ⟨rfl, rfl⟩
            refine hK.out _ _ hHeld (fun _ => ?_)
            clear hK K
            try simp only [Act.put, List.setIfInBounds_toArray, List.set_cons_zero, List.set_cons_succ]
            refine take_at (v := ?_) 15 106 rfl rfl (by kernel_rfl) (by kernel_rfl) (by kernel_rfl) (fun _ _ _ h => h) hHeld (Or.inl ⟨by rfl, ?_⟩) rfl ?_
            rotate_left
            · intro wq hSw
              go_simp
              try with_reducible rfl
            simp only [List.set_cons_zero, List.set_cons_succ]
            refine take_at (v := ?_) 16 107 rfl rfl (by kernel_rfl) (by kernel_rfl) (by kernel_rfl) (fun _ _ _ h => h) hHeld (Or.inl ⟨by rfl, ?_⟩) rfl ?_
            rotate_left
            · intro wq hSw
              go_simp
              try with_reducible rfl
            simp only [List.set_cons_zero, List.set_cons_succ]
            refine wpAnyH_done (by kernel_rfl) ?_ _
            go_wp2_with fail
            go_meet
            case rel => exact hB38d.trans (hD10.mono hB38d.size)
    case rest =>
      clear HFU HBD hb4 hT4
      obtain ⟨w4', hw4'⟩ : ∃ w4', w4' = wc := ⟨_, rfl⟩
      rw [← hw4'] at hcut ⊢
      clear hw4'
      have hT4 := hT3.trans (hcut.mono hT3.size)
      have hs4 := hsk.below hcut
      have hm4 := hw2.below hT4
      by_cases h24 : n2 % 4 = 0
      · have H24 := Lib.hid h24
        clear h24
        obtain ⟨q2, hq2⟩ : ∃ q2, n2 = 4 * q2 := ⟨n2 / 4, by have := H24.out; omega⟩
        have hq75 : q2 ≤ 75 := by omega
        have HQ2 := Lib.hid hq2
        have hlq : (sums8 lb).length = q2 := by rw [sums8_length]; have := HL.out.2.2.2; omega
        have HLQ := Lib.hid hlq
        clear hq2 hlq
        by_cases hov : 40 < n1 + q2
        · have g6 : (40 : Int) < (q2 : Int) + (n1 : Int) := by omega
          have g7 : (40 : Int) < (n1 : Int) + (q2 : Int) := by omega
          go_wp2_with (first
          | (go_at_call 12; refine (is_err 1 rfl _).mono ?_; rintro e wi ⟨rfl, rfl⟩)
          | (go_at_call 11; refine (rsums5_ok a2 n2 c2 lb w4' hm4 H24 (by omega)).mono ?_; rintro e w5 ⟨⟨v5, rfl, hv5⟩, hB5⟩; obtain ⟨ra5, rc5, rfl, _, _, hr5⟩ := fresh_shapeK hv5.fresh HLQ.out)
          | (go_at_call 23; refine (join_range _ g ga n1 d l1 a2 n2 c2 w4' hs4 H24 (by omega) (Lib.hid (by have := HQ2.out; omega))).mono ?_; rintro e wj ⟨rfl, rfl⟩))
          go_ret
          exact ⟨rfl, hT4.trans (hB5.mono hT4.size)⟩
        · have g6 : ¬ (40 : Int) < (q2 : Int) + (n1 : Int) := by omega
          have g7 : ¬ (40 : Int) < (n1 : Int) + (q2 : Int) := by omega
          obtain ⟨N, hN⟩ : ∃ N, N = n1 + n2 / 4 := ⟨_, rfl⟩
          have hN40 : N ≤ 40 := by have := HQ2.out; omega
          obtain ⟨mN, hmN⟩ : ∃ mN, mN = m + n2 := ⟨_, rfl⟩
          have hmm : m ≤ 160 := by have := HM.out; omega
          have HN := Lib.hid hN
          have hj : bytes8 (l1 ++ sums8 lb) = bytes8 l1 ++ lb := by rw [bytes8_append, bytes8_sums8 q2 lb (by rw [HL.out.2.2.2]; exact HQ2.out)]
          have HJ := Lib.hid (And.intro hj (show (bytes8 (l1 ++ sums8 lb)).length = mN by rw [hj, List.length_append, HL.out.2.1, HL.out.2.2.2, hmN]))
          clear hj hN hmN hov
          go_upto_region 27 with (first
          | (go_at_call 11; refine (rsums5_ok a2 n2 c2 lb w5 hm5 H24 (by omega)).mono ?_; rintro e w6 ⟨⟨v5, rfl, hv5⟩, hB6⟩; obtain ⟨ra5, rc5, rfl, _, _, hr5⟩ := fresh_shapeK hv5.fresh HLQ.out; have hT6 := hT5.trans (hB6.mono hT5.size))
          | (go_at_call 23; refine (join_ok _ g ga n1 d N l1 a2 n2 c2 lb w4' hs4 hm4 hnc2 H24 (by omega) HN hN40).mono ?_; rintro e w5 ⟨⟨g5, ga5, d5, rfl, hs5⟩, hB5⟩; have hT5 := hT4.trans (hB5.mono hT4.size); have hm5 := hm4.below hB5))
          have hs6 := (hs5.below hB6).draw
          have hk6 := ((hs4.below hB5).below hB6).draw
          have hm6 := (hm5.below hB6).draw
          have hT6d := hT6.drew
          have hzz : (strB (bytes8 l1)).size + (strB lb).size ≤ 9223372036854775807 := by rw [strB_size, strB_size, HL.out.2.1, HL.out.2.2.2]; omega
          have hadd : ∀ w : World, (Op.stringOp .add (strB (bytes8 l1)) (strB lb)).run Try.prog w = .ok (.string (strB (bytes8 (l1 ++ sums8 lb)))) w := fun w => by rw [run_string_add_sum w _ _ hzz, strB_append, HJ.out.1]
          have HADD := Lib.hid hadd
          clear hzz hadd
          refine wp_region_held_drew (S := Held w6.drew) (by kernel_rfl) (Held.refl _) (fun hHeld => ?_)
          refine take_at (v := ?_) 0 141 rfl rfl (by kernel_rfl) (by kernel_rfl) (by kernel_rfl) (fun _ _ _ h => h) hHeld (Or.inl ⟨by rfl, ?_⟩) rfl ?_
          rotate_left
          · intro wq hSw
            go_simp
            try with_reducible rfl
          simp only [List.set_cons_zero, List.set_cons_succ]
          refine take_at (v := ?_) 1 142 rfl rfl (by kernel_rfl) (by kernel_rfl) (by kernel_rfl) (fun _ _ _ h => h) hHeld (Or.inl ⟨by rfl, ?_⟩) rfl ?_
          rotate_left
          · intro wq hSw
            go_simp
            try with_reducible rfl
          simp only [List.set_cons_zero, List.set_cons_succ]
          refine take_at (v := ?_) 2 143 rfl rfl (by kernel_rfl) (by kernel_rfl) (by kernel_rfl) (fun _ _ _ h => h) hHeld (Or.inl ⟨by rfl, ?_⟩) rfl ?_
          rotate_left
          · intro wq hSw
            go_simp
            try with_reducible rfl
          simp only [List.set_cons_zero, List.set_cons_succ]
          refine take_at (v := ?_) 3 144 rfl rfl (by kernel_rfl) (by kernel_rfl) (by kernel_rfl) (fun _ _ _ h => h) hHeld (Or.inl ⟨by rfl, ?_⟩) rfl ?_
          rotate_left
          · intro wq hSw
            go_simp
            try with_reducible rfl
          simp only [List.set_cons_zero, List.set_cons_succ]
          refine take_at (v := ?_) 6 147 rfl rfl (by kernel_rfl) (by kernel_rfl) (by kernel_rfl) (fun _ _ _ h => h) hHeld (Or.inl ⟨by rfl, ?_⟩) rfl ?_
          rotate_left
          · intro wq hSw
            go_simp
            try with_reducible rfl
          simp only [List.set_cons_zero, List.set_cons_succ]
          refine take_at (v := ?_) 9 150 rfl rfl (by kernel_rfl) (by kernel_rfl) (by kernel_rfl) (fun _ _ _ h => h) hHeld (Or.inl ⟨by rfl, ?_⟩) rfl ?_
          rotate_left
          · intro wq hSw
            go_simp
            try with_reducible rfl
          simp only [List.set_cons_zero, List.set_cons_succ]
          refine take_at (v := ?_) 10 151 rfl rfl (by kernel_rfl) (by kernel_rfl) (by kernel_rfl) (fun _ _ _ h => h) hHeld (Or.inl ⟨by rfl, ?_⟩) rfl ?_
          rotate_left
          · intro wq hSw
            have hst := run_string (P := Try.prog) 23 9 5 Try.underlying23 Try.underlying5 Try.underlying9 (c := c2) (hm6.below hSw)
            go_simp
            try with_reducible rfl
          simp only [List.set_cons_zero, List.set_cons_succ]
          refine wpAnyH_ready (rs := [4]) (by kernel_rfl) (by simp) ?_
          refine AllReadyH.cons rfl (fun K hK => ?_) AllReadyH.nil
          go_simp
          go_at_call 14; refine (sbytes_any _ g5 ga5 N d5 _ w6.drew hs6).mono ?_; rintro e w7 ⟨⟨b4, rfl, hb4'⟩, hB7⟩; obtain ⟨x4, y4, rfl, _, _, hx4⟩ := hb4'.shape HJ.out.2
          refine hK.out _ _ (Held.of hB7) (fun _ => ?_)
          clear hK K
          try simp only [Act.put, List.setIfInBounds_toArray, List.set_cons_zero, List.set_cons_succ]
          refine held_grow (w1 := w7) (Held.of hB7) ?_
          clear hHeld
          have hHeld : Held w7 w7 := Held.refl _
          refine take_at (v := ?_) 5 146 rfl rfl (by kernel_rfl) (by kernel_rfl) (by kernel_rfl) (fun _ _ _ h => h) hHeld (Or.inl ⟨by rfl, ?_⟩) rfl ?_
          rotate_left
          · intro wq hSw
            have hst := run_string (P := Try.prog) 23 9 5 Try.underlying23 Try.underlying5 Try.underlying9 (c := y4) (hx4.below hSw)
            go_simp
            try with_reducible rfl
          simp only [List.set_cons_zero, List.set_cons_succ]
          refine wpAnyH_ready (rs := [7]) (by kernel_rfl) (by simp) ?_
          refine AllReadyH.cons rfl (fun K hK => ?_) AllReadyH.nil
          go_simp
          go_at_call 14; refine (sbytes_any _ g ga n1 d _ w7 (hk6.below hB7)).mono ?_; rintro e w8 ⟨⟨b2, rfl, hb2'⟩, hB8⟩; obtain ⟨x2, y2, rfl, _, _, hx2⟩ := hb2'.shape HL.out.2.1; have hD8 := hB7.trans (hB8.mono hB7.size)
          refine hK.out _ _ (Held.of hB8) (fun _ => ?_)
          clear hK K
          try simp only [Act.put, List.setIfInBounds_toArray, List.set_cons_zero, List.set_cons_succ]
          refine held_grow (w1 := w8) (Held.of hB8) ?_
          clear hHeld
          have hHeld : Held w8 w8 := Held.refl _
          refine take_at (v := ?_) 8 149 rfl rfl (by kernel_rfl) (by kernel_rfl) (by kernel_rfl) (fun _ _ _ h => h) hHeld (Or.inl ⟨by rfl, ?_⟩) rfl ?_
          rotate_left
          · intro wq hSw
            have hst := run_string (P := Try.prog) 23 9 5 Try.underlying23 Try.underlying5 Try.underlying9 (c := y2) (hx2.below hSw)
            go_simp
            try with_reducible rfl
          simp only [List.set_cons_zero, List.set_cons_succ]
          refine take_at (v := .string (strB (bytes8 (l1 ++ sums8 lb)))) 11 152 rfl rfl (by kernel_rfl) (by kernel_rfl) (by kernel_rfl) (fun _ _ _ h => h) hHeld (Or.inl ⟨by rfl, ?_⟩) rfl ?_
          · intro wq hSw
            have hst := HADD.out wq
            go_simp
            skip
          simp only [List.set_cons_zero, List.set_cons_succ]
          refine take_at (v := ?_) 12 153 rfl rfl (by kernel_rfl) (by kernel_rfl) (by kernel_rfl) (fun _ _ _ h => h) hHeld (Or.inl ⟨by rfl, ?_⟩) rfl ?_
          rotate_left
          · intro wq hSw
            go_simp
            try with_reducible rfl
          simp only [List.set_cons_zero, List.set_cons_succ]
          refine take_at (v := ?_) 13 154 rfl rfl (by kernel_rfl) (by kernel_rfl) (by kernel_rfl) (fun _ _ _ h => h) hHeld (Or.inl ⟨by rfl, ?_⟩) rfl ?_
          rotate_left
          · intro wq hSw
            go_simp
            try with_reducible rfl
          simp only [List.set_cons_zero, List.set_cons_succ]
          refine take_at (v := ?_) 14 155 rfl rfl (by kernel_rfl) (by kernel_rfl) (by kernel_rfl) (fun _ _ _ h => h) hHeld (Or.inl ⟨by rfl, ?_⟩) rfl ?_
          rotate_left
          · intro wq hSw
            go_simp
            try with_reducible rfl
          simp only [List.set_cons_zero, List.set_cons_succ]
          refine take_at (v := ?_) 15 156 rfl rfl (by kernel_rfl) (by kernel_rfl) (by kernel_rfl) (fun _ _ _ h => h) hHeld (Or.inl ⟨by rfl, ?_⟩) rfl ?_
          rotate_left
          · intro wq hSw
            go_simp
            try with_reducible rfl
          simp only [List.set_cons_zero, List.set_cons_succ]
          refine take_at (v := ?_) 17 158 rfl rfl (by kernel_rfl) (by kernel_rfl) (by kernel_rfl) (fun _ _ _ h => h) hHeld (Or.inl ⟨by rfl, ?_⟩) rfl ?_
          rotate_left
          · intro wq hSw
            go_simp
            try with_reducible rfl
          simp only [List.set_cons_zero, List.set_cons_succ]
          refine take_at (v := ?_) 18 159 rfl rfl (by kernel_rfl) (by kernel_rfl) (by kernel_rfl) (fun _ _ _ h => h) hHeld (Or.inl ⟨by rfl, ?_⟩) rfl ?_
          rotate_left
          · intro wq hSw
            go_simp
            try with_reducible rfl
          simp only [List.set_cons_zero, List.set_cons_succ]
          refine wpAnyH_ready (rs := [16]) (by kernel_rfl) (by simp) ?_
          refine AllReadyH.cons rfl (fun K hK => ?_) AllReadyH.nil
          go_simp
          go_at_call 13; refine (capacity_any _ g ga n1 d _ w8 (hk6.below hD8)).mono ?_; rintro e w9 ⟨rfl, rfl⟩
          refine hK.out _ _ hHeld (fun _ => ?_)
          clear hK K
          try simp only [Act.put, List.setIfInBounds_toArray, List.set_cons_zero, List.set_cons_succ]
          refine take_at (v := ?_) 19 160 rfl rfl (by kernel_rfl) (by kernel_rfl) (by kernel_rfl) (fun _ _ _ h => h) hHeld (Or.inl ⟨by rfl, ?_⟩) rfl ?_
          rotate_left
          · intro wq hSw
            go_simp
            try with_reducible rfl
          simp only [List.set_cons_zero, List.set_cons_succ]
          refine take_at (v := ?_) 20 161 rfl rfl (by kernel_rfl) (by kernel_rfl) (by kernel_rfl) (fun _ _ _ h => h) hHeld (Or.inl ⟨by rfl, ?_⟩) rfl ?_
          rotate_left
          · intro wq hSw
            go_simp
            try with_reducible rfl
          simp only [List.set_cons_zero, List.set_cons_succ]
          refine take_at (v := ?_) 21 6 rfl rfl (by kernel_rfl) (by kernel_rfl) (by kernel_rfl) (fun _ _ _ h => h) hHeld (Or.inl ⟨by rfl, ?_⟩) rfl ?_
          rotate_left
          · intro wq hSw
            go_simp
            try with_reducible rfl
          simp only [List.set_cons_zero, List.set_cons_succ]
          refine wpAnyH_done (by kernel_rfl) ?_ _
          go_wp2_with fail
          go_ret
          exact ⟨rfl, hT6d.trans (hD8.mono hT6d.size)⟩
      · have H24 := Lib.hid h24
        clear h24
        go_wp2_with (first
          | (go_at_call 12; refine (is_err 2 rfl _).mono ?_; rintro e wi ⟨rfl, rfl⟩)
          | (go_at_call 11; refine (rsums5_no a2 n2 c2 w4' H24).mono ?_; rintro e wj ⟨rfl, rfl⟩)
          | (go_at_call 23; refine (join_form g a2 n2 c2 w4' H24).mono ?_; rintro e wj ⟨rfl, rfl⟩))
        go_ret
        exact ⟨rfl, hT4⟩
set_option maxRecDepth 100000 in
set_option maxHeartbeats 16000000 in
theorem sketchFurtherWalk {H : Type} {enc : TypeId × Value → H} (W : World) (base : Nat) (v0 : Value) (d0 : DataW H) (p0 : List MemPlace) (v1 : Value) (d1 : DataW H) (p1 : List MemPlace) (v2 : Value) (d2 : DataW H) (p2 : List MemPlace)
    (o0 : Value.okWide Try.prog W .any base 22 v0) (o1 : Value.okWide Try.prog W .any base 3 v1) (o2 : Value.okWide Try.prog W .any base 23 v2)
    (h0 : DataW.Trod enc Try.prog W 0 (fun _ => true) true 22 v0 d0 p0) (h1 : DataW.Trod enc Try.prog W 0 (fun _ => true) true 3 v1 d1 p1) (h2 : DataW.Trod enc Try.prog W 0 (fun _ => true) true 23 v2 d2 p2) :
    Calls Try.prog 5 #[v0, v1, v2] W fun e w' => e = .returned (.bool true) ∧ Below W.heap.size W w' := by
  obtain ⟨a1, n1, c1, l1, rfl, hw1, hnc1, ha1⟩ := arg_wordsc Try.underlying22 Try.underlying54 (by kernel_rfl) o0 h0
  obtain ⟨z, rfl, hz⟩ := arg_int Try.underlying3 o1 h1
  obtain ⟨a2, n2, c2, lb, rfl, hw2, hnc2, ha2⟩ := arg_bytes Try.underlying23 Try.underlying5 (by kernel_rfl) o2 h2
  clear o0 h0 o1 h1 o2 h2
  have hmx1 : n1 ≤ 9223372036854775807 := hw1.2.1
  have hmx2 : n2 ≤ 9223372036854775807 := hw2.2.1
  by_cases g1 : (n1 : Int) < 1
  · have hl1 := hw1.1
    have HL1 := Lib.hid hl1
    clear hl1
    go_enter Try.func5, Try.ntmps5
    go_wp2_with (first | (go_at_call 7; refine (alive05 W).mono ?_; rintro e w1 ⟨rfl, hb1⟩))
    go_ret
    exact ⟨rfl, hb1⟩
  · by_cases g2 : (40 : Int) < (n1 : Int)
    · go_enter Try.func5, Try.ntmps5
      go_wp2_with (first | (go_at_call 7; refine (alive05 W).mono ?_; rintro e w1 ⟨rfl, hb1⟩))
      go_ret
      exact ⟨rfl, hb1⟩
    · by_cases g3 : (300 : Int) < (n2 : Int)
      · go_enter Try.func5, Try.ntmps5
        go_wp2_with (first | (go_at_call 7; refine (alive05 W).mono ?_; rintro e w1 ⟨rfl, hb1⟩))
        go_ret
        exact ⟨rfl, hb1⟩
      · obtain ⟨x1, rfl, _⟩ := hw1.2.2 0 (by omega)
        exact furtherMain W x1 n1 c1 l1 hw1 hnc1 z hz a2 n2 c2 lb hw2 hnc2 (by omega) (by omega) (by omega)
end Go.Proofs.Ytamigcbodplmcaa
