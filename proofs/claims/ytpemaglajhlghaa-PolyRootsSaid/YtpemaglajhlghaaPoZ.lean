/- PolyRoots -/
import Derived.Test.YtpemaglajhlghaaRows
import Derived.Test.YtpemaglajhlghaaPoC
import Derived.Deep.RegionHeld3
namespace Go.Proofs.Ytpemaglajhlghaa
open Go Go.RowKit Go.ChangeShapes Go.WideShapes
theorem Po.cnt_take (l : List (BitVec 32)) (y : BitVec 32) (k : Nat) (h : k < l.length) : Po.cnt (l.take (k + 1)) y = Po.cnt (l.take k) y + (if Po.cf l k = y then 1 else 0) := by
  rw [Po.take_snoc h, Po.cnt_snoc]
theorem Po.cnt_le (l : List (BitVec 32)) (y : BitVec 32) : Po.cnt l y ≤ l.length := List.length_filter_le _ _
set_option maxHeartbeats 1000000 in
theorem many_any (a : Option Addr) (n c : Nat) (l : List (BitVec 32)) (y : BitVec 32) (B : Nat) (w : World) (h : Words32 w a n l) (hn : n ≤ 24) (hbox : w.cell? ⟨B, 0, none⟩ = some (.slice a n c)) :
    Calls Try.prog 35 #[.int .u32 (nb32 y), .pointer (some ⟨B, 0, none⟩)] w fun e w' => e = .returned (.int .i64 (Po.cnt l y : Int)) ∧ w = w' := by
  have hl := h.1
  go_enter Try.func35, Try.ntmps35
  go_wp2
  go_loop [4, 9] (fun x i => ∃ k : Nat, k ≤ n ∧ i = .int .i64 k ∧ x = .int .i64 (Po.cnt (l.take k) y)) (fun _ i => n - (intOf i).toNat)
  case atStart => exact ⟨0, Nat.zero_le _, rfl, rfl⟩
  case round =>
    obtain ⟨k, hk, rfl, rfl⟩ := hrel
    by_cases hlt : k < n
    · obtain ⟨ad, rfl, hx⟩ := h.2.2 k hlt
      obtain ⟨z, hz⟩ : ∃ z, z = Po.cf l k := ⟨_, rfl⟩
      rw [show l.getD k 0 = z from hz.symm] at hx
      have hct := Po.cnt_take l y k (by omega)
      rw [← hz] at hct
      have hle := Po.cnt_le (l.take k) y
      rw [List.length_take] at hle
      have hle2 : Po.cnt (l.take k) y ≤ 24 := by omega
      by_cases he : z = y
      · have ht : (z == y) = true := by rw [he]; exact beq_self_eq_true y
        rw [if_pos he] at hct
        have HC := Lib.hid hct
        clear hct hz he hle
        generalize Po.cnt (l.take k) y = m at HC hle2 ⊢
        go_wp2
        go_round
        case rel => exact ⟨k + 1, by omega, by go_num, by rw [HC.out]; go_num⟩
        case measure => simp [intOf]; omega
      · have ht : (z == y) = false := by simpa using he
        rw [if_neg he, Nat.add_zero] at hct
        have HC := Lib.hid hct
        clear hct hz he hle
        generalize Po.cnt (l.take k) y = m at HC hle2 ⊢
        go_wp2
        go_round
        case rel => exact ⟨k + 1, by omega, by go_num, (by rw [HC.out]; try rfl)⟩
        case measure => simp [intOf]; omega
    · obtain rfl : k = n := by omega
      go_wp2
      go_ret
      rw [List.take_of_length_le (by omega)]
      exact ⟨rfl, rfl⟩
theorem derived_der (a : Option Addr) (n c : Nat) (l : List (BitVec 32)) (w : World) (h : Words32 w a n l) (hs : n ≤ 1099511627776) :
    Calls Try.prog 20 #[.slice a n c] w fun e w' => (∃ v, e = .returned v ∧ Fresh 23 w.heap.size w' v (Po.derL l)) ∧ Below w.heap.size w w' := by
  have := derived_any a n c l w h hs
  rw [show Po.trim (Po.mk n (Po.dvK (Po.cf l) n)) = Po.derL l from by rw [Po.derL, h.1]] at this
  exact this
set_option maxHeartbeats 4000000 in
set_option maxRecDepth 100000 in
theorem polyRootsWalk {H : Type} {enc : TypeId × Value → H} (W : World) (base : Nat) (v0 : Value) (d0 : DataW H) (p0 : List MemPlace) (v1 : Value) (d1 : DataW H) (p1 : List MemPlace)
    (o0 : Value.okWide Try.prog W .any base 22 v0) (o1 : Value.okWide Try.prog W .any base 23 v1)
    (h0 : DataW.Trod enc Try.prog W 0 (fun _ => true) true 22 v0 d0 p0) (h1 : DataW.Trod enc Try.prog W 0 (fun _ => true) true 23 v1 d1 p1) :
    Calls Try.prog 6 #[v0, v1] W fun e w' => e = .returned (.bool true) ∧ Below W.heap.size W w' := by
  obtain ⟨a0, n0, c0, l0, rfl, w0, m0, z0⟩ := arg_wordsc Try.underlying22 Try.underlying23 (by kernel_rfl) o0 h0
  obtain ⟨a1, rfl⟩ := arg_u32 Try.underlying23 o1 h1
  have hla := w0.1
  have hX0 := Has.fresh W 22 #[.slice a0 n0 c0]
  have hcx0 := hX0.cell_at (i := 0) rfl
  by_cases hlong : 24 < n0
  · have HL := Lib.hid hlong
    clear hlong
    go_enter Try.func6, Try.ntmps6
    go_wp2_with (first
      | (go_at_call 8; refine (alive_any _).mono ?_; rintro e w1 ⟨rfl, hb1⟩; have hX1 := hX0.under hb1 hX0.lt; have hcx1 := hX1.cell_at (i := 0) rfl; have hA1 : Words32 w1 a0 n0 l0 := (w0.past _).below hb1)
      | (go_at_call 9; refine (long_any _ _ _ _ _ _ _ _ (rows_one w1 a0 n0 c0 l0 hA1 m0 22) true (long_yes1 HL.out)).mono ?_; rintro e w4 ⟨rfl, hq⟩; have hA4 : Words32 w4 a0 n0 l0 := (by rw [← hq]; exact hA1.past _); have hX4 : Has w4 W.heap.size 22 #[.slice a0 n0 c0] := (by rw [← hq]; exact hX1.past _); have hw4 : Below W.heap.size W w4 := (by rw [← hq]; exact (((Below.refl _ W).alloc (Nat.le_refl _) _).trans (hb1.mono (by simp))).alloc (by have := hb1.size; simp at this; omega) _); have hcx4 := hX4.cell_at (i := 0) rfl; clear hq))
    go_ret
    exact ⟨rfl, hw4⟩
  · have hn0 : n0 ≤ 24 := by omega
    have hk0 : n0 ≤ 1073741824 := by omega
    have hk6 : n0 ≤ 549755813888 := by omega
    obtain ⟨hfl, hf1⟩ := Po.fromL_all l0
    have hfK := Po.fromL_lead n0 l0 hla
    rw [hla] at hfl hf1
    obtain ⟨p, hp⟩ : ∃ p, p = Po.fromL l0 := ⟨_, rfl⟩
    rw [← hp] at hfl hf1 hfK
    have HP := Lib.hid hp
    have HF := Lib.hid (And.intro hfl hfK)
    have hdeg : (Po.len1 p : Int) - 1 = (n0 : Int) := by omega
    clear hp hfl hf1 hfK
    go_enter Try.func6, Try.ntmps6
    go_wp2_with (first
      | (go_at_call 8; refine (alive_any _).mono ?_; rintro e w1 ⟨rfl, hb1⟩; have hX1 := hX0.under hb1 hX0.lt; have hcx1 := hX1.cell_at (i := 0) rfl; have hA1 : Words32 w1 a0 n0 l0 := (w0.past _).below hb1)
      | (go_at_call 9; refine (long_any _ _ _ _ _ _ _ _ (rows_one w1 a0 n0 c0 l0 hA1 m0 22) false (long_no1 hn0)).mono ?_; rintro e w4 ⟨rfl, hq⟩; have hA4 : Words32 w4 a0 n0 l0 := (by rw [← hq]; exact hA1.past _); have hX4 : Has w4 W.heap.size 22 #[.slice a0 n0 c0] := (by rw [← hq]; exact hX1.past _); have hw4 : Below W.heap.size W w4 := (by rw [← hq]; exact (((Below.refl _ W).alloc (Nat.le_refl _) _).trans (hb1.mono (by simp))).alloc (by have := hb1.size; simp at this; omega) _); have hcx4 := hX4.cell_at (i := 0) rfl; clear hq)
      | (go_at_call 34; refine (from_any a0 n0 c0 l0 w4 hA4 hk0).mono ?_; rintro e w5 ⟨⟨v5, rfl, hv5⟩, hb5⟩; rw [← HP.out] at hv5; obtain ⟨s5, t5, he5, ht5, hw5⟩ := hv5.slice; rw [HF.out.1] at ht5 hw5 he5; subst he5; have hX5 := hX4.under hb5 hX4.lt; have hA5 := hA4.below hb5; have hcx5 := hX5.cell_at (i := 0) rfl))
    obtain ⟨pad, rfl, hx⟩ := hw5.2.2 n0 (Nat.lt_succ_self _)
    have hK : p.getD n0 0 = 1 := HF.out.2
    rw [hK] at hx
    change w5.cell? (pad.add n0) = some (.int .u32 1) at hx
    have hxs : (pad.add n0).block < w5.heap.size := isSome_lt (by rw [hx]; rfl)
    have hxb : (⟨W.heap.size, 0, none⟩ : Addr).block < w5.heap.size := isSome_lt (by rw [hcx5]; rfl)
    have hwr : IntKind.i64.wrap ((n0 : Int) + 1) = (n0 : Int) + 1 := IntWalk.i64_in _ (by omega)
    have hn1 : (0 : Int) ≤ (n0 : Int) := by omega
    have hn2 : (n0 : Int) < (n0 : Int) + 1 := by omega
    have hD5 := Below.refl w5.heap.size w5
    clear hK
    go_region_held3 (fun w' => w'.cell? ⟨W.heap.size, 0, none⟩ = some (.slice a0 n0 c0) ∧ w'.cell? (pad.add n0) = some (.int .u32 1)) (first
      | exact ⟨hcx5, hx⟩
      | exact ⟨(hb6.cell hxb).trans hcx5, (hb6.cell hxs).trans hx⟩)
      (first | (go_at_call 24; refine (pdegree_any (some pad) _ t5 p _ hw5.draw).mono ?_; rintro e w6 ⟨rfl, hb6⟩))
    have hb6' : Below w5.heap.size w5 w6 := (Below.refl w5.heap.size w5).drew.trans hb6
    have hX6 := hX5.under hb6' hX5.lt
    have hcx6 := hX6.cell_at (i := 0) rfl
    have hA6 := hA5.below hb6'
    have hP6 := hw5.below hb6'
    obtain ⟨L, hL⟩ : ∃ L, L = l0 ++ [a1] := ⟨_, rfl⟩
    have hLl : L.length = n0 + 1 := by rw [hL, List.length_append, hla]; rfl
    have hl1 : l0.length + 1 ≤ 1099511627776 := by omega
    have HL := Lib.hid hL
    clear hL hx hxs hxb hb6
    go_wp2_with (first
      | (go_at_call 10; with_reducible refine (own_any a0 n0 c0 l0 w6 hA6 z0 hk6).mono ?_; rintro e w7 ⟨⟨v7, rfl, hv7⟩, hb7⟩)
      | (at_builtin; refine wpList_append_word rfl (.tmp 39) (.tmp 41) 22 rfl 23 Try.underlying22 info_word w6.heap.size _ l0 rfl hv7 a1 rfl hl1 hb7.size ?_; intro v8 w8 h8 g8; rw [← HL.out] at h8; have hb8 := below_own_row (hb7.alloc hb7.size _) g8 hv7.lt; obtain ⟨s8, t8, he8, ht8, hw8⟩ := h8.fresh.slice; rw [hLl] at he8 hw8; subst he8))
    have hX8 := hX6.under hb8 hX6.lt
    have hA8 := hA6.below hb8
    have hP8 := hP6.below hb8
    have hW8 : Below W.heap.size W w8 := (hw4.trans (hb5.mono hw4.size)).trans ((hb6'.trans (hb8.mono hb6'.size)).mono (Nat.le_trans hw4.size hb5.size))
    clear hX6 hA6 hP6 hcx6 hX5 hA5 hcx5 hw5 hX4 hA4 hcx4 hX1 hA1 hcx1
    go_loopw [44] (fun i wr => ∃ k : Nat, k ≤ n0 + 1 ∧ i = .int .i64 k ∧ Below w8.heap.size w8 wr) (fun i _ => n0 + 1 - (intOf i).toNat)
    case atStart => exact ⟨0, Nat.zero_le _, rfl, Below.refl _ _⟩
    case round =>
      obtain ⟨k, hk, rfl, hbr⟩ := hrel
      by_cases hlt : k < n0 + 1
      · obtain ⟨ad, rfl, hx⟩ := hw8.2.2 k hlt
        obtain ⟨y, hy⟩ : ∃ y, y = L.getD k 0 := ⟨_, rfl⟩
        rw [← hy] at hx
        clear hy
        have hxr := (hbr.cell (isSome_lt (by rw [hx]; rfl))).trans hx
        have hPr := hP8.below hbr
        have hAr := hA8.below hbr
        have hXr := hX8.under hbr hX8.lt
        have hev := Po.roots_ev l0 y
        have hdv := Po.roots_der l0 y
        have hcl := Po.cnt_le l0 y
        rw [← HP.out] at hev hdv
        obtain ⟨C, hC⟩ : ∃ C, Po.cnt l0 y = C := ⟨_, rfl⟩
        obtain ⟨E, hE⟩ : ∃ E, Po.ev p y = E := ⟨_, rfl⟩
        obtain ⟨D, hD⟩ : ∃ D, Po.ev (Po.derL p) y = D := ⟨_, rfl⟩
        rw [hC] at hev hdv hcl
        rw [hE] at hev
        rw [hD] at hdv
        have HC := Lib.hid hC
        have HE := Lib.hid hE
        have HD := Lib.hid hD
        clear hC hE hD
        have hps : n0 + 1 ≤ 1099511627776 := by omega
        by_cases hc0 : 0 < C
        · have he : (E == 0#32) = true := by rw [hev.2 hc0]; rfl
          have hc0' : (0 : Int) < (C : Int) := by omega
          have hd := hdv hc0
          by_cases hc1 : 1 < C
          · have hdd : (D == 0#32) = true := by rw [hd.2 hc1]; rfl
            have hc1' : (1 : Int) < (C : Int) := by omega
            clear hev hdv hd hcl
            go_wp2_with (first
              | (go_at_call 18; with_reducible refine (at_any (some pad) _ t5 p y _ hPr).mono ?_; rintro e w9 ⟨rfl, hb9⟩; rw [HE.out]; have hX9 := hXr.under hb9 hXr.lt; have hcx9 : w9.cell? ⟨W.heap.size, 0, none⟩ = some (.slice a0 n0 c0) := hX9.cell_at (i := 0) rfl; have hA9 := hAr.below hb9; have hP9 := hPr.below hb9; have hb9' := hbr.trans (hb9.mono hbr.size))
              | (go_at_call 35; with_reducible refine (many_any a0 n0 c0 l0 y W.heap.size w9 hA9 hn0 hcx9).mono ?_; rintro e w ⟨rfl, rfl⟩; rw [HC.out])
              | (go_at_call 20; with_reducible refine (derived_der (some pad) _ t5 p w9 hP9 hps).mono ?_; rintro e w10 ⟨⟨v10, rfl, hv10⟩, hb10⟩; obtain ⟨s10, t10, rfl, ht10, hw10⟩ := hv10.slice)
              | (go_at_call 18; with_reducible refine (at_any s10 _ t10 (Po.derL p) y w10 hw10).mono ?_; rintro e w11 ⟨rfl, hb11⟩; rw [HD.out]; have hb11' := hb10.trans (hb11.mono hb10.size); have hX11 := hX9.under hb11' hX9.lt; have hcx11 : w11.cell? ⟨W.heap.size, 0, none⟩ = some (.slice a0 n0 c0) := hX11.cell_at (i := 0) rfl; have hA11 := hA9.below hb11'; have hbe := hb9'.trans (hb11'.mono hb9'.size))
              | (go_at_call 35; with_reducible refine (many_any a0 n0 c0 l0 y W.heap.size w11 hA11 hn0 hcx11).mono ?_; rintro e w ⟨rfl, rfl⟩; rw [HC.out]))
            go_roundw
            case rel => exact ⟨k + 1, by omega, by go_num, hbe⟩
            case measure => simp [intOf]; omega
          · have hdd : (D == 0#32) = false := by simpa using fun h => hc1 (hd.1 h)
            have hc1' : ¬ (1 : Int) < (C : Int) := by omega
            clear hev hdv hd hcl
            go_wp2_with (first
              | (go_at_call 18; with_reducible refine (at_any (some pad) _ t5 p y _ hPr).mono ?_; rintro e w9 ⟨rfl, hb9⟩; rw [HE.out]; have hX9 := hXr.under hb9 hXr.lt; have hcx9 : w9.cell? ⟨W.heap.size, 0, none⟩ = some (.slice a0 n0 c0) := hX9.cell_at (i := 0) rfl; have hA9 := hAr.below hb9; have hP9 := hPr.below hb9; have hb9' := hbr.trans (hb9.mono hbr.size))
              | (go_at_call 35; with_reducible refine (many_any a0 n0 c0 l0 y W.heap.size w9 hA9 hn0 hcx9).mono ?_; rintro e w ⟨rfl, rfl⟩; rw [HC.out])
              | (go_at_call 20; with_reducible refine (derived_der (some pad) _ t5 p w9 hP9 hps).mono ?_; rintro e w10 ⟨⟨v10, rfl, hv10⟩, hb10⟩; obtain ⟨s10, t10, rfl, ht10, hw10⟩ := hv10.slice)
              | (go_at_call 18; with_reducible refine (at_any s10 _ t10 (Po.derL p) y w10 hw10).mono ?_; rintro e w11 ⟨rfl, hb11⟩; rw [HD.out]; have hb11' := hb10.trans (hb11.mono hb10.size); have hX11 := hX9.under hb11' hX9.lt; have hcx11 : w11.cell? ⟨W.heap.size, 0, none⟩ = some (.slice a0 n0 c0) := hX11.cell_at (i := 0) rfl; have hA11 := hA9.below hb11'; have hbe := hb9'.trans (hb11'.mono hb9'.size))
              | (go_at_call 35; with_reducible refine (many_any a0 n0 c0 l0 y W.heap.size w11 hA11 hn0 hcx11).mono ?_; rintro e w ⟨rfl, rfl⟩; rw [HC.out]))
            go_roundw
            case rel => exact ⟨k + 1, by omega, by go_num, hbe⟩
            case measure => simp [intOf]; omega
        · have he : (E == 0#32) = false := by simpa using fun h => hc0 (hev.1 h)
          have hc0' : ¬ (0 : Int) < (C : Int) := by omega
          clear hev hdv hcl
          go_wp2_with (first
            | (go_at_call 18; with_reducible refine (at_any (some pad) _ t5 p y _ hPr).mono ?_; rintro e w9 ⟨rfl, hb9⟩; rw [HE.out]; have hX9 := hXr.under hb9 hXr.lt; have hcx9 : w9.cell? ⟨W.heap.size, 0, none⟩ = some (.slice a0 n0 c0) := hX9.cell_at (i := 0) rfl; have hA9 := hAr.below hb9; have hP9 := hPr.below hb9; have hb9' := hbr.trans (hb9.mono hbr.size))
            | (go_at_call 35; with_reducible refine (many_any a0 n0 c0 l0 y W.heap.size w9 hA9 hn0 hcx9).mono ?_; rintro e w ⟨rfl, rfl⟩; rw [HC.out]))
          go_roundw
          case rel => exact ⟨k + 1, by omega, by go_num, hb9'⟩
          case measure => simp [intOf]; omega
      · obtain rfl : k = n0 + 1 := by omega
        go_wp2
        go_ret
        exact ⟨rfl, hW8.trans (hbr.mono hW8.size)⟩
end Go.Proofs.Ytpemaglajhlghaa
