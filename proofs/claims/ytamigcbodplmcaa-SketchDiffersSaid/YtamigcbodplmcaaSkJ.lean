/- package sketch: all, Decode -/
import Derived.Test.YtamigcbodplmcaaSkI
namespace Go.Proofs.Ytamigcbodplmcaa
open Go Go.RowKit Go.ChangeShapes Go.WideShapes
/-- the sums of all powers, the first k of them -/
def Sk.exP (l : List (BitVec 32)) (k : Nat) : Nat → BitVec 32 := fun i => if i < k then Sk.ex l i else 0
theorem Sk.exP_put (N : Nat) (l : List (BitVec 32)) (k : Nat) (x : BitVec 32) (hx : x = Sk.ex l k) : (wcells N (Sk.exP l k)).setIfInBounds k (.int .u32 (nb32 x)) = wcells N (Sk.exP l (k + 1)) := by
  refine wcells_put _ _ _ _ (by unfold Sk.exP; rw [if_pos (by omega), hx]) (fun j _ hne => ?_)
  unfold Sk.exP
  by_cases h : j < k
  · rw [if_pos h, if_pos (by omega)]
  · rw [if_neg h, if_neg (by omega)]
set_option maxRecDepth 100000 in
set_option maxHeartbeats 4000000 in
theorem sall_any (a : Option Addr) (n c N : Nat) (l : List (BitVec 32)) (w : World) (h : Words32 w a n l) (hn : n ≤ 1000) (hN : Hid (N = 2 * n)) :
    Calls Try.prog 34 #[.slice a n c] w fun e w' => (∃ g, e = .returned (.slice (some ⟨g, 0, none⟩) N N) ∧ Words32 w' (some ⟨g, 0, none⟩) N (Sk.exL l)) ∧ Below w.heap.size w w' := by
  have hl := h.1
  have hNi : 2 * (n : Int) = (N : Int) := by have := hN.out; omega
  have hNw : IntKind.i64.wrap (N : Int) = (N : Int) := IntWalk.i64_in _ (by have := hN.out; omega)
  have hNw2 : IntKind.i64.wrap (2 * (n : Int)) = (N : Int) := by rw [hNi]; exact hNw
  have hN2 : N ≤ 2000 := by have := hN.out; omega
  have hmk := make_words N (by omega) w
  have hh0 := Has.fresh w 54 (wcells N fun _ => 0#32)
  have hB0 : Below w.heap.size w (w.alloc (.cells (wcells N fun _ => 0#32) 54)) := (Below.refl _ w).alloc (Nat.le_refl _) _
  rw [wcells_congr (g := Sk.exP l 0) (fun i _ => by unfold Sk.exP; rw [if_neg (by omega)]; try rfl)] at hh0 hB0 hmk
  have HNI := Lib.hid hNi
  clear hNi
  go_enter Try.func34, Try.ntmps34
  go_wp2_with fail
  generalize w.alloc (.cells (wcells N (Sk.exP l 0)) 54) = w0 at hh0 hB0 hmk ⊢
  clear hmk
  go_loopw [11] (fun iv wr => ∃ i : Nat, i ≤ N ∧ iv = .int .i64 i ∧ Has wr w.heap.size 54 (wcells N (Sk.exP l i)) ∧ Below w.heap.size w wr) (fun iv _ => N - (intOf iv).toNat)
  case atStart => exact ⟨0, Nat.zero_le _, rfl, hh0, hB0⟩
  case round =>
    obtain ⟨i, hi, rfl, hh, hb⟩ := hrel
    clear hh0 hB0
    by_cases hlt : i < N
    · have hii : (i : Int) < (N : Int) := by omega
      obtain ⟨q, hq⟩ : ∃ q, i / 2 = q := ⟨_, rfl⟩
      have hqi : (i : Int).tdiv 2 = (q : Int) := by rw [show (i : Int).tdiv 2 = ((i / 2 : Nat) : Int) from rfl, hq]
      have hqi2 : (i : Int) / 2 = (q : Int) := by omega
      have hqn : q < n := by have := hN.out; omega
      have hqN : q < N := by have := hN.out; omega
      have hfr := hh.loose i
      have hcl := hh.cell_at (wcells_at (i := i) (Sk.exP l i) hlt)
      by_cases he : i % 2 = 0
      · have hmi : (i : Int).tmod 2 = 0 := by rw [show (i : Int).tmod 2 = ((i % 2 : Nat) : Int) from rfl, he]; rfl
        have hmi2 : (i : Int) % 2 = 0 := by omega
        obtain ⟨ad, rfl, hx⟩ := (h.below hb).2.2 q hqn
        obtain ⟨x, hxe⟩ : ∃ x, x = l.getD q 0 := ⟨_, rfl⟩
        rw [← hxe] at hx
        have HX : RowKit.Hid (x = Sk.ex l i) := Lib.hid (by rw [Sk.ex_even l he, hq, hxe]; rfl)
        clear hq hxe he
        go_wp2_with fail
        have hh2 := hh.put i (.int .u32 (nb32 x))
        rw [Sk.exP_put N l i x HX.out] at hh2
        have hb2 := hb.setCell (p := ⟨w.heap.size, i, none⟩) (Nat.le_refl _) (.int .u32 (nb32 x))
        go_roundw
        case rel => exact ⟨i + 1, by omega, by go_num, hh2, hb2⟩
        case measure => (simp [intOf]; try omega)
      · have hm1 : i % 2 = 1 := by omega
        have hmi : (i : Int).tmod 2 = 1 := by rw [show (i : Int).tmod 2 = ((i % 2 : Nat) : Int) from rfl, hm1]; rfl
        have hmi2 : (i : Int) % 2 = 1 := by omega
        have hx := hh.cell_at (wcells_at (i := q) (Sk.exP l i) hqN)
        obtain ⟨x, hxe⟩ : ∃ x, x = Sk.exP l i q := ⟨_, rfl⟩
        rw [← hxe] at hx
        have HX : RowKit.Hid (Gf.square x = Sk.ex l i) := Lib.hid (by
          rw [Sk.ex_odd l he, hq, hxe, Gf.square_eq]
          unfold Sk.exP
          rw [if_pos (by omega)])
        clear hq hxe he hm1
        go_wp2_with (first
          | (go_at_call 48; refine (square_any x _).mono ?_; rintro e w1 ⟨rfl, rfl⟩))
        have hh2 := hh.put i (.int .u32 (nb32 (Gf.square x)))
        rw [Sk.exP_put N l i _ HX.out] at hh2
        have hb2 := hb.setCell (p := ⟨w.heap.size, i, none⟩) (Nat.le_refl _) (.int .u32 (nb32 (Gf.square x)))
        go_roundw
        case rel => exact ⟨i + 1, by omega, by go_num, hh2, hb2⟩
        case measure => (simp [intOf]; try omega)
    · obtain rfl : i = N := by omega
      have hii : ¬ (i : Int) < (i : Int) := by omega
      have hw := words_of_has hh (Nat.le_refl _) (by omega)
      have e : Po.mk i (Sk.exP l i) = Sk.exL l := by
        unfold Sk.exL
        rw [hl, ← hN.out]
        refine Po.list_ext (by rw [Po.mk_length, Po.mk_length]) fun t ht => ?_
        rw [Po.mk_length] at ht
        rw [Po.cf_mk, Po.cf_mk, if_pos ht, if_pos ht]
        unfold Sk.exP
        rw [if_pos ht]
      rw [e] at hw
      have HE := Lib.hid e
      clear e
      go_wp2
      go_ret
      exact ⟨⟨_, rfl, hw⟩, hb⟩
theorem psplit_no (a : Option Addr) (n c : Nat) (l : List (BitVec 32)) (w : World) (ha : Words32 w a n l) (hac : n ≤ c) (hs : n ≤ 1000) (hno : ¬ (Po.Fits l ∧ (Po.rts l).length + 1 = Po.len1 l)) :
    Calls Try.prog 36 #[.slice a n c] w fun e w' => (∃ a' c', e = .returned (.tuple #[.slice a' 0 c', .bool false])) ∧ Below w.heap.size w w' := by
  by_cases hf : Po.Fits l
  · exact psplit_no2 a n c l w ha hac hs hf (fun e => hno ⟨hf, e⟩)
  · exact psplit_no1 a n c l w ha hf
theorem sdec_nil (w : World) :
    Calls Try.prog 21 #[.pointer none] w fun e w' => e = .returned (.tuple #[.slice none 0 0, errOf 13]) ∧ w = w' := by
  go_enter Try.func21, Try.ntmps21
  go_wp2
  go_ret2
  exact ⟨rfl, rfl⟩
theorem Sk.least_len {l A : List (BitVec 32)} {L : Nat} (hA : Sk.Is l A) (hL : Ms.Least (Po.cf (Sk.exL l)) (2 * l.length) L) : L = A.length :=
  (hL.congr fun i hi => by rw [Sk.exL_cf l hi, Sk.ex_ps hA i hi]).eq (Sk.loc_least hA.srt.nodup hA.ne (by have := hA.le; omega))
theorem fresh_head {T : TypeId} {B K : Nat} {w : World} {v : Value} {l : List (BitVec 32)} (h : Fresh T B w v l) (hl : l.length = K) (hK : 1 ≤ K) :
    ∃ g c cs, v = .slice (some ⟨g, 0, none⟩) K c ∧ K ≤ c ∧ B ≤ g ∧ Has w g T cs ∧ Words32 w (some ⟨g, 0, none⟩) K l := by
  obtain ⟨a, c, rfl, h1, h2⟩ := fresh_shape h hl
  obtain ⟨a', c', e, _, _, h3⟩ := h
  injection e with e1 e2 e3
  subst e1
  obtain ⟨g, cs, rfl, hg, hh, _⟩ := h3 (by omega)
  exact ⟨g, c, cs, rfl, h1, hg, hh, h2⟩
set_option maxRecDepth 100000 in
set_option maxHeartbeats 4000000 in
theorem sdec_ok (B g ga K c : Nat) (l A : List (BitVec 32)) (w : World) (h : SkA B w g ga K c l) (hA : Sk.Is l A) :
    Calls Try.prog 21 #[.pointer (some ⟨g, 0, none⟩)] w fun e w' => (∃ v, e = .returned (.tuple #[v, .nilIface]) ∧ Fresh 54 w.heap.size w' v A) ∧ Below w.heap.size w w' := by
  have hc := h.hcell
  have hw := h.words
  have h40 := h.top
  have hl := h.len
  obtain ⟨N, hN⟩ : ∃ N, N = 2 * K := ⟨_, rfl⟩
  obtain ⟨L, hL, hLn⟩ := Ms.Least.ofn (Po.cf (Sk.exL l)) N
  have hN1 : N ≤ 80 := by omega
  have hNl : N = 2 * l.length := by omega
  have hLA : L = A.length := Sk.least_len hA (by rw [← hNl]; exact hL)
  have hLK : L ≤ K := by have := hA.le; omega
  have hLi : ¬ (K : Int) < (L : Int) := by omega
  obtain ⟨M, hM⟩ : ∃ M, M = L + 1 := ⟨_, rfl⟩
  have hM1 : 1 ≤ M := by omega
  have hM2 : M ≤ 41 := by omega
  have hMi : (M : Int) - 1 = (L : Int) := by omega
  have hMw : IntKind.i64.wrap (L : Int) = (L : Int) := IntWalk.i64_in _ (by omega)
  have hD : ∀ lc : List (BitVec 32), lc.length = L + 1 → Ms.Rec lc L (Po.cf (Sk.exL l)) N → Po.Fits lc.reverse ∧ (Po.rts lc.reverse).length + 1 = Po.len1 lc.reverse ∧ Po.rts lc.reverse = A := fun lc h1 h2 => by
    obtain ⟨e1, e2, e3⟩ := Sk.dec_yes hA (by rw [← hNl]; exact hL) (by rw [← hNl]; exact h2) h1
    exact ⟨⟨by rw [e3]; omega, by rw [e3]; omega⟩, by rw [e3, e2]; omega, e2⟩
  have HN := Lib.hid hN
  have HL := Lib.hid (And.intro hL (And.intro hM hD))
  clear hN hL hA hNl hl hLA hM hD hLK
  go_enter Try.func21, Try.ntmps21
  go_wp2_with (first
    | (go_at_call 36; refine (psplit_ok sortOk _ M cl lc.reverse w3 hw3 hMc (by omega) (HL.out.2.2 lc hlc hrc).1 (HL.out.2.2 lc hlc hrc).2.1).mono ?_; rw [(HL.out.2.2 lc hlc hrc).2.2]; rintro e w4 ⟨⟨vs, rfl, hvs⟩, hb4⟩)
    | (go_at_call 35; refine (srev_any gl M cl lc cs w2 hwl hhl hM1 (by omega)).mono ?_; rintro e w3 ⟨rfl, hw3, hg3⟩)
    | (go_at_call 33; refine (shortest_any _ N N L _ w1 hw1 (Nat.le_refl _) (by omega) HL.out.1).mono ?_; rintro e w2 ⟨⟨v, lc, rfl, hv, hlc, hrc⟩, hb2⟩; obtain ⟨gl, cl, cs, rfl, hMc, hgl, hhl, hwl⟩ := fresh_head (K := M) hv (by rw [hlc, HL.out.2.1]) hM1; have hb12 := hb1.trans (hb2.mono hb1.size); have hc2 := (h.below hb12).hcell)
    | (go_at_call 34; refine (sall_any _ K c N l _ hw (by omega) HN).mono ?_; rintro e w1 ⟨⟨g1, rfl, hw1⟩, hb1⟩))
  go_ret2
  have hb3 : Below w.heap.size w w3 := hb12.grown hg3 hb12.size (fun k e => by injection e with e; have := hb1.size; omega)
  exact ⟨⟨_, rfl, hvs.low hb3.size⟩, hb3.trans (hb4.mono hb3.size)⟩
set_option maxRecDepth 100000 in
set_option maxHeartbeats 4000000 in
theorem sdec_no (B g ga K c : Nat) (l : List (BitVec 32)) (w : World) (h : SkA B w g ga K c l) (hA : ∀ A, ¬ Sk.Is l A) :
    Calls Try.prog 21 #[.pointer (some ⟨g, 0, none⟩)] w fun e w' => e = .returned (.tuple #[.slice none 0 0, errOf 13]) ∧ Below w.heap.size w w' := by
  have hc := h.hcell
  have hw := h.words
  have h40 := h.top
  have hl := h.len
  obtain ⟨N, hN⟩ : ∃ N, N = 2 * K := ⟨_, rfl⟩
  obtain ⟨L, hL, hLn⟩ := Ms.Least.ofn (Po.cf (Sk.exL l)) N
  have hN1 : N ≤ 80 := by omega
  have hNl : N = 2 * l.length := by omega
  obtain ⟨M, hM⟩ : ∃ M, M = L + 1 := ⟨_, rfl⟩
  have hM1 : 1 ≤ M := by omega
  have hM2 : M ≤ 81 := by omega
  have hMi : (M : Int) - 1 = (L : Int) := by omega
  have hMw : IntKind.i64.wrap (L : Int) = (L : Int) := IntWalk.i64_in _ (by omega)
  by_cases hLK : L ≤ K
  · have hLi : ¬ (K : Int) < (L : Int) := by omega
    have hD : ∀ lc : List (BitVec 32), lc.length = L + 1 → Ms.Rec lc L (Po.cf (Sk.exL l)) N → ¬ (Po.Fits lc.reverse ∧ (Po.rts lc.reverse).length + 1 = Po.len1 lc.reverse) := fun lc h1 h2 h3 =>
      hA _ (Sk.roots_is (by rw [← hNl]; exact hL) (by rw [← hNl]; exact h2) h1 (by omega) h3.2)
    have HN := Lib.hid hN
    have HL := Lib.hid (And.intro hL (And.intro hM hD))
    clear hN hL hA hNl hl hM hD hLK
    go_enter Try.func21, Try.ntmps21
    go_wp2_with (first
      | (go_at_call 36; refine (psplit_no _ M cl lc.reverse w3 hw3 hMc (by omega) (HL.out.2.2 lc hlc hrc)).mono ?_; rintro e w4 ⟨⟨a', c', rfl⟩, hb4⟩)
      | (go_at_call 35; refine (srev_any gl M cl lc cs w2 hwl hhl hM1 (by omega)).mono ?_; rintro e w3 ⟨rfl, hw3, hg3⟩)
      | (go_at_call 33; refine (shortest_any _ N N L _ w1 hw1 (Nat.le_refl _) (by omega) HL.out.1).mono ?_; rintro e w2 ⟨⟨v, lc, rfl, hv, hlc, hrc⟩, hb2⟩; obtain ⟨gl, cl, cs, rfl, hMc, hgl, hhl, hwl⟩ := fresh_head (K := M) hv (by rw [hlc, HL.out.2.1]) hM1; have hb12 := hb1.trans (hb2.mono hb1.size); have hc2 := (h.below hb12).hcell)
      | (go_at_call 34; refine (sall_any _ K c N l _ hw (by omega) HN).mono ?_; rintro e w1 ⟨⟨g1, rfl, hw1⟩, hb1⟩))
    go_ret2
    have hb3 : Below w.heap.size w w3 := hb12.grown hg3 hb12.size (fun k e => by injection e with e; have := hb1.size; omega)
    exact ⟨rfl, hb3.trans (hb4.mono hb3.size)⟩
  · have hLi : (K : Int) < (L : Int) := by omega
    have HN := Lib.hid hN
    have HL := Lib.hid (And.intro hL hM)
    clear hN hL hA hNl hl hM hLK
    go_enter Try.func21, Try.ntmps21
    go_wp2_with (first
      | (go_at_call 33; refine (shortest_any _ N N L _ w1 hw1 (Nat.le_refl _) (by omega) HL.out.1).mono ?_; rintro e w2 ⟨⟨v, lc, rfl, hv, hlc, hrc⟩, hb2⟩; obtain ⟨gl, cl, cs, rfl, hMc, hgl, hhl, hwl⟩ := fresh_head (K := M) hv (by rw [hlc, HL.out.2]) hM1; have hb12 := hb1.trans (hb2.mono hb1.size); have hc2 := (h.below hb12).hcell)
      | (go_at_call 34; refine (sall_any _ K c N l _ hw (by omega) HN).mono ?_; rintro e w1 ⟨⟨g1, rfl, hw1⟩, hb1⟩))
    go_ret2
    exact ⟨rfl, hb12⟩
end Go.Proofs.Ytamigcbodplmcaa
