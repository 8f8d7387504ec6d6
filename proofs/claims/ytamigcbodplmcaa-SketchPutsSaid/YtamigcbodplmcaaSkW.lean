/- package sketch: Join; slices.Grow, slices.Concat -/
import Derived.Test.YtamigcbodplmcaaSkH
import Derived.Deep.RegionLaw
import Derived.Lib.AppendZeros
namespace Go.Proofs.Ytamigcbodplmcaa
open Go Go.RowKit Go.ChangeShapes Go.WideShapes
set_option maxRecDepth 100000 in
set_option maxHeartbeats 4000000 in
theorem grow_any (k : Nat) (hk1 : 1 ≤ k) (hk : k ≤ 1000) (w : World) :
    Calls Try.prog 52 #[.slice none 0 0, .int .i64 (k : Int)] w fun e w' => (∃ g G, e = .returned (.slice (some ⟨g, 0, none⟩) 0 G) ∧ OwnW 54 w.heap.size w' (.slice (some ⟨g, 0, none⟩) 0 G) []) ∧ Below w.heap.size w w' := by
  obtain ⟨i0, hi0, hz0, hz1, hz2⟩ := info_parts info_word
  have hrz : ∀ ty, (Builtin.append_ #[22, 3] ty #[.slice none 0 0, .int .i64 (k : Int)]).run Try.prog w = _ := fun ty =>
    Lib.run_append_nil_zeros w 22 3 ty 54 i0 (.int .u32 0) .i64 .i64 Try.underlying22 Try.underlying3 hi0 hz0 k hk1 (by rw [hz1]; omega) (by omega) (by rw [hz2]; omega)
  have hGn : k ≤ grownCap w k 0 54 := grownCap_ge w _ _ _
  have hGm : grownCap w k 0 54 ≤ maxLen := grownCap_le_maxLen w k 0 54 (by unfold maxLen; omega)
  obtain ⟨G, hG⟩ : ∃ G, G = grownCap w k 0 54 := ⟨_, rfl⟩
  rw [← hG] at hrz hGn hGm
  obtain ⟨cs, hcs⟩ : ∃ cs, cs = Builtin.zeroCells (Value.int .u32 0).cells k ++ Builtin.zeroCells (Value.int .u32 0).cells (G - k) := ⟨_, rfl⟩
  have hsz : cs.size = G := by
    rw [hcs, Array.size_append, size_zeroCells, size_zeroCells, show (Value.int .u32 0).cells.size = 1 from rfl]
    omega
  rw [← hcs] at hrz
  have hown : OwnW 54 w.heap.size (w.drew.alloc (.cells cs 54)) (.slice (some ⟨w.heap.size, 0, none⟩) 0 G) [] :=
    ⟨rfl, .inr ⟨w.heap.size, G, cs, rfl, Nat.le_refl _, Has.fresh w.drew _ _, Nat.zero_le _, hGm, by rw [hsz, Nat.mul_one], rfl⟩⟩
  have hb : Below w.heap.size w (w.drew.alloc (.cells cs 54)) := ((Below.refl _ w).drew).alloc (Nat.le_refl _) _
  have HG := Lib.hid (And.intro hG (And.intro hcs hsz))
  have hG2 : G ≤ 9223372036854775807 := by unfold maxLen at hGm; omega
  clear hG hcs hsz hi0 hz0 hz1 hz2 hGm
  have hkn : ¬ (k : Int) < 0 := by omega
  have hk0 : (0 : Int) < (k : Int) := by omega
  have hkw : IntKind.i64.wrap (k : Int) = (k : Int) := IntWalk.i64_in _ (by omega)
  go_enter Try.func52, Try.ntmps52
  go_wp2_with (at_builtin; refine Lib.wpList_append_run _ rfl _ _ _ _ rfl _ _ rfl rfl _ _ (hrz _) ?_)
  go_ret
  exact ⟨⟨_, _, rfl, hown⟩, hb⟩
set_option maxRecDepth 100000 in
set_option maxHeartbeats 4000000 in
theorem concat_any (blk : Nat) (a1 a2 : Option Addr) (n1 c1 n2 c2 : Nat) (l1 l2 : List (BitVec 32)) (w : World) (hh : Has w blk 22 #[.slice a1 n1 c1, .slice a2 n2 c2]) (hw1 : Words32 w a1 n1 l1) (hw2 : Words32 w a2 n2 l2)
    (hn1 : a1 = none → c1 = 0) (hn2 : a2 = none → c2 = 0) (hp : 1 ≤ n1) (hs : n1 ≤ 500) (hs2 : n2 ≤ 500) :
    Calls Try.prog 37 #[.slice (some ⟨blk, 0, none⟩) 2 2] w fun e w' => (∃ v, e = .returned v ∧ OwnW 54 w.heap.size w' v (l1 ++ l2)) ∧ Below w.heap.size w w' := by
  have hl1 := hw1.1
  have hl2 := hw2.1
  have hx0 := hh.cell_at (i := 0) rfl
  have hx1 := hh.cell_at (i := 1) rfl
  obtain ⟨N, hN⟩ : ∃ N, N = n1 + n2 := ⟨_, rfl⟩
  have hNi : (n1 : Int) + (n2 : Int) = (N : Int) := by omega
  have hNw : IntKind.i64.wrap (N : Int) = (N : Int) := IntWalk.i64_in _ (by omega)
  have h1w : IntKind.i64.wrap (n1 : Int) = (n1 : Int) := IntWalk.i64_in _ (by omega)
  have h1n : ¬ (n1 : Int) < 0 := by omega
  have hNn : ¬ (N : Int) < 0 := by omega
  have hN1 : 1 ≤ N := by omega
  have hN2 : N ≤ 1000 := by omega
  have HN := Lib.hid (And.intro hN hNi)
  clear hN
  go_enter Try.func37, Try.ntmps37
  go_wp2
  go_loop [3, 11] (fun sv iv => (iv = .int .i64 0 ∧ sv = .int .i64 0) ∨ (iv = .int .i64 1 ∧ sv = .int .i64 (n1 : Int)) ∨ (iv = .int .i64 2 ∧ sv = .int .i64 (N : Int))) (fun _ iv => 2 - (intOf iv).toNat)
  case atStart => exact .inl ⟨rfl, rfl⟩
  case round =>
    rcases hrel with ⟨rfl, rfl⟩ | ⟨rfl, rfl⟩ | ⟨rfl, rfl⟩
    · go_wp2
      go_round
      case rel => exact .inr (.inl ⟨by go_num, by go_num⟩)
      case measure => (simp [intOf]; try omega)
    · go_wp2
      go_round
      case rel => exact .inr (.inr ⟨by go_num, by go_num⟩)
      case measure => (simp [intOf]; try omega)
    · go_wp2_with (first
        | (go_at_call 52; refine (grow_any N hN1 hN2 _).mono ?_; rintro e w1 ⟨⟨g, G, rfl, hown⟩, hb1⟩))
      have hblk : blk < w.heap.size := hh.lt
      go_loopw [6, 27] (fun vo iv wr => ∃ i : Nat, i ≤ 2 ∧ iv = .int .i64 (i : Int) ∧ Below w.heap.size w wr ∧ OwnW 54 w.heap.size wr vo (if i = 0 then [] else if i = 1 then l1 else l1 ++ l2)) (fun _ iv _ => 2 - (intOf iv).toNat)
      case atStart => exact ⟨0, by omega, rfl, hb1, hown⟩
      case round =>
        obtain ⟨i, hi, rfl, hb, ho⟩ := hrel
        have hh2 := hh.under hb hblk
        have hx0 := hh2.cell_at (i := 0) rfl
        have hx1 := hh2.cell_at (i := 1) rfl
        match i, hi with
        | 0, _ =>
          have ho0 : OwnW 54 w.heap.size wr u6 [] := ho
          clear ho
          go_wp2_with (first
            | (at_builtin; refine wpList_append_words rfl (.tmp 31) (.tmp 32) 22 rfl 54 Try.underlying22 info_word w.heap.size _ [] rfl ho0 a1 n1 c1 l1 rfl (hw1.below hb) hn1 (by simp; omega) hb.size ?_; intro v' w2 h2 h3))
          go_roundw
          case rel => exact ⟨1, by omega, by go_num, below_own_row hb h3 ho0.lt, h2⟩
          case measure => (simp [intOf]; try omega)
        | 1, _ =>
          have ho0 : OwnW 54 w.heap.size wr u6 l1 := ho
          clear ho
          go_wp2_with (first
            | (at_builtin; refine wpList_append_words rfl (.tmp 31) (.tmp 32) 22 rfl 54 Try.underlying22 info_word w.heap.size _ l1 rfl ho0 a2 n2 c2 l2 rfl (hw2.below hb) hn2 (by omega) hb.size ?_; intro v' w2 h2 h3))
          go_roundw
          case rel => exact ⟨2, by omega, by go_num, below_own_row hb h3 ho0.lt, h2⟩
          case measure => (simp [intOf]; try omega)
        | 2, _ =>
          have ho0 : OwnW 54 w.heap.size wr u6 (l1 ++ l2) := ho
          clear ho
          go_wp2
          go_ret
          exact ⟨⟨_, rfl, ho0⟩, hb⟩
theorem join_nil (v : Value) (w : World) :
    Calls Try.prog 23 #[.pointer none, v] w fun e w' => e = .returned (.tuple #[.pointer none, errOf 1]) ∧ w = w' := by
  go_enter Try.func23, Try.ntmps23
  go_wp2
  go_ret2
  exact ⟨rfl, rfl⟩
theorem join_form (g : Nat) (a : Option Addr) (n d : Nat) (w : World) (hd : Hid (n % 4 ≠ 0)) :
    Calls Try.prog 23 #[.pointer (some ⟨g, 0, none⟩), .slice a n d] w fun e w' => e = .returned (.tuple #[.pointer none, errOf 2]) ∧ w = w' := by
  obtain ⟨m, hme⟩ : ∃ m, n % 4 = m := ⟨_, rfl⟩
  have hmi : (n : Int).tmod 4 = (m : Int) := by rw [show (n : Int).tmod 4 = ((n % 4 : Nat) : Int) from rfl, hme]
  have hmi2 : (n : Int) % 4 = (m : Int) := by omega
  have hm0 : ¬ (m : Int) = 0 := by have := hd.out; omega
  have hm1 : ¬ m = 0 := by have := hd.out; omega
  have HM := Lib.hid hme
  clear hme
  go_enter Try.func23, Try.ntmps23
  go_wp2
  go_ret2
  exact ⟨rfl, rfl⟩
set_option maxRecDepth 100000 in
set_option maxHeartbeats 4000000 in
theorem join_range (B g ga K c : Nat) (l : List (BitVec 32)) (a : Option Addr) (n d : Nat) (w : World) (h : SkA B w g ga K c l) (hd : Hid (n % 4 = 0)) (hn : n ≤ 4000) (hr : Hid (40 < K + n / 4)) :
    Calls Try.prog 23 #[.pointer (some ⟨g, 0, none⟩), .slice a n d] w fun e w' => e = .returned (.tuple #[.pointer none, errOf 1]) ∧ w = w' := by
  have hc := h.hcell
  have hK := h.top
  have hmi : (n : Int).tmod 4 = 0 := by rw [show (n : Int).tmod 4 = ((n % 4 : Nat) : Int) from rfl, hd.out]; rfl
  have hmi2 : (n : Int) % 4 = 0 := by have := hd.out; omega
  obtain ⟨q, hqe⟩ : ∃ q, n / 4 = q := ⟨_, rfl⟩
  have hqi : (n : Int).tdiv 4 = (q : Int) := by rw [show (n : Int).tdiv 4 = ((n / 4 : Nat) : Int) from rfl, hqe]
  have hqi2 : (n : Int) / 4 = (q : Int) := by omega
  obtain ⟨N, hN⟩ : ∃ N, N = K + q := ⟨_, rfl⟩
  have hNi : (K : Int) + (q : Int) = (N : Int) := by omega
  have hNw : IntKind.i64.wrap (N : Int) = (N : Int) := IntWalk.i64_in _ (by omega)
  have h40 : (40 : Int) < (N : Int) := by have := hr.out; omega
  have HN := Lib.hid (And.intro hN hqe)
  clear hN hqe
  go_enter Try.func23, Try.ntmps23
  go_wp2
  go_ret2
  exact ⟨rfl, rfl⟩
set_option maxRecDepth 100000 in
set_option maxHeartbeats 8000000 in
theorem join_ok (B g ga K c N : Nat) (l : List (BitVec 32)) (a : Option Addr) (n d : Nat) (lb : List (BitVec 8)) (w : World) (h : SkA B w g ga K c l) (hbs : Bytes8 w a n lb) (hnd : n ≤ d) (hd : Hid (n % 4 = 0)) (hn : n ≤ 400) (hr : Hid (N = K + n / 4)) (hN40 : N ≤ 40) :
    Calls Try.prog 23 #[.pointer (some ⟨g, 0, none⟩), .slice a n d] w fun e w' => (∃ g' ga' c', e = .returned (.tuple #[.pointer (some ⟨g', 0, none⟩), .nilIface]) ∧ SkA w.heap.size w' g' ga' N c' (l ++ sums8 lb)) ∧ Below w.heap.size w w' := by
  have hc := h.hcell
  have hK := h.top
  have hp := h.pos
  have hw := h.words
  have hll := h.len
  have hmi : (n : Int).tmod 4 = 0 := by rw [show (n : Int).tmod 4 = ((n % 4 : Nat) : Int) from rfl, hd.out]; rfl
  have hmi2 : (n : Int) % 4 = 0 := by have := hd.out; omega
  obtain ⟨q, hqe⟩ : ∃ q, n / 4 = q := ⟨_, rfl⟩
  have hqi : (n : Int).tdiv 4 = (q : Int) := by rw [show (n : Int).tdiv 4 = ((n / 4 : Nat) : Int) from rfl, hqe]
  have hqi2 : (n : Int) / 4 = (q : Int) := by omega
  have hN : N = K + q := by rw [hr.out, hqe]
  have hNi : (K : Int) + (q : Int) = (N : Int) := by omega
  have hNw : IntKind.i64.wrap (N : Int) = (N : Int) := IntWalk.i64_in _ (by omega)
  have h40 : ¬ (40 : Int) < (N : Int) := by omega
  have hsl : (sums8 lb).length = q := by rw [sums8_length, hbs.1, hqe]
  have hq40 : q ≤ 40 := by omega
  have hN1 : 1 ≤ N := by omega
  have htl : (l ++ sums8 lb).length = N := by rw [List.length_append, hsl, hll, hN]
  have HN := Lib.hid (And.intro hN (And.intro hqe (And.intro hsl (And.intro htl hll))))
  clear hN hqe hsl htl hll
  go_enter Try.func23, Try.ntmps23
  go_wp2_with fail
  go_region_law (first
    | (go_simp; go_at_call 37; refine (concat_any w2.heap.size _ va K c q vc l (sums8 lb) (w2.alloc (.cells #[.slice (some ⟨ga, 0, none⟩) K c, .slice va q vc] 22)) (Has.fresh _ _ _) ((hw.draw.below hb2).past _) (hvw.past _) (fun e => by cases e) hv0 hp (by omega) (by omega)).mono ?_; rintro e w3 ⟨⟨tv, rfl, ht⟩, hb3⟩; obtain ⟨ga', c', rfl⟩ := own_head ht HN.out.2.2.2.1 hN1)
    | (go_simp; go_at_call 26; refine (read_any a n d lb w.drew hbs.draw hnd hd (by omega)).mono ?_; rintro e w2 ⟨⟨v, rfl, hv⟩, hb2⟩; obtain ⟨va, vc, rfl, hvc, hv0, hvw⟩ := fresh_shapeK (K := q) hv.fresh HN.out.2.2.1; have hc2 := (h.draw.below hb2).hcell))
  all_goals
    (have hT2 : Below w.heap.size w w2 := (Below.refl w.heap.size w).drew.trans hb2
     have hTA := hT2.alloc hT2.size (.cells #[.slice (some ⟨ga, 0, none⟩) K c, .slice va q vc] 22)
     have hT3 := hTA.trans (hb3.mono hTA.size)
     have hA := SkA.box (ht.low hTA.size) HN.out.2.2.2.1 hN1 hN40 hT3.size
     have hTB := hT3.alloc hT3.size (.cells #[.slice (some ⟨ga', 0, none⟩) N c'] 57)
     go_wp2_with fail
     go_ret2
     first | exact ⟨⟨_, _, _, rfl, hA⟩, hTB⟩ | exact ⟨⟨_, rfl, _, _, hA⟩, hTB⟩)
end Go.Proofs.Ytamigcbodplmcaa
