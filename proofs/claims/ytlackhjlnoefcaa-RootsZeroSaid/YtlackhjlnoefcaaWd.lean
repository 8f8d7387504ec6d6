/- Slices of words: making, copying, comparing; sums of two. -/
import Derived.Test.YtlackhjlnoefcaaGfPw
import Derived.Test.YtlackhjlnoefcaaPoM
import Derived.Test.YtlackhjlnoefcaaSl
import Derived.BigQuiet
import Derived.Deep.RegionHeld3
namespace Go.Proofs.Ytlackhjlnoefcaa
open Go Go.RowKit
theorem info_word : (Try.prog.info? 37).map (fun i => (i.zero, i.size, i.bytes)) = some (some (.int .u32 0), 1, 4) := by kernel_rfl
theorem size_word : (Try.prog.info? 37).map (·.size) = some 1 := by kernel_rfl
theorem make_words (n : Nat) (hn : n ≤ 1099511627776) (w : World) :
    (Instr.makeSlice 22 (.int .i64 (n : Int)) (.int .i64 (n : Int))).run Try.prog w = .ok (.slice (some ⟨w.heap.size, 0, none⟩) n n) (w.alloc (.cells (wcells n fun _ => 0) 37)) := by
  rw [run_make_row' 22 37 _ 4 Try.underlying22 info_word rfl .i64 .i64 n (by omega) (by omega) w, wcells_made]
/-- copy into a new block, the whole of it -/
theorem copy_words (w0 : World) (g n c m : Nat) (a : Option Addr) (l l' : List (BitVec 32)) (f : Nat → BitVec 32) (hh : Has w0 g 37 (wcells m f)) (hw : Words32 w0 a n l) (hm : m ≤ n) (hl : l'.length = m) (he : ∀ i, i < m → l'.getD i 0 = l.getD i 0) :
    (Builtin.copy_ #[22, 22] 3 #[.slice (some ⟨g, 0, none⟩) m m, .slice a n c]).run Try.prog w0 = .ok (goInt m) (w0.setCells g 0 (wlist l')) := by
  rcases Nat.eq_zero_or_pos m with h0 | h0
  · subst h0
    have : l' = [] := List.length_eq_zero_iff.1 hl
    subst this
    exact run_copy_none w0 _ _ _ 37 _ _ _ _ _ _ Try.underlying22 size_word (by simp)
  · obtain ⟨ad, rfl, _⟩ := hw.2.2 0 (by omega)
    have := run_copy_cells (P := Try.prog) w0 22 22 3 37 g 0 m m ad n c (wlist l') Try.underlying22 size_word
      (by rw [wlist_length, hl]; exact (Nat.min_eq_right hm).symm)
      (fun j v hv => by
        have hj : j < l'.length := by
          have := (List.getElem?_eq_some_iff.1 hv).1
          rwa [wlist_length] at this
        obtain ⟨x, e, hx⟩ := hw.2.2 j (by omega)
        injection e with e
        subst e
        rw [hx, ← hv, wlist_at l' j hj, he j (by omega)])
      (fun j hj => by rw [hh.cell, Nat.zero_add, wcells_at _ (by rw [wlist_length] at hj; omega)]; rfl)
      (fun j hj => hh.loose _) (wlist_one l')
    rw [this, wlist_length, hl]
theorem xors_two (x y : BitVec 32) : xors [x, y] = x ^^^ y := by simp [xors]
theorem sum2 (x y : BitVec 32) (w : World) :
    Calls Try.prog 44 #[.slice (some ⟨w.heap.size, 0, none⟩) 2 2] (w.alloc (.cells #[.int .u32 (nb32 x), .int .u32 (nb32 y)] 37)) fun e w' =>
      e = .returned (.int .u32 (nb32 (x ^^^ y))) ∧ w' = w.alloc (.cells #[.int .u32 (nb32 x), .int .u32 (nb32 y)] 37) := by
  refine (sum_any _ 2 2 [x, y] _ ⟨rfl, by unfold maxLen; omega, fun i hi => ⟨_, rfl, ?_⟩⟩).mono ?_
  · rw [Addr.add_mid, (Has.fresh w _ _).cell]
    rcases i with _ | _ | i
    · rfl
    · rfl
    · omega
  · rintro e w' ⟨rfl, rfl⟩
    rw [xors_two]
    exact ⟨rfl, rfl⟩
/-- what addMultiple leaves, k rounds done -/
def amF (s : Nat → BitVec 32) (off : Nat) (by_ : BitVec 32) (l : List (BitVec 32)) (k : Nat) (j : Nat) : BitVec 32 :=
  if off ≤ j ∧ j < off + k then s j ^^^ Gf.mul by_ (Po.cf l (j - off)) else s j
theorem amF_step (s : Nat → BitVec 32) (off N : Nat) (by_ : BitVec 32) (l : List (BitVec 32)) (k : Nat) (x : BitVec 32) (hx : x = s (off + k) ^^^ Gf.mul by_ (Po.cf l k)) :
    (wcells N (amF s off by_ l k)).setIfInBounds (off + k) (.int .u32 (nb32 x)) = wcells N (amF s off by_ l (k + 1)) := by
  refine wcells_put _ _ _ _ ?_ (fun j _ hne => ?_)
  · rw [amF, if_pos ⟨by omega, by omega⟩, show off + k - off = k from by omega, hx]
  · unfold amF
    by_cases h : off ≤ j ∧ j < off + k
    · rw [if_pos h, if_pos ⟨h.1, by omega⟩]
    · rw [if_neg h, if_neg (by omega)]
theorem amF_here (s : Nat → BitVec 32) (off : Nat) (by_ : BitVec 32) (l : List (BitVec 32)) (k : Nat) : amF s off by_ l k (off + k) = s (off + k) := by
  rw [amF, if_neg (by omega)]
theorem Words32.take {w : World} {a : Option Addr} {n k : Nat} {l : List (BitVec 32)} (h : Words32 w a n l) (hk : k ≤ n) : Words32 w a k (l.take k) := by
  obtain ⟨hl, hm, hc⟩ := h
  refine ⟨by simp; omega, by omega, fun i hi => ?_⟩
  obtain ⟨x, e, hx⟩ := hc i (by omega)
  refine ⟨x, e, hx.trans ?_⟩
  have := Po.cf_take l k i
  rw [if_pos hi] at this
  have e2 : (l.take k).getD i 0 = l.getD i 0 := this
  rw [e2]
theorem Words32.block_lt {w : World} {a : Option Addr} {n : Nat} {l : List (BitVec 32)} {ad : Addr} (h : Words32 w a n l) (hn : 0 < n) (e : a = some ad) : ad.block < w.heap.size := by
  obtain ⟨x, e', hx⟩ := h.2.2 0 hn
  obtain rfl : ad = x := by rw [e] at e'; injection e'
  have := isSome_lt (w := w) (p := ad.add 0) (by rw [hx]; rfl)
  rwa [Addr.add_zero'] at this
theorem words_one (w : World) (x : BitVec 32) (t : TypeId) : Words32 (w.alloc (.cells #[.int .u32 (nb32 x)] t)) (some ⟨w.heap.size, 0, none⟩) 1 [x] :=
  ⟨rfl, by unfold maxLen; omega, fun i hi => ⟨_, rfl, by
    obtain rfl : i = 0 := by omega
    rw [Addr.add_mid, (Has.fresh w t _).cell]; rfl⟩⟩
theorem words_two (w : World) (x y : BitVec 32) (t : TypeId) : Words32 (w.alloc (.cells #[.int .u32 (nb32 x), .int .u32 (nb32 y)] t)) (some ⟨w.heap.size, 0, none⟩) 2 [x, y] :=
  ⟨rfl, by unfold maxLen; omega, fun i hi => ⟨_, rfl, by
    rw [Addr.add_mid, (Has.fresh w t _).cell]
    rcases i with _ | _ | i
    · rfl
    · rfl
    · omega⟩⟩
theorem words_three (w : World) (x y z : BitVec 32) (t : TypeId) : Words32 (w.alloc (.cells #[.int .u32 (nb32 x), .int .u32 (nb32 y), .int .u32 (nb32 z)] t)) (some ⟨w.heap.size, 0, none⟩) 3 [x, y, z] :=
  ⟨rfl, by unfold maxLen; omega, fun i hi => ⟨_, rfl, by
    rw [Addr.add_mid, (Has.fresh w t _).cell]
    rcases i with _ | _ | _ | i
    · rfl
    · rfl
    · rfl
    · omega⟩⟩
theorem Words32.past {w : World} {a : Option Addr} {n : Nat} {l : List (BitVec 32)} (h : Words32 w a n l) (o : Obj) : Words32 (w.alloc o) a n l := h.keep fun p hp => World.cell?_alloc_lt w o p (isSome_lt hp)
theorem words_of_has {T : TypeId} {w : World} {g n c : Nat} {f : Nat → BitVec 32} (hh : Has w g T (wcells c f)) (hn : n ≤ c) (hm : n ≤ 1099511627776) : Words32 w (some ⟨g, 0, none⟩) n (Po.mk n f) := by
  refine ⟨Po.mk_length _ _, by unfold maxLen; omega, fun i hi => ⟨_, rfl, ?_⟩⟩
  rw [Addr.add_mid, Nat.zero_add, hh.cell, wcells_at _ (by omega)]
  have := Po.cf_mk n f i
  rw [if_pos hi] at this
  rw [show (Po.mk n f).getD i 0 = _ from this]
set_option maxHeartbeats 1000000 in
theorem words_any (a b : Option Addr) (n c m d : Nat) (la lb : List (BitVec 32)) (w : World) (ha : Words32 w a n la) (hb : Words32 w b m lb) :
    Calls Try.prog 13 #[.slice a n c, .slice b m d] w fun e w' => e = .returned (.bool (decide (la = lb))) ∧ Drawn w w' := by
  have hla := ha.1
  have hlb := hb.1
  have hmx : n ≤ 9223372036854775807 := ha.2.1
  by_cases hnm : n = m
  · subst hnm
    go_enter Try.func13, Try.ntmps13
    go_wp2
    go_loopw [13] (fun i wr => ∃ k : Nat, k ≤ n ∧ i = .int .i64 k ∧ (∀ i, i < k → Po.cf la i = Po.cf lb i) ∧ Drawn w wr) (fun i _ => n - (intOf i).toNat)
    case atStart => exact ⟨0, Nat.zero_le _, rfl, fun i hi => by omega, Drawn.refl _⟩
    case round =>
      obtain ⟨k, hk, rfl, hc, hd⟩ := hrel
      have HC := Lib.hid hc
      clear hc
      by_cases hlt : k < n
      · obtain ⟨ad, rfl, hx⟩ := ha.2.2 k hlt
        obtain ⟨ad2, rfl, hy⟩ := hb.2.2 k hlt
        obtain ⟨z, hz⟩ : ∃ z, z = Po.cf la k := ⟨_, rfl⟩
        obtain ⟨y, hyz⟩ : ∃ y, y = Po.cf lb k := ⟨_, rfl⟩
        rw [show la.getD k 0 = z from hz.symm] at hx
        rw [show lb.getD k 0 = y from hyz.symm] at hy
        have hcx := ((hd.below w.heap.size).cell (isSome_lt (by rw [hx]; rfl))).trans hx
        have hcy := ((hd.below w.heap.size).cell (isSome_lt (by rw [hy]; rfl))).trans hy
        have h0 : (0 : Int) ≤ (k : Int) := by omega
        have h1 : (k : Int) < (n : Int) := by omega
        have HZ := Lib.hid (And.intro hz hyz)
        clear hz hyz hx hy
        by_cases he : z = y
        · have ht : (z != y) = false := by simp [he]
          have HE := Lib.hid he
          clear he
          go_wp2_with fail
          go_quiet (fail)
          go_wp2
          go_roundw
          case rel => exact ⟨k + 1, by omega, by go_num, fun i hi => by
            by_cases h2 : i = k
            · subst h2; rw [← HZ.out.1, ← HZ.out.2, HE.out]
            · exact HC.out i (by omega), hd.draws _⟩
          case measure => simp [intOf]; omega
        · have ht : (z != y) = true := by simp [he]
          have hf : decide (la = lb) = false := by
            rw [decide_eq_false_iff_not]
            rintro rfl
            exact he (by rw [HZ.out.1, HZ.out.2])
          have HF := Lib.hid hf
          clear he hf
          go_wp2_with fail
          go_quiet (fail)
          go_wp2
          go_ret
          exact ⟨by rw [HF.out]; rfl, hd.draws _⟩
      · obtain rfl : k = n := by omega
        have hf : decide (la = lb) = true := by
          rw [decide_eq_true_eq]
          exact Po.list_ext (by omega) fun i hi => HC.out i (by omega)
        have HF := Lib.hid hf
        clear hf
        go_wp2
        go_ret
        exact ⟨by rw [HF.out]; rfl, hd⟩
  · have hf : decide (la = lb) = false := by
      rw [decide_eq_false_iff_not]
      rintro rfl
      omega
    have ht : ((n : Int) != (m : Int)) = true := by simp; omega
    rw [hf]
    go_enter Try.func13, Try.ntmps13
    go_wp2
    go_ret
    exact ⟨rfl, Drawn.refl _⟩
theorem words_same (a b : Option Addr) (n c m d : Nat) (la lb : List (BitVec 32)) (w : World) (ha : Words32 w a n la) (hb : Words32 w b m lb) (h : la = lb) :
    Calls Try.prog 13 #[.slice a n c, .slice b m d] w fun e w' => e = .returned (.bool true) ∧ Drawn w w' := by
  refine (words_any a b n c m d la lb w ha hb).mono ?_
  rintro e w' ⟨rfl, hd⟩
  exact ⟨by rw [decide_eq_true h], hd⟩
def errRange : Value := .iface 35 (.int .i64 1)
theorem is_range (w : World) :
    Calls Try.prog 15 #[errRange, .int .i64 1] w fun e w' => e = .returned (.bool true) ∧ w = w' := by
  unfold errRange
  have hta : ∀ w : World, (Instr.typeAssert (.iface 35 (.int .i64 1)) 25 35 true).run Try.prog w = .ok (.tuple #[.int .i64 1, .bool true]) w := fun w => by kernel_rfl
  go_enter Try.func15, Try.ntmps15
  go_wp2_with go_in
  go_ret
  exact ⟨rfl, rfl⟩
end Go.Proofs.Ytlackhjlnoefcaa
