/- the library's sort of words: cmp.Less, insertionSortOrdered · the library's sort of words: math/bits.Len, nextPowerOfTwo, xorshift, breakPatternsOrdered, reverseRangeOrdered · the library's sort of words: order2Ordered, medianOrdered, medianAdjacentOrdered, choosePivotOrdered (what they answer, not which) · the library's sort of words: siftDownOrdered, heapSortOrdered · the library's sort of words: partialInsertionSortOrdered · the library's sort of words: partitionOrdered, partitionEqualOrdered -/
import Derived.Test.YtlackhjlnoefcaaWd
import Derived.Test.YtlackhjlnoefcaaWe
import Derived.Sort.Grow
import Derived.Sort.LotA
import Derived.Sort.LotB
import Derived.Sort.LotC
import Derived.BigQuiet
import Derived.StillTailTactics
import Derived.CellFam
import Derived.Sort.LotD1
import Derived.Maps.Range
import Derived.Deep.Cut
import Derived.Deep.CutRange
/-! the library's sort of words: cmp.Less, insertionSortOrdered -/
namespace Go.Proofs.Ytlackhjlnoefcaa
open Go Go.RowKit Go.ChangeShapes Go.WideShapes Go.Sort
namespace So
abbrev E := BitVec 32
/-- an element as it lies in memory -/
def enc (x : E) : Value := .int .u32 (nb32 x)
/-- what cmp.Less says -/
def lt (x y : E) : Bool := decide (x.toNat < y.toNat)
theorem swo : SWO lt where
  irrefl := fun x => by simp [lt]
  trans := fun x y z h h' => by simp only [lt, decide_eq_true_eq] at *; omega
  ntrans := fun x y z h h' => by simp only [lt, decide_eq_false_iff_not] at *; omega
end So
theorem isnan_any (x : BitVec 32) (w : World) :
    Calls Try.prog 91 #[.int .u32 (nb32 x)] w fun e w' => e = .returned (.bool false) ∧ w' = w := by
  go_enter Try.func91, Try.ntmps91
  go_wp2
  go_ret
  exact ⟨by simp, rfl⟩
theorem less_any (x y : BitVec 32) (w : World) :
    Calls Try.prog 79 #[.int .u32 (nb32 x), .int .u32 (nb32 y)] w fun e w' => e = .returned (.bool (So.lt x y)) ∧ w' = w := by
  have hl : decide (nb32 x < nb32 y) = So.lt x y := by unfold So.lt nb32; congr 1; simp
  go_enter Try.func79, Try.ntmps79
  go_wp2_with (first | (go_at_call 91; refine (isnan_any _ _).mono ?_; rintro e w2 ⟨rfl, rfl⟩))
  go_ret
  exact ⟨rfl, rfl⟩
namespace So
/-- the world in which the row at g, off holds d, w otherwise, but for draws -/
def Is (w : World) (g off : Nat) (d : Array E) (w' : World) : Prop := ∃ n, w' = putRow enc (Sort.ahead w n) g off d
theorem Is.refl {w : World} {g off : Nat} {d : Array E} (h : Holds enc w g off d) : Is w g off d w := ⟨0, (putRow_self _ _ _ _ _ h).symm⟩
theorem Is.draws {w w' : World} {g off : Nat} {d : Array E} (h : Is w g off d w') (q : Nat) : Is w g off d (w'.drewN q) := by
  obtain ⟨n, rfl⟩ := h
  exact ⟨n + q, by simp [World.drewN, Sort.ahead, putRow, mapBlock, Nat.add_assoc]⟩
theorem Is.swap {w w' : World} {g off : Nat} {d : Array E} (h : Is w g off d w') {i j : Nat} (hi : i < d.size) (hj : j < d.size) (q : Nat) :
    Is w g off (swp d i j) (((w'.drewN q).setCell ⟨g, off + i, none⟩ (enc d[j]!)).setCell ⟨g, off + j, none⟩ (enc d[i]!)) := by
  obtain ⟨n, hn⟩ := h.draws q
  exact ⟨n, by rw [hn, putRow_swp _ _ _ _ _ _ _ hi hj]⟩
theorem Is.cell {w w' : World} {g off : Nat} {d0 d : Array E} (h : Is w g off d w') (h0 : Holds enc w g off d0) (hs : d.size = d0.size) {t : Nat} (ht : t < d.size) : w'.cell? ⟨g, off + t, none⟩ = some (enc d[t]!) ∧ w'.frozen? ⟨g, off + t, none⟩ = false := by
  obtain ⟨n, rfl⟩ := h
  exact holds_putRow enc _ g off d0 d (holds_ahead _ _ _ _ _ _ h0) hs t ht
theorem Is.fam {w w' : World} {g off n : Nat} {d0 d : Array E} (h : Is w g off d w') (h0 : Holds enc w g off d0) (hn : d0.size = n) (hs : d.size = n) :
    ∃ G : Nat → E, (∀ t, G t = d[t]!) ∧ (∀ t, t < n → w'.cell? ⟨g, off + t, none⟩ = some (.int .u32 (nb32 (G t)))) ∧ (∀ t, t < n → w'.frozen? ⟨g, off + t, none⟩ = false) :=
  ⟨fun t => d[t]!, fun _ => rfl, fun _ ht => (h.cell h0 (by omega) (by omega)).1, fun _ ht => (h.cell h0 (by omega) (by omega)).2⟩
theorem Is.holds {w w' : World} {g off : Nat} {d0 d : Array E} (h : Is w g off d w') (h0 : Holds enc w g off d0) (hs : d.size = d0.size) : Holds enc w' g off d := fun _ hj => h.cell h0 hs hj
theorem Is.trans {w w' w'' : World} {g off : Nat} {d d' : Array E} (h : Is w g off d w') (h' : Is w' g off d' w'') (hs : d'.size = d.size) : Is w g off d' w'' := by
  obtain ⟨n, rfl⟩ := h
  obtain ⟨m, rfl⟩ := h'
  exact ⟨n + m, putRow_ahead_putRow enc w n m g off d d' hs⟩
theorem _root_.Go.Proofs.Ytlackhjlnoefcaa.insStop {a j : Nat} {d : Array E} (h : j ≤ a ∨ lt d[j]! d[j - 1]! = false) : insInner lt a j d = d := by
  cases j with
  | zero => rfl
  | succ j =>
    rw [insInner]
    rcases h with h | h
    · rw [if_neg (by simp; omega)]
    · rw [if_neg (by rw [show j + 1 - 1 = j from rfl] at h; simp [h])]
theorem _root_.Go.Proofs.Ytlackhjlnoefcaa.insOuterGo {a b i : Nat} {d : Array E} (h : i < b) : insOuter lt a b i d = insOuter lt a b (i + 1) (insInner lt a i d) := by
  rw [insOuter, if_pos h]
theorem _root_.Go.Proofs.Ytlackhjlnoefcaa.insGo {a j : Nat} {d : Array E} (h : a < j) (h2 : lt d[j]! d[j - 1]! = true) : insInner lt a j d = insInner lt a (j - 1) (swp d j (j - 1)) := by
  cases j with
  | zero => omega
  | succ j =>
    rw [insInner, if_pos (by rw [show j + 1 - 1 = j from rfl] at h2; simp [h2, h])]
    rfl
end So
set_option maxRecDepth 1000000 in
set_option maxHeartbeats 4000000 in
theorem insertion_any (g off n c a b : Nat) (d : Array So.E) (w : World) (hn : d.size = n) (hH : Holds So.enc w g off d) (hab : a ≤ b) (hb : b ≤ n) (hsz : n ≤ 1000000) :
    Calls Try.prog 73 #[.slice (some ⟨g, off, none⟩) n c, .int .i64 (a : Int), .int .i64 (b : Int)] w fun e w' =>
      e = .returned (.tuple #[]) ∧ So.Is w g off (insertionSort So.lt d a b) w' := by
  have HH := Lib.hid hH
  clear hH
  go_enter Try.func73, Try.ntmps73
  go_wp2
  go_loopw [6] (fun vi wr => ∃ (i : Nat) (dk : Array So.E), vi = .int .i64 (i : Int) ∧ a < i ∧ i ≤ b + 1 ∧ dk.size = n ∧ RowKit.Hid (So.Is w g off dk wr) ∧ RowKit.Hid (insOuter So.lt a b i dk = insertionSort So.lt d a b)) (fun vi _ => b + 1 - (intOf vi).toNat)
  case atStart => exact ⟨a + 1, d, by go_num, by omega, by omega, hn, Lib.hid (So.Is.refl HH.out), Lib.hid rfl⟩
  case round =>
    obtain ⟨i, dk, rfl, hai, hib, hsk, HW, HO⟩ := hrel
    by_cases hlt : i < b
    · have hlti : (i : Int) < (b : Int) := by omega
      go_wp2
      rename World => wA
      go_loopw [7] (fun vj wr => ∃ (j : Nat) (dj : Array So.E), vj = .int .i64 (j : Int) ∧ a ≤ j ∧ j ≤ i ∧ dj.size = n ∧ RowKit.Hid (So.Is w g off dj wr) ∧ RowKit.Hid (insInner So.lt a j dj = insInner So.lt a i dk)) (fun vj _ => (intOf vj).toNat)
      case atStart => exact ⟨i, dk, rfl, by omega, Nat.le_refl _, hsk, HW, Lib.hid rfl⟩
      case round =>
        obtain ⟨j, dj, rfl, haj, hji, hsj, HW2, HI⟩ := hrel
        by_cases hja : a < j
        · obtain ⟨x, hx⟩ : ∃ x, x = dj[j]! := ⟨_, rfl⟩
          obtain ⟨y, hy⟩ : ∃ y, y = dj[j - 1]! := ⟨_, rfl⟩
          have hcx := HW2.out.cell HH.out (by omega) (t := j) (by omega)
          have hcy := HW2.out.cell HH.out (by omega) (t := j - 1) (by omega)
          rw [← hx] at hcx
          rw [← hy] at hcy
          obtain ⟨hcx, hfx⟩ := hcx
          obtain ⟨hcy, hfy⟩ := hcy
          unfold So.enc at hcx hcy
          have HX := Lib.hid hx
          have HY := Lib.hid hy
          clear hx hy
          go_wp2_with fail
          go_big_quiet (first | (go_at_call 79; refine Calls.quiet_of_same (less_any _ _ _)))
          by_cases hl : So.lt x y = true
          · rw [hl]
            go_wp2_with fail
            go_region
            have hsw := HW2.out.swap (i := j) (j := j - 1) (by omega) (by omega) (nq + 1)
            rw [← HX.out, ← HY.out] at hsw
            have hin : insInner So.lt a (j - 1) (swp dj j (j - 1)) = insInner So.lt a i dk := by
              rw [← HI.out]
              exact (insGo hja (by rw [← HX.out, ← HY.out]; exact hl)).symm
            have HS := Lib.hid hsw
            have HN := Lib.hid hin
            clear hsw hin
            go_wp2_with fail
            go_roundw
            case rel => exact ⟨j - 1, swp dj j (j - 1), by go_num, by omega, by omega, by rw [size_swp]; exact hsj, HS, HN⟩
            case measure => simp [intOf]; omega
          · have hl2 : So.lt x y = false := by simpa using hl
            rw [hl2]
            go_wp2_with fail
            go_roundw
            case rel => exact ⟨i + 1, dj, by go_num, by omega, by omega, hsj, Lib.hid (HW2.out.draws nq), Lib.hid (by
              rw [← HO.out, insOuterGo hlt, ← HI.out, insStop (.inr (by rw [← HX.out, ← HY.out]; exact hl2))])⟩
            case measure => simp [intOf]; omega
        · have hja2 : ¬ (a : Int) < (j : Int) := by omega
          have hja3 : decide ((j : Int) > (a : Int)) = false := decide_eq_false (by omega)
          go_wp2_with fail
          go_big_quiet (first | (go_at_call 79; refine Calls.quiet_of_same (less_any _ _ _)))
          go_wp2_with fail
          go_roundw
          case rel => exact ⟨i + 1, dj, by go_num, by omega, by omega, hsj, Lib.hid (HW2.out.draws nq), Lib.hid (by
            rw [← HO.out, insOuterGo hlt, ← HI.out, insStop (.inl (by omega))])⟩
          case measure => simp [intOf]; omega
    · have hlti : ¬ (i : Int) < (b : Int) := by omega
      go_wp2
      go_end0
      exact ⟨rfl, by rw [← HO.out, insOuter, if_neg hlt]; exact HW.out⟩
end Go.Proofs.Ytlackhjlnoefcaa

/-! the library's sort of words: math/bits.Len, nextPowerOfTwo, xorshift, breakPatternsOrdered, reverseRangeOrdered -/
namespace Go.Proofs.Ytlackhjlnoefcaa
open Go Go.RowKit Go.ChangeShapes Go.WideShapes Go.Sort
set_option maxRecDepth 1000000 in
set_option maxHeartbeats 4000000 in
theorem len64_any (x : Nat) (hx : x < 256) (w : World) :
    Calls Try.prog 83 #[.int .u64 (x : Int)] w fun e w' => e = .returned (.int .i64 (bitsLen x : Nat)) ∧ w' = w := by
  have c1 : ¬ (x : Int) ≥ 4294967296 := by omega
  have c2 : ¬ (x : Int) ≥ 65536 := by omega
  have c3 : ¬ (x : Int) ≥ 256 := by omega
  go_enter Try.func83, Try.ntmps83
  go_wp2
  go_ret
  refine ⟨congrArg Ending.returned (congrArg (Value.int IntKind.i64) ?_), rfl⟩
  revert c1 c2 c3
  revert hx
  revert x
  decide +kernel
theorem len_any (x : Nat) (hx : x < 256) (w : World) :
    Calls Try.prog 67 #[.int .u64 (x : Int)] w fun e w' => e = .returned (.int .i64 (bitsLen x : Nat)) ∧ w' = w := by
  go_enter Try.func67, Try.ntmps67
  go_wp2_with (first | (go_at_call 83; refine (len64_any x hx _).mono ?_; rintro e w1 ⟨rfl, rfl⟩))
  go_ret
  exact ⟨rfl, rfl⟩
theorem npow_any (x : Nat) (hx : x < 256) (w : World) :
    Calls Try.prog 87 #[.int .i64 (x : Int)] w fun e w' => e = .returned (.int .u64 (nb64 (BitVec.ofNat 64 1 <<< bitsLen x))) ∧ w' = w := by
  have hw : IntKind.u64.wrap (x : Int) = (x : Int) := by rw [IntKind.wrap_u64]; omega
  go_enter Try.func87, Try.ntmps87
  go_wp2_with (first | (go_at_call 67; refine (len_any x hx _).mono ?_; rintro e w1 ⟨rfl, rfl⟩))
  go_ret
  exact ⟨rfl, rfl⟩
/-- a cell stays a cell behind a store -/
theorem cell_behind {w : World} {p q : Addr} {x y : Value} (h : w.cell? q = some y) : ∃ z, (w.setCell p x).cell? q = some z := by
  by_cases e : p = q
  · subst e; exact ⟨x, World.cell?_setCell_same w p x h⟩
  · exact ⟨y, (World.cell?_setCell_other w p q x e).trans h⟩
theorem grown_set (w : World) (H i : Nat) (v : Value) : w.grownBy (w.setCell ⟨H, i, none⟩ v) (some H) :=
  ⟨rfl, rfl, rfl, by simp, fun k _ hne => Below.heap_setCell w _ v k (fun e => hne (by rw [e]))⟩
theorem grown_draw {w w' : World} {r : Option Nat} (h : w.grownBy w' r) : w.grownBy w'.drew r := ⟨h.os, h.tape, h.output, h.size, h.block⟩
/-- one step of the generator -/
theorem xstep {H : Nat} {z y : BitVec 64} {w0 w : World} (hg : w0.grownBy w (some H)) (hh : Has w H 99 #[.int .u64 (nb64 z)]) :
    Has (w.setCell ⟨H, 0, none⟩ (.int .u64 (nb64 y))).drew H 99 #[.int .u64 (nb64 y)] ∧ w0.grownBy (w.setCell ⟨H, 0, none⟩ (.int .u64 (nb64 y))).drew (some H) :=
  ⟨(hh.put 0 _).draw, grown_draw (hg.trans (grown_set w H 0 _))⟩
set_option maxRecDepth 1000000 in
set_option maxHeartbeats 4000000 in
theorem xnext_any (H : Nat) (z : BitVec 64) (w : World) (hh : Has w H 99 #[.int .u64 (nb64 z)]) :
    Calls Try.prog 88 #[.pointer (some ⟨H, 0, none⟩)] w fun e w' => (∃ y : BitVec 64, e = .returned (.int .u64 (nb64 y)) ∧ Has w' H 99 #[.int .u64 (nb64 y)]) ∧ w.grownBy w' (some H) := by
  have hc := hh.cell_at (i := 0) (v := .int .u64 (nb64 z)) rfl
  have hf := hh.loose 0
  have H0 := Lib.hid (And.intro hh (World.grownBy.refl w (some H)))
  clear hh
  go_enter Try.func88, Try.ntmps88
  go_wp2_with fail
  go_region
  obtain ⟨h1, g1⟩ := xstep (y := z ^^^ z <<< 13) H0.out.2 H0.out.1
  clear hc hf
  generalize (w.setCell ⟨H, 0, none⟩ (.int .u64 (nb64 (z ^^^ z <<< 13)))).drew = w1 at h1 g1 ⊢
  have hc := h1.cell_at (i := 0) (v := .int .u64 (nb64 (z ^^^ z <<< 13))) rfl
  have hf := h1.loose 0
  have H1 := Lib.hid (And.intro h1 g1)
  clear h1 g1
  generalize z ^^^ z <<< 13 = z1 at H1 hc ⊢
  go_wp2_with fail
  go_region
  obtain ⟨h1, g1⟩ := xstep (y := z1 ^^^ z1 >>> 7) H1.out.2 H1.out.1
  clear hc hf
  generalize (w1.setCell ⟨H, 0, none⟩ (.int .u64 (nb64 (z1 ^^^ z1 >>> 7)))).drew = w2 at h1 g1 ⊢
  have hc := h1.cell_at (i := 0) (v := .int .u64 (nb64 (z1 ^^^ z1 >>> 7))) rfl
  have hf := h1.loose 0
  have H2 := Lib.hid (And.intro h1 g1)
  clear h1 g1
  generalize z1 ^^^ z1 >>> 7 = z2 at H2 hc ⊢
  go_wp2_with fail
  go_region
  obtain ⟨h1, g1⟩ := xstep (y := z2 ^^^ z2 <<< 17) H2.out.2 H2.out.1
  clear hc hf
  generalize (w2.setCell ⟨H, 0, none⟩ (.int .u64 (nb64 (z2 ^^^ z2 <<< 17)))).drew = w3 at h1 g1 ⊢
  have hc := h1.cell_at (i := 0) (v := .int .u64 (nb64 (z2 ^^^ z2 <<< 17))) rfl
  have hf := h1.loose 0
  generalize z2 ^^^ z2 <<< 17 = z3 at h1 hc ⊢
  go_wp2
  go_ret
  exact ⟨⟨z3, rfl, h1⟩, g1⟩
namespace So
/-- the row at g, off holds d; else only new blocks -/
structure At (w : World) (g off : Nat) (d : Array E) (w' : World) : Prop where
  grown : w.grownBy w' (some g)
  holds : Holds enc w' g off d
  blk : ∀ cs T fr, w.heap[g]? = some (.cells cs T fr) → ∃ cs', w'.heap[g]? = some (.cells cs' T fr) ∧ cs'.size = cs.size
theorem At.refl {w : World} {g off : Nat} {d : Array E} (h : Holds enc w g off d) : At w g off d w := ⟨World.grownBy.refl _ _, h, fun cs _ _ e => ⟨cs, e, rfl⟩⟩
theorem At.trans {w w' w'' : World} {g off : Nat} {d d' : Array E} (h : At w g off d w') (h' : At w' g off d' w'') : At w g off d' w'' :=
  ⟨h.grown.trans h'.grown, h'.holds, fun cs T fr e => by
    obtain ⟨c1, e1, s1⟩ := h.blk cs T fr e
    obtain ⟨c2, e2, s2⟩ := h'.blk c1 T fr e1
    exact ⟨c2, e2, by omega⟩⟩
theorem Is.at {w w' : World} {g off : Nat} {d0 d : Array E} (h : Is w g off d w') (h0 : Holds enc w g off d0) (hs : d.size = d0.size) : At w g off d w' := by
  have hh := h.holds h0 hs
  obtain ⟨n, rfl⟩ := h
  refine ⟨⟨rfl, rfl, rfl, by simp, fun k _ hne => ?_⟩, hh, fun cs T fr e => ?_⟩
  · show ((Sort.ahead w n).heap.modify g (onCells (putCells enc off d)))[k]? = _
    rw [Array.getElem?_modify, if_neg (fun e => hne (by rw [e]))]
    rfl
  · refine ⟨putCells enc off d cs, ?_, by simp [putCells]⟩
    show ((Sort.ahead w n).heap.modify g (onCells (putCells enc off d)))[g]? = _
    rw [Array.getElem?_modify, if_pos rfl]
    show Option.map _ w.heap[g]? = _
    rw [e]
    rfl
/-- behind a call that leaves the row alone -/
theorem At.aside {w w' w'' : World} {g off : Nat} {d : Array E} {r : Option Nat} (h : At w g off d w') (hg : g < w.heap.size) (hgr : w'.grownBy w'' r) (hr : ∀ k, r = some k → w.heap.size ≤ k) : At w g off d w'' := by
  have hgs : g < w'.heap.size := Nat.lt_of_lt_of_le hg h.grown.size
  have hne : some g ≠ r := fun e => by have := hr g e.symm; omega
  have hb := hgr.block g hgs hne
  exact ⟨h.grown.andThen hgr (fun j hj => .inl (hr j hj)), fun j hj => ⟨(World.cell?_of_block (a := ⟨g, off + j, none⟩) hb).trans (h.holds j hj).1, (World.frozen?_of_block (a := ⟨g, off + j, none⟩) hb).trans (h.holds j hj).2⟩, fun cs T fr e => by
    obtain ⟨c1, e1, s1⟩ := h.blk cs T fr e
    exact ⟨c1, hb.trans e1, s1⟩⟩
theorem At.swap {w w' : World} {g off : Nat} {d : Array E} (h : At w g off d w') {i j : Nat} (hi : i < d.size) (hj : j < d.size) (q : Nat) :
    At w g off (swp d i j) (((w'.drewN q).setCell ⟨g, off + i, none⟩ (enc d[j]!)).setCell ⟨g, off + j, none⟩ (enc d[i]!)) :=
  h.trans (((Is.refl h.holds).swap hi hj q).at h.holds (size_swp _ _ _))
end So
set_option maxRecDepth 1000000 in
set_option maxHeartbeats 4000000 in
theorem reverse_any (g off n c a b : Nat) (d : Array So.E) (w : World) (hn : d.size = n) (hH : Holds So.enc w g off d) (hab : a < b) (hb : b ≤ n) (hsz : n ≤ 1000000) :
    Calls Try.prog 77 #[.slice (some ⟨g, off, none⟩) n c, .int .i64 (a : Int), .int .i64 (b : Int)] w fun e w' =>
      e = .returned (.tuple #[]) ∧ So.Is w g off (reverseRange d a b) w' := by
  have HH := Lib.hid hH
  obtain ⟨J0, hJ0⟩ : ∃ J0, b - 1 = J0 := ⟨_, rfl⟩
  have hb1 : (b : Int) - 1 = (J0 : Int) := by omega
  have hbw : IntKind.i64.wrap (b - 1 : Int) = (J0 : Int) := by rw [IntWalk.i64_in _ (by omega)]; omega
  have hr : reverseRange d a b = reverseLoop a J0 d := by rw [reverseRange, hJ0]
  rw [hr]
  have hJn : J0 < n := by omega
  clear hH hr hJ0
  go_enter Try.func77, Try.ntmps77
  go_wp2
  go_loopw [6, 7] (fun vi vj wr => ∃ (i j : Nat) (dk : Array So.E), vi = .int .i64 (i : Int) ∧ vj = .int .i64 (j : Int) ∧ i ≤ n ∧ j < n ∧ dk.size = n ∧ RowKit.Hid (So.Is w g off dk wr) ∧ RowKit.Hid (reverseLoop i j dk = reverseLoop a J0 d)) (fun vi vj _ => (intOf vj).toNat + 1 - (intOf vi).toNat)
  case atStart => exact ⟨a, J0, d, rfl, rfl, by omega, hJn, hn, Lib.hid (So.Is.refl HH.out), Lib.hid rfl⟩
  case round =>
    obtain ⟨i, j, dk, rfl, rfl, hin, hjn, hsk, HW, HR⟩ := hrel
    obtain ⟨G, hG, hcw, hfw⟩ := HW.out.fam HH.out hn hsk
    have HG := Lib.hid hG
    clear hG
    by_cases hij : i < j
    · have hiji : (i : Int) < (j : Int) := by omega
      have hjw : IntKind.i64.wrap ((j : Int) - 1) = (j : Int) - 1 := IntWalk.i64_in _ (by omega)
      have hst : reverseLoop (i + 1) (j - 1) (swp dk i j) = reverseLoop a J0 d := by
        rw [← HR.out, reverseLoop.eq_def i j dk, if_pos hij]
      have HS := Lib.hid hst
      clear hst
      go_wp2_with fail
      go_region
      have hsw := HW.out.swap (i := i) (j := j) (by omega) (by omega) 1
      rw [← HG.out, ← HG.out] at hsw
      have HW2 := Lib.hid hsw
      clear hsw hcw hfw
      go_wp2_with fail
      go_roundw
      case rel => exact ⟨i + 1, j - 1, swp dk i j, by go_num, by go_num, by omega, by omega, by rw [size_swp]; exact hsk, HW2, HS⟩
      case measure => (simp [intOf]; try omega)
    · have hiji : ¬ (i : Int) < (j : Int) := by omega
      go_wp2_with fail
      go_end0
      exact ⟨rfl, by rw [← HR.out, reverseLoop.eq_def, if_neg hij]; exact HW.out⟩
theorem and_lt {z m k : Nat} (hm : m = 2 ^ k - 1) : z &&& m < 2 ^ k := by
  rw [hm, Nat.and_two_pow_sub_one_eq_mod]
  exact Nat.mod_lt _ (Nat.two_pow_pos k)
/-- the number that is drawn -/
theorem other_ok {l k : Nat} (hk : bitsLen l = k) (h0 : 0 < l) (hl : l < 256) : ∃ N : BitVec 64, IntKind.u64.wrap (nb64 (BitVec.ofNat 64 1 <<< k) - 1) = nb64 N ∧ ∀ z : BitVec 64, ∃ o : Nat, IntKind.i64.wrap (nb64 (z &&& N)) = (o : Int) ∧ o < 2 * l := by
  have h1 := two_pow_bitsLen_le h0
  have h2 : k ≤ 8 := by rw [← hk]; exact (bitsLen_le_iff l 8).2 hl
  rw [hk] at h1
  have hM : (BitVec.ofNat 64 1 <<< k).toNat = 2 ^ k := by
    have h3 : k < 9 := by omega
    have : ∀ k, k < 9 → (BitVec.ofNat 64 1 <<< k).toNat = 2 ^ k := by decide +kernel
    exact this k h3
  have hp := Nat.two_pow_pos k
  have h256 : 2 ^ k ≤ 2 ^ 8 := Nat.pow_le_pow_right (by omega) h2
  refine ⟨BitVec.ofNat 64 (2 ^ k - 1), ?_, fun z => ⟨z.toNat &&& (2 ^ k - 1), ?_, ?_⟩⟩
  · have h4 : nb64 (BitVec.ofNat 64 1 <<< k) - 1 = ((2 ^ k - 1 : Nat) : Int) := by
      show ((BitVec.ofNat 64 1 <<< k).toNat : Int) - 1 = _
      rw [hM]; omega
    rw [h4, u64_lit (2 ^ k - 1) (by omega)]
    exact wrap_u64v _
  · have h5 : (z &&& BitVec.ofNat 64 (2 ^ k - 1)).toNat = z.toNat &&& (2 ^ k - 1) := by
      rw [BitVec.toNat_and, BitVec.toNat_ofNat, Nat.mod_eq_of_lt (by omega)]
    have h6 : z.toNat &&& (2 ^ k - 1) < 2 ^ k := and_lt rfl
    show IntKind.i64.wrap ((z &&& BitVec.ofNat 64 (2 ^ k - 1)).toNat : Int) = _
    rw [h5]
    exact IntWalk.i64_in _ (by omega)
  · have h6 : z.toNat &&& (2 ^ k - 1) < 2 ^ k := and_lt rfl
    omega
set_option maxRecDepth 1000000 in
set_option maxHeartbeats 4000000 in
theorem break_any (g off n c a b : Nat) (d : Array So.E) (w : World) (hn : d.size = n) (hg : g < w.heap.size) (hH : Holds So.enc w g off d) (hab : a + 12 < b) (hb : b ≤ n) (hsz : n < 256) :
    Calls Try.prog 75 #[.slice (some ⟨g, off, none⟩) n c, .int .i64 (a : Int), .int .i64 (b : Int)] w fun e w' =>
      e = .returned (.tuple #[]) ∧ ∃ d', PermIn a b d d' ∧ So.At w g off d' w' := by
  obtain ⟨l, hl⟩ : ∃ l, b - a = l := ⟨_, rfl⟩
  have hsub : (b : Int) - (a : Int) = (l : Int) := by omega
  have hsw : IntKind.i64.wrap (l : Int) = (l : Int) := IntWalk.i64_in _ (by omega)
  have hlu : IntKind.u64.wrap (l : Int) = nb64 (BitVec.ofNat 64 l) := by rw [← u64_lit l (by omega), IntKind.wrap_u64]; omega
  obtain ⟨q, hq⟩ : ∃ q, l / 4 = q := ⟨_, rfl⟩
  have hquo : (l : Int).tdiv 4 = (q : Int) := by rw [show (l : Int).tdiv 4 = ((l / 4 : Nat) : Int) from rfl, hq]
  have hquo2 : (l : Int) / 4 = (q : Int) := by omega
  have hqw : IntKind.i64.wrap (q : Int) = (q : Int) := IntWalk.i64_in _ (by omega)
  have hl8 : (l : Int) ≥ 8 := by omega
  have hl256 : l < 256 := by omega
  have hq3 : 3 ≤ q := by omega
  have hq4 : a + q * 4 ≤ b := by omega
  obtain ⟨k, hk⟩ : ∃ k, bitsLen l = k := ⟨_, rfl⟩
  obtain ⟨N, hN, ho⟩ := other_ok hk (by omega) hl256
  have hxs := Has.fresh w 99 #[.int .u64 (nb64 (BitVec.ofNat 64 l))]
  have hA0 : So.At w g off d (w.alloc (.cells #[.int .u64 (nb64 (BitVec.ofNat 64 l))] 99)) := (So.At.refl hH).aside hg (World.grownBy_alloc w _ none) (fun k e => by cases e)
  have HA0 := Lib.hid (And.intro hxs hA0)
  have HO := Lib.hid ho
  have HK := Lib.hid hk
  have HL := Lib.hid (And.intro hl hq)
  clear hxs hA0 ho hk hl hq hH
  go_enter Try.func75, Try.ntmps75
  go_wp2_with (first
    | (go_at_call 87; refine (npow_any l hl256 _).mono ?_; rw [HK.out]; rintro e w1 ⟨rfl, rfl⟩))
  obtain ⟨s0, hs0⟩ : ∃ s0, a + q * 2 - 1 = s0 := ⟨_, rfl⟩
  have hs0i : (a : Int) + (q : Int) * 2 - 1 = (s0 : Int) := by omega
  have HS0 := Lib.hid hs0i
  clear hs0i
  go_loopw [9] (fun vi wr => ∃ (i : Nat) (z : BitVec 64) (dk : Array So.E), vi = .int .i64 (i : Int) ∧ s0 ≤ i ∧ i ≤ s0 + 3 ∧ dk.size = n ∧ RowKit.Hid (Has wr w.heap.size 99 #[.int .u64 (nb64 z)] ∧ So.At w g off dk wr) ∧ RowKit.Hid (PermIn a b d dk)) (fun vi _ => s0 + 3 - (intOf vi).toNat)
  case atStart => exact ⟨s0, _, d, by rw [HS0.out], Nat.le_refl _, by omega, hn, HA0, Lib.hid (permIn_refl _ _ _)⟩
  case round =>
    obtain ⟨i, z, dk, rfl, hi1, hi2, hsk, HW, HR⟩ := hrel
    have hqm : IntKind.i64.wrap ((q : Int) * 2) = (q : Int) * 2 := IntWalk.i64_in _ (by omega)
    have hqa : IntKind.i64.wrap ((a : Int) + (q : Int) * 2) = (a : Int) + (q : Int) * 2 := IntWalk.i64_in _ (by omega)
    have hqa1 : IntKind.i64.wrap ((a : Int) + (q : Int) * 2 + 1) = (a : Int) + (q : Int) * 2 + 1 := IntWalk.i64_in _ (by omega)
    by_cases hle : i ≤ a + q * 2 + 1
    · have hlei : (i : Int) ≤ (a : Int) + (q : Int) * 2 + 1 := by omega
      go_upto_region 8 with (first
        | (go_at_call 88; refine (xnext_any w.heap.size z wr HW.out.1).mono ?_; rintro e w2 ⟨⟨y, rfl, hy⟩, hgr⟩; have HW2 := Lib.hid (And.intro hy (HW.out.2.aside hg hgr (fun k e => by injection e with e; omega))); clear hy hgr; obtain ⟨o, hoe, hol⟩ := HO.out y))
      obtain ⟨G, hG, hcw, hfw⟩ := (So.Is.refl HW2.out.2.holds).fam HW2.out.2.holds hsk hsk
      have HG := Lib.hid hG
      have HLL := HL.out
      clear hG
      by_cases hge : o ≥ l
      · have hgei : (o : Int) ≥ (l : Int) := by omega
        obtain ⟨t, ht⟩ : ∃ t, o - l = t := ⟨_, rfl⟩
        have htl : t < l := by omega
        have hol2 : (o : Int) - (l : Int) = (t : Int) := by omega
        have htw : IntKind.i64.wrap (t : Int) = (t : Int) := IntWalk.i64_in _ (by omega)
        have hat : a + t < n := by omega
        obtain ⟨zz, hz⟩ := cell_behind (w := w2) (p := ⟨g, off + i, none⟩) (x := .int .u32 (nb32 (G (a + t)))) (hcw (a + t) (by omega))
        clear ht
        go_wp2_with fail
        go_region
        have hsw := HW2.out.2.swap (i := i) (j := a + t) (by omega) (by omega) 1
        rw [← HG.out, ← HG.out] at hsw
        have hxx : Has (((w2.drewN 1).setCell ⟨g, off + i, none⟩ (.int .u32 (nb32 (G (a + t))))).setCell ⟨g, off + (a + t), none⟩ (.int .u32 (nb32 (G i)))) w.heap.size 99 #[.int .u64 (nb64 y)] := ((HW2.out.1.draws 1).aside (by show w.heap.size ≠ g; omega) _).aside (by show w.heap.size ≠ g; omega) _
        have hpm : PermIn a b d (swp dk i (a + t)) := permIn_trans _ _ _ a b HR.out (swp_permIn _ a b i (a + t) (by omega) (by omega) (by omega) (by omega) (by omega))
        have HW3 := Lib.hid (And.intro hxx (And.intro hsw hpm))
        clear hsw hxx hpm hcw hfw hz
        go_wp2_with fail
        go_roundw
        case rel => exact ⟨i + 1, y, swp dk i (a + t), by go_num, by omega, by omega, by rw [size_swp]; exact hsk, Lib.hid ⟨HW3.out.1, HW3.out.2.1⟩, Lib.hid HW3.out.2.2⟩
        case measure => (simp [intOf]; try omega)
      · have hgei : ¬ (o : Int) ≥ (l : Int) := by omega
        have hat : a + o < n := by omega
        obtain ⟨zz, hz⟩ := cell_behind (w := w2) (p := ⟨g, off + i, none⟩) (x := .int .u32 (nb32 (G (a + o)))) (hcw (a + o) (by omega))
        go_wp2_with fail
        go_region
        have hsw := HW2.out.2.swap (i := i) (j := a + o) (by omega) (by omega) 1
        rw [← HG.out, ← HG.out] at hsw
        have hxx : Has (((w2.drewN 1).setCell ⟨g, off + i, none⟩ (.int .u32 (nb32 (G (a + o))))).setCell ⟨g, off + (a + o), none⟩ (.int .u32 (nb32 (G i)))) w.heap.size 99 #[.int .u64 (nb64 y)] := ((HW2.out.1.draws 1).aside (by show w.heap.size ≠ g; omega) _).aside (by show w.heap.size ≠ g; omega) _
        have hpm : PermIn a b d (swp dk i (a + o)) := permIn_trans _ _ _ a b HR.out (swp_permIn _ a b i (a + o) (by omega) (by omega) (by omega) (by omega) (by omega))
        have HW3 := Lib.hid (And.intro hxx (And.intro hsw hpm))
        clear hsw hxx hpm hcw hfw hz
        go_wp2_with fail
        go_roundw
        case rel => exact ⟨i + 1, y, swp dk i (a + o), by go_num, by omega, by omega, by rw [size_swp]; exact hsk, Lib.hid ⟨HW3.out.1, HW3.out.2.1⟩, Lib.hid HW3.out.2.2⟩
        case measure => (simp [intOf]; try omega)
    · have hlei : ¬ (i : Int) ≤ (a : Int) + (q : Int) * 2 + 1 := by omega
      go_wp2_with fail
      go_end0
      exact ⟨rfl, dk, HR.out, HW.out.2⟩
end Go.Proofs.Ytlackhjlnoefcaa

/-! the library's sort of words: order2Ordered, medianOrdered, medianAdjacentOrdered, choosePivotOrdered (what they answer, not which) -/
namespace Go.Proofs.Ytlackhjlnoefcaa
open Go Go.RowKit Go.ChangeShapes Go.WideShapes Go.Sort
/-- w0 but for a counter in a block of its own -/
structure So.Cnt (w0 : World) (H s : Nat) (w : World) : Prop where
  has : Has w H 3 #[.int .i64 (s : Int)]
  old : Below w0.heap.size w0 w
  new : w0.heap.size ≤ H
  lt : s ≤ 1000
theorem So.Cnt.draws {w0 w : World} {H s : Nat} (h : So.Cnt w0 H s w) (q : Nat) : So.Cnt w0 H s (w.drewN q) := ⟨h.has.draws q, below_draws h.old q, h.new, h.lt⟩
theorem So.Cnt.more {w0 w : World} {H s : Nat} (h : So.Cnt w0 H s w) (hs : s + 1 ≤ 1000) : So.Cnt w0 H (s + 1) (w.setCell ⟨H, 0, none⟩ (.int .i64 ((s : Int) + 1))) :=
  ⟨h.has.put 0 _, h.old.setCell (p := ⟨H, 0, none⟩) h.new _, h.new, hs⟩
theorem So.Cnt.row {w0 w : World} {H s g off : Nat} {d : Array So.E} (h : So.Cnt w0 H s w) (hH : Holds So.enc w0 g off d) (hg : g < w0.heap.size) : Holds So.enc w g off d := fun j hj =>
  ⟨(h.old.cell (p := ⟨g, off + j, none⟩) hg).trans (hH j hj).1, (h.old.frozen (p := ⟨g, off + j, none⟩) hg).trans (hH j hj).2⟩
set_option maxRecDepth 1000000 in
set_option maxHeartbeats 4000000 in
theorem order2_any (w0 : World) (H s g off n c i j : Nat) (d : Array So.E) (w : World) (hn : d.size = n) (hg : g < w0.heap.size) (hH : Holds So.enc w0 g off d) (hc : So.Cnt w0 H s w) (hi : i < n) (hj : j < n) (hs : s + 1 ≤ 1000) :
    Calls Try.prog 92 #[.slice (some ⟨g, off, none⟩) n c, .int .i64 (i : Int), .int .i64 (j : Int), .pointer (some ⟨H, 0, none⟩)] w fun e w' =>
      ∃ x y s' : Nat, e = .returned (.tuple #[.int .i64 (x : Int), .int .i64 (y : Int)]) ∧ ((x = i ∧ y = j) ∨ (x = j ∧ y = i)) ∧ s' ≤ s + 1 ∧ So.Cnt w0 H s' w' := by
  have hrow := hc.row hH hg
  obtain ⟨G, hG, hcw, hfw⟩ := (So.Is.refl hrow).fam hrow hn hn
  have HC := Lib.hid hc
  clear hG hrow hH hc
  go_enter Try.func92, Try.ntmps92
  go_wp2_with fail
  go_big_quiet (first | (go_at_call 79; refine Calls.quiet_of_same (less_any _ _ _)))
  have HZ := Lib.hid (HC.out.draws nq)
  clear hcw hfw
  generalize w.drewN nq = wz at HZ ⊢
  by_cases hl : So.lt (G j) (G i) = true
  · rw [hl]
    have hcell := HZ.out.has.cell_at (i := 0) (v := .int .i64 (s : Int)) rfl
    have hlo := HZ.out.has.loose 0
    have hw1 : IntKind.i64.wrap ((s : Int) + 1) = (s : Int) + 1 := IntWalk.i64_in _ (by omega)
    go_wp2
    go_ret2
    exact ⟨j, i, s + 1, rfl, .inr ⟨rfl, rfl⟩, Nat.le_refl _, HZ.out.more hs⟩
  · have hl2 : So.lt (G j) (G i) = false := by simpa using hl
    rw [hl2]
    go_wp2
    go_ret2
    exact ⟨i, j, s, rfl, .inl ⟨rfl, rfl⟩, by omega, HZ.out⟩
theorem median_any (w0 : World) (H s g off n c i j k : Nat) (d : Array So.E) (w : World) (hn : d.size = n) (hg : g < w0.heap.size) (hH : Holds So.enc w0 g off d) (hc : So.Cnt w0 H s w) (hi : i < n) (hj : j < n) (hk : k < n) (hs : s + 3 ≤ 1000) :
    Calls Try.prog 90 #[.slice (some ⟨g, off, none⟩) n c, .int .i64 (i : Int), .int .i64 (j : Int), .int .i64 (k : Int), .pointer (some ⟨H, 0, none⟩)] w fun e w' =>
      ∃ x s' : Nat, e = .returned (.int .i64 (x : Int)) ∧ (x = i ∨ x = j ∨ x = k) ∧ s' ≤ s + 3 ∧ So.Cnt w0 H s' w' := by
  have HH := Lib.hid hH
  have HC := Lib.hid hc
  clear hc hH
  go_enter Try.func90, Try.ntmps90
  go_wp2_with (first
    | (go_at_call 92; refine (order2_any w0 H s2 g off n c x1 x2 d w2 hn hg HH.out h2 (by omega) (by omega) (by omega)).mono ?_; rintro e w3 ⟨x3, y3, s3, rfl, o3, l3, h3⟩)
    | (go_at_call 92; refine (order2_any w0 H s1 g off n c y1 k d w1 hn hg HH.out h1 (by omega) (by omega) (by omega)).mono ?_; rintro e w2 ⟨x2, y2, s2, rfl, o2, l2, h2⟩)
    | (go_at_call 92; refine (order2_any w0 H s g off n c i j d w hn hg HH.out HC.out hi hj (by omega)).mono ?_; rintro e w1 ⟨x1, y1, s1, rfl, o1, l1, h1⟩))
  go_ret
  exact ⟨y3, s3, rfl, by omega, by omega, h3⟩
theorem medadj_any (w0 : World) (H s g off n c i : Nat) (d : Array So.E) (w : World) (hn : d.size = n) (hg : g < w0.heap.size) (hH : Holds So.enc w0 g off d) (hc : So.Cnt w0 H s w) (hi : 0 < i) (hi2 : i + 1 < n) (hsz : n ≤ 1000000) (hs : s + 3 ≤ 1000) :
    Calls Try.prog 89 #[.slice (some ⟨g, off, none⟩) n c, .int .i64 (i : Int), .pointer (some ⟨H, 0, none⟩)] w fun e w' =>
      ∃ x s' : Nat, e = .returned (.int .i64 (x : Int)) ∧ (x = i - 1 ∨ x = i ∨ x = i + 1) ∧ s' ≤ s + 3 ∧ So.Cnt w0 H s' w' := by
  have HH := Lib.hid hH
  have HC := Lib.hid hc
  have h1 : IntKind.i64.wrap ((i : Int) - 1) = ((i - 1 : Nat) : Int) := by rw [IntWalk.i64_in _ (by omega)]; omega
  have h1' : (i : Int) - 1 = ((i - 1 : Nat) : Int) := by omega
  have h2 : IntKind.i64.wrap ((i : Int) + 1) = ((i + 1 : Nat) : Int) := by rw [IntWalk.i64_in _ (by omega)]; omega
  have h2' : (i : Int) + 1 = ((i + 1 : Nat) : Int) := by omega
  obtain ⟨p, hp⟩ : ∃ p, i - 1 = p := ⟨_, rfl⟩
  obtain ⟨q, hq⟩ : ∃ q, i + 1 = q := ⟨_, rfl⟩
  rw [hp] at h1 h1'
  rw [hq] at h2 h2'
  have HP := Lib.hid hp
  have HQ := Lib.hid hq
  have hpn : p < n := by omega
  have hqn : q < n := by omega
  clear hc hH hp hq
  go_enter Try.func89, Try.ntmps89
  go_wp2_with (first
    | (go_at_call 90; refine (median_any w0 H s g off n c p i q d w hn hg HH.out HC.out hpn (by omega) hqn hs).mono ?_; rintro e w1 ⟨x1, s1, rfl, o1, l1, h1⟩))
  go_ret
  exact ⟨x1, s1, rfl, by rw [HP.out, HQ.out]; exact o1, l1, h1⟩
structure PivB (a b n q : Nat) : Prop where
  i0 : 0 < a + q
  i1 : a + q + 1 < n
  j0 : 0 < a + q * 2
  j1 : a + q * 2 + 1 < n
  k0 : 0 < a + q * 3
  k1 : a + q * 3 + 1 < n
theorem piv_b {a b n l q : Nat} (hl : b - a = l) (hq : l / 4 = q) (hab : a + 12 < b) (hb : b ≤ n) : PivB a b n q := by
  constructor <;> omega
theorem piv_lt {a b n q x1 x2 x3 : Nat} (h : PivB a b n q) (h1 : x1 = a + q - 1 ∨ x1 = a + q ∨ x1 = a + q + 1) (h2 : x2 = a + q * 2 - 1 ∨ x2 = a + q * 2 ∨ x2 = a + q * 2 + 1) (h3 : x3 = a + q * 3 - 1 ∨ x3 = a + q * 3 ∨ x3 = a + q * 3 + 1) : x1 < n ∧ x2 < n ∧ x3 < n := by
  obtain ⟨_, _, _, _, _, _⟩ := h
  refine ⟨?_, ?_, ?_⟩ <;> omega
theorem piv_in {a b l q x1 x2 x3 x4 : Nat} (hl : b - a = l) (hq : l / 4 = q) (hab : a + 12 < b) (h1 : x1 = a + q - 1 ∨ x1 = a + q ∨ x1 = a + q + 1) (h2 : x2 = a + q * 2 - 1 ∨ x2 = a + q * 2 ∨ x2 = a + q * 2 + 1) (h3 : x3 = a + q * 3 - 1 ∨ x3 = a + q * 3 ∨ x3 = a + q * 3 + 1) (h4 : x4 = x1 ∨ x4 = x2 ∨ x4 = x3) : a ≤ x4 ∧ x4 < b := by
  rcases h4 with rfl | rfl | rfl <;> omega
theorem le_add3 {s t m : Nat} (h : t ≤ s + 3) (hs : s ≤ m) : t ≤ m + 3 := by omega
theorem le_1000 {s m : Nat} (h : s ≤ m) (hm : m ≤ 100) : s + 3 ≤ 1000 := by omega
theorem quo4 (l : Nat) : ((l : Int)).tdiv 4 = ((l / 4 : Nat) : Int) := rfl
set_option maxRecDepth 1000000 in
set_option maxHeartbeats 4000000 in
theorem pivot_any (g off n c a b : Nat) (d : Array So.E) (w : World) (hn : d.size = n) (hg : g < w.heap.size) (hH : Holds So.enc w g off d) (hab : a + 12 < b) (hb : b ≤ n) (hsz : n ≤ 1000000) :
    Calls Try.prog 76 #[.slice (some ⟨g, off, none⟩) n c, .int .i64 (a : Int), .int .i64 (b : Int)] w fun e w' =>
      (∃ (p : Nat) (h : Int), e = .returned (.tuple #[.int .i64 (p : Int), .int .i64 h]) ∧ a ≤ p ∧ p < b) ∧ Below w.heap.size w w' := by
  have HH := Lib.hid hH
  obtain ⟨l, hl⟩ : ∃ l, b - a = l := ⟨_, rfl⟩
  have hsub : (b : Int) - (a : Int) = (l : Int) := by omega
  have hsw : IntKind.i64.wrap (l : Int) = (l : Int) := IntWalk.i64_in _ (by omega)
  obtain ⟨q, hq⟩ : ∃ q, l / 4 = q := ⟨_, rfl⟩
  have hquo : (l : Int).tdiv 4 = (q : Int) := by rw [quo4, hq]
  have hquo2 : (l : Int) / 4 = (q : Int) := by omega
  have hqw : IntKind.i64.wrap (q : Int) = (q : Int) := IntWalk.i64_in _ (by omega)
  have hm1 : IntKind.i64.wrap ((q : Int) * 1) = (q : Int) := by rw [IntWalk.i64_in _ (by omega)]; omega
  have hm2 : IntKind.i64.wrap ((q : Int) * 2) = (q : Int) * 2 := IntWalk.i64_in _ (by omega)
  have hm3 : IntKind.i64.wrap ((q : Int) * 3) = (q : Int) * 3 := IntWalk.i64_in _ (by omega)
  have ha1 : IntKind.i64.wrap ((a : Int) + (q : Int)) = ((a + q : Nat) : Int) := by rw [IntWalk.i64_in _ (by omega)]; omega
  have ha2 : IntKind.i64.wrap ((a : Int) + (q : Int) * 2) = ((a + q * 2 : Nat) : Int) := by rw [IntWalk.i64_in _ (by omega)]; omega
  have ha3 : IntKind.i64.wrap ((a : Int) + (q : Int) * 3) = ((a + q * 3 : Nat) : Int) := by rw [IntWalk.i64_in _ (by omega)]; omega
  have hl8 : (l : Int) ≥ 8 := by omega
  have hC0 : So.Cnt w w.heap.size 0 (w.alloc (.cells #[.int .i64 0] 3)) := ⟨Has.fresh w _ _, (Below.refl _ w).alloc (Nat.le_refl _) _, Nat.le_refl _, by omega⟩
  have HC0 := Lib.hid hC0
  have HB := Lib.hid (piv_b hl hq hab hb)
  have HL := Lib.hid (And.intro hl (And.intro hq hab))
  clear hC0 hH hl hq
  go_enter Try.func76, Try.ntmps76
  by_cases h50 : l ≥ 50
  · have h50i : (l : Int) ≥ 50 := by omega
    have m1 := medadj_any w w.heap.size 0 g off n c (a + q) d _ hn hg HH.out HC0.out HB.out.i0 HB.out.i1 hsz (by decide)
    have m2 := fun s1 w1 (h : So.Cnt w w.heap.size s1 w1) (hs : s1 ≤ 3) => medadj_any w w.heap.size s1 g off n c (a + q * 2) d w1 hn hg HH.out h HB.out.j0 HB.out.j1 hsz (le_1000 hs (by decide))
    have m3 := fun s1 w1 (h : So.Cnt w w.heap.size s1 w1) (hs : s1 ≤ 6) => medadj_any w w.heap.size s1 g off n c (a + q * 3) d w1 hn hg HH.out h HB.out.k0 HB.out.k1 hsz (le_1000 hs (by decide))
    rw [show ((a + q : Nat) : Int) = (a : Int) + (q : Int) from Int.natCast_add _ _] at m1
    simp only [show ((a + q * 2 : Nat) : Int) = (a : Int) + (q : Int) * 2 from rfl] at m2
    simp only [show ((a + q * 3 : Nat) : Int) = (a : Int) + (q : Int) * 3 from rfl] at m3
    have HM := Lib.hid (And.intro m1 (And.intro m2 m3))
    clear m1 m2 m3
    go_wp2_with (first
      | (go_at_call 90; refine (median_any w w.heap.size s3 g off n c x1 x2 x3 d w3 hn hg HH.out h3 (piv_lt HB.out O1.out O2.out O3.out).1 (piv_lt HB.out O1.out O2.out O3.out).2.1 (piv_lt HB.out O1.out O2.out O3.out).2.2 (le_1000 L3 (by decide))).mono ?_; rintro e w4 ⟨x4, s4, rfl, o4, l4, h4⟩; have O4 := Lib.hid o4; clear o4 l4; have hcell := h4.has.cell_at (i := 0) (v := .int .i64 (s4 : Int)) rfl; have hlo := h4.has.loose 0)
      | (go_at_call 89; refine (HM.out.2.2 s2 w2 h2 L2).mono ?_; rintro e w3 ⟨x3, s3, rfl, o3, l3, h3⟩; have O3 := Lib.hid o3; have L3 := le_add3 l3 L2; clear o3 l3)
      | (go_at_call 89; refine (HM.out.2.1 s1 w1 h1 L1).mono ?_; rintro e w2 ⟨x2, s2, rfl, o2, l2, h2⟩; have O2 := Lib.hid o2; have L2 := le_add3 l2 L1; clear o2 l2)
      | (go_at_call 89; refine HM.out.1.mono ?_; rintro e w1 ⟨x1, s1, rfl, o1, l1, h1⟩; have O1 := Lib.hid o1; have L1 : s1 ≤ 3 := l1; clear o1 l1))
    all_goals
      (go_ret2
       exact ⟨⟨x4, _, rfl, piv_in HL.out.1 HL.out.2.1 HL.out.2.2 O1.out O2.out O3.out O4.out⟩, h4.old⟩)
  · have h50i : ¬ (l : Int) ≥ 50 := by omega
    have hb3 := HB.out
    have m1 := median_any w w.heap.size 0 g off n c (a + q) (a + q * 2) (a + q * 3) d _ hn hg HH.out HC0.out (Nat.lt_of_succ_lt hb3.i1) (Nat.lt_of_succ_lt hb3.j1) (Nat.lt_of_succ_lt hb3.k1) (by decide)
    rw [show ((a + q : Nat) : Int) = (a : Int) + (q : Int) from Int.natCast_add _ _, show ((a + q * 2 : Nat) : Int) = (a : Int) + (q : Int) * 2 from rfl, show ((a + q * 3 : Nat) : Int) = (a : Int) + (q : Int) * 3 from rfl] at m1
    have HM := Lib.hid m1
    clear m1 hb3
    go_wp2_with (first
      | (go_at_call 90; refine HM.out.mono ?_; rintro e w4 ⟨x4, s4, rfl, o4, l4, h4⟩; have O4 := Lib.hid o4; clear o4 l4; have hcell := h4.has.cell_at (i := 0) (v := .int .i64 (s4 : Int)) rfl; have hlo := h4.has.loose 0))
    all_goals
      (go_ret2
       exact ⟨⟨x4, _, rfl, piv_in HL.out.1 HL.out.2.1 HL.out.2.2 (.inr (.inl rfl)) (.inr (.inl rfl)) (.inr (.inl rfl)) O4.out⟩, h4.old⟩)
end Go.Proofs.Ytlackhjlnoefcaa

/-! the library's sort of words: siftDownOrdered, heapSortOrdered -/
namespace Go.Proofs.Ytlackhjlnoefcaa
open Go Go.RowKit Go.ChangeShapes Go.WideShapes Go.Sort
/-- the greater child -/
def child (hi first root : Nat) (d : Array So.E) : Nat := if 2 * root + 1 + 1 < hi && So.lt d[first + (2 * root + 1)]! d[first + (2 * root + 1) + 1]! then 2 * root + 2 else 2 * root + 1
theorem child_yes {hi first root : Nat} {d : Array So.E} (h : 2 * root + 1 + 1 < hi) (h2 : So.lt d[first + (2 * root + 1)]! d[first + (2 * root + 1) + 1]! = true) : child hi first root d = 2 * root + 2 := by
  rw [child, if_pos (by rw [h2]; simp; omega)]
theorem child_no {hi first root : Nat} {d : Array So.E} (h2 : So.lt d[first + (2 * root + 1)]! d[first + (2 * root + 1) + 1]! = false) : child hi first root d = 2 * root + 1 := by
  rw [child, if_neg (by rw [h2]; simp)]
theorem child_end {hi first root : Nat} {d : Array So.E} (h : ¬ 2 * root + 1 + 1 < hi) : child hi first root d = 2 * root + 1 := by
  rw [child, if_neg (by simp; omega)]
theorem sift_eq (hi first root : Nat) (d : Array So.E) : siftDown So.lt hi first root d = if 2 * root + 1 ≥ hi then d else
    if (!So.lt d[first + root]! d[first + child hi first root d]!) = true then d else siftDown So.lt hi first (child hi first root d) (swp d (first + root) (first + child hi first root d)) := by
  rw [siftDown]
  by_cases h : 2 * root + 1 ≥ hi
  · rw [dif_pos h, if_pos h]
  · rw [dif_neg h, if_neg h]
    by_cases h2 : (2 * root + 1 + 1 < hi && So.lt d[first + (2 * root + 1)]! d[first + (2 * root + 1) + 1]!) = true
    · have hc : child hi first root d = 2 * root + 2 := by rw [child, if_pos h2]
      have h3 : 2 * root + 2 < hi := by simp at h2; omega
      rw [if_pos h2, hc]
      by_cases h4 : (!So.lt d[first + root]! d[first + (2 * root + 2)]!) = true
      · rw [if_pos h4, if_pos h4]
      · rw [if_neg h4, if_neg h4, dif_pos h3]
    · have hc : child hi first root d = 2 * root + 1 := by rw [child, if_neg h2]
      rw [if_neg h2, hc]
theorem sift_size : ∀ (k hi first root : Nat) (d : Array So.E), hi - root ≤ k → (siftDown So.lt hi first root d).size = d.size := by
  intro k
  induction k with
  | zero =>
    intro hi first root d h
    rw [sift_eq, if_pos (by omega)]
  | succ k ih =>
    intro hi first root d h
    rw [sift_eq]
    by_cases h1 : 2 * root + 1 ≥ hi
    · rw [if_pos h1]
    · rw [if_neg h1]
      by_cases h2 : (!So.lt d[first + root]! d[first + child hi first root d]!) = true
      · rw [if_pos h2]
      · rw [if_neg h2, ih _ _ _ _ (by unfold child; split <;> omega), size_swp]
theorem sift_go {hi first root ch j : Nat} {d : Array So.E} (h : ¬ 2 * root + 1 ≥ hi) (hc : child hi first root d = ch) (hj : first + ch = j) (hl : So.lt d[first + root]! d[j]! = true) : siftDown So.lt hi first root d = siftDown So.lt hi first ch (swp d (first + root) j) := by
  rw [sift_eq, if_neg h, hc, hj, if_neg (by rw [hl]; simp)]
theorem sift_stop {hi first root ch j : Nat} {d : Array So.E} (h : ¬ 2 * root + 1 ≥ hi) (hc : child hi first root d = ch) (hj : first + ch = j) (hl : So.lt d[first + root]! d[j]! = false) : siftDown So.lt hi first root d = d := by
  rw [sift_eq, if_neg h, hc, hj, if_pos (by rw [hl]; rfl)]
set_option maxRecDepth 1000000 in
set_option maxHeartbeats 4000000 in
theorem sift_any (g off n c lo hi first : Nat) (d : Array So.E) (w : World) (hn : d.size = n) (hH : Holds So.enc w g off d) (hf : first + hi ≤ n) (hsz : n ≤ 1000000) (hlo : lo ≤ 1000000) :
    Calls Try.prog 86 #[.slice (some ⟨g, off, none⟩) n c, .int .i64 (lo : Int), .int .i64 (hi : Int), .int .i64 (first : Int)] w fun e w' =>
      e = .returned (.tuple #[]) ∧ So.Is w g off (siftDown So.lt hi first lo d) w' := by
  have HH := Lib.hid hH
  clear hH
  go_enter Try.func86, Try.ntmps86
  go_wp2
  go_loopw [8] (fun vr wr => ∃ (root : Nat) (dk : Array So.E), vr = .int .i64 (root : Int) ∧ root ≤ 1000000 ∧ dk.size = n ∧ RowKit.Hid (So.Is w g off dk wr) ∧ RowKit.Hid (siftDown So.lt hi first root dk = siftDown So.lt hi first lo d)) (fun vr _ => 1000000 - (intOf vr).toNat)
  case atStart => exact ⟨lo, d, rfl, hlo, hn, Lib.hid (So.Is.refl HH.out), Lib.hid rfl⟩
  case round =>
    obtain ⟨root, dk, rfl, hro, hsk, HW, HS⟩ := hrel
    obtain ⟨G, hG, hcw, hfw⟩ := HW.out.fam HH.out hn hsk
    have HG := Lib.hid hG
    clear hG
    have hw1 : IntKind.i64.wrap (2 * (root : Int)) = 2 * (root : Int) := IntWalk.i64_in _ (by omega)
    have hw2 : IntKind.i64.wrap (2 * (root : Int) + 1) = 2 * (root : Int) + 1 := IntWalk.i64_in _ (by omega)
    have hw3 : IntKind.i64.wrap (2 * (root : Int) + 1 + 1) = 2 * (root : Int) + 1 + 1 := IntWalk.i64_in _ (by omega)
    by_cases h1 : 2 * root + 1 ≥ hi
    · have h1i : (2 * (root : Int) + 1 ≥ (hi : Int)) := by omega
      have hst : dk = siftDown So.lt hi first lo d := by rw [← HS.out, sift_eq, if_pos h1]
      have H2 := Lib.hid hst
      clear hst
      go_wp2_with fail
      go_end0
      exact ⟨rfl, by rw [← H2.out]; exact HW.out⟩
    · have h1i : ¬ (2 * (root : Int) + 1 ≥ (hi : Int)) := by omega
      by_cases h2 : 2 * root + 1 + 1 < hi
      · have h2i : (2 * (root : Int) + 1 + 1 < (hi : Int)) := by omega
        go_wp2_with fail
        go_big_quiet (first | (go_at_call 79; refine Calls.quiet_of_same (less_any _ _ _)))
        by_cases hc : So.lt (G (first + 2 * root + 1)) (G (first + 2 * root + 2)) = true
        · rw [hc]
          have hch : child hi first root dk = (2 * root + 2) := child_yes h2 (by rw [← HG.out, ← HG.out]; exact hc)
          have HC := Lib.hid hch
          clear hch
          go_wp2_with fail
          have hz : RowKit.Hid (So.Is w g off dk (wr.drewN nq)) := Lib.hid (HW.out.draws nq)
          have hcz : ∀ t, t < n → (wr.drewN nq).cell? ⟨g, off + t, none⟩ = some (.int .u32 (nb32 (G t))) := hcw
          have hfz : ∀ t, t < n → (wr.drewN nq).frozen? ⟨g, off + t, none⟩ = false := hfw
          clear hcw hfw HW
          generalize wr.drewN nq = wz at hz hcz hfz ⊢
          clear nq
          go_big_quiet (first | (go_at_call 79; refine Calls.quiet_of_same (less_any _ _ _)))
          by_cases hl : So.lt (G (first + root)) (G (first + 2 * root + 2)) = true
          · rw [hl]
            go_wp2_with fail
            go_region
            have hsw := hz.out.swap (i := first + root) (j := first + (2 * root + 1 + 1)) (by omega) (by omega) (nq + 1)
            rw [← HG.out, ← HG.out] at hsw
            have hst : siftDown So.lt hi first (2 * root + 2) (swp dk (first + root) (first + (2 * root + 1 + 1))) = siftDown So.lt hi first lo d := by
              rw [← HS.out]
              exact (sift_go h1 HC.out rfl (by rw [← HG.out, ← HG.out]; exact hl)).symm
            have H1 := Lib.hid hsw
            have H2 := Lib.hid hst
            clear hsw hst
            go_wp2_with fail
            go_roundw
            case rel => exact ⟨(2 * root + 2), swp dk (first + root) (first + (2 * root + 1 + 1)), by go_num, by omega, by rw [size_swp]; exact hsk, H1, H2⟩
            case measure => (simp [intOf]; try omega)
          · have hl2 : So.lt (G (first + root)) (G (first + 2 * root + 2)) = false := by simpa using hl
            rw [hl2]
            have hst : dk = siftDown So.lt hi first lo d := by
              rw [← HS.out]
              exact (sift_stop h1 HC.out rfl (by rw [← HG.out, ← HG.out]; exact hl2)).symm
            have H2 := Lib.hid hst
            clear hst
            go_wp2_with fail
            (try simp only [Exit.inBlock, Exit.then])
            refine bodyPost_ret (results_none rfl _ _ _) rfl ?_
            exact ⟨rfl, by rw [← H2.out]; exact hz.out.draws _⟩

        · have hc2 : So.lt (G (first + 2 * root + 1)) (G (first + 2 * root + 2)) = false := by simpa using hc
          rw [hc2]
          have hch : child hi first root dk = (2 * root + 1) := child_no (by rw [← HG.out, ← HG.out]; exact hc2)
          have HC := Lib.hid hch
          clear hch
          go_wp2_with fail
          have hz : RowKit.Hid (So.Is w g off dk (wr.drewN nq)) := Lib.hid (HW.out.draws nq)
          have hcz : ∀ t, t < n → (wr.drewN nq).cell? ⟨g, off + t, none⟩ = some (.int .u32 (nb32 (G t))) := hcw
          have hfz : ∀ t, t < n → (wr.drewN nq).frozen? ⟨g, off + t, none⟩ = false := hfw
          clear hcw hfw HW
          generalize wr.drewN nq = wz at hz hcz hfz ⊢
          clear nq
          go_big_quiet (first | (go_at_call 79; refine Calls.quiet_of_same (less_any _ _ _)))
          by_cases hl : So.lt (G (first + root)) (G (first + 2 * root + 1)) = true
          · rw [hl]
            go_wp2_with fail
            go_region
            have hsw := hz.out.swap (i := first + root) (j := first + (2 * root + 1)) (by omega) (by omega) (nq + 1)
            rw [← HG.out, ← HG.out] at hsw
            have hst : siftDown So.lt hi first (2 * root + 1) (swp dk (first + root) (first + (2 * root + 1))) = siftDown So.lt hi first lo d := by
              rw [← HS.out]
              exact (sift_go h1 HC.out rfl (by rw [← HG.out, ← HG.out]; exact hl)).symm
            have H1 := Lib.hid hsw
            have H2 := Lib.hid hst
            clear hsw hst
            go_wp2_with fail
            go_roundw
            case rel => exact ⟨(2 * root + 1), swp dk (first + root) (first + (2 * root + 1)), by go_num, by omega, by rw [size_swp]; exact hsk, H1, H2⟩
            case measure => (simp [intOf]; try omega)
          · have hl2 : So.lt (G (first + root)) (G (first + 2 * root + 1)) = false := by simpa using hl
            rw [hl2]
            have hst : dk = siftDown So.lt hi first lo d := by
              rw [← HS.out]
              exact (sift_stop h1 HC.out rfl (by rw [← HG.out, ← HG.out]; exact hl2)).symm
            have H2 := Lib.hid hst
            clear hst
            go_wp2_with fail
            (try simp only [Exit.inBlock, Exit.then])
            refine bodyPost_ret (results_none rfl _ _ _) rfl ?_
            exact ⟨rfl, by rw [← H2.out]; exact hz.out.draws _⟩

      · have h2i : ¬ (2 * (root : Int) + 1 + 1 < (hi : Int)) := by omega
        have h2d : decide (2 * (root : Int) + 1 + 1 < (hi : Int)) = false := decide_eq_false h2i
        go_wp2_with fail
        go_big_quiet (first | (go_at_call 79; refine Calls.quiet_of_same (less_any _ _ _)))
        have hch : child hi first root dk = (2 * root + 1) := child_end h2
        have HC := Lib.hid hch
        clear hch
        go_wp2_with fail
        have hz : RowKit.Hid (So.Is w g off dk (wr.drewN nq)) := Lib.hid (HW.out.draws nq)
        have hcz : ∀ t, t < n → (wr.drewN nq).cell? ⟨g, off + t, none⟩ = some (.int .u32 (nb32 (G t))) := hcw
        have hfz : ∀ t, t < n → (wr.drewN nq).frozen? ⟨g, off + t, none⟩ = false := hfw
        clear hcw hfw HW
        generalize wr.drewN nq = wz at hz hcz hfz ⊢
        clear nq
        go_big_quiet (first | (go_at_call 79; refine Calls.quiet_of_same (less_any _ _ _)))
        by_cases hl : So.lt (G (first + root)) (G (first + 2 * root + 1)) = true
        · rw [hl]
          go_wp2_with fail
          go_region
          have hsw := hz.out.swap (i := first + root) (j := first + (2 * root + 1)) (by omega) (by omega) (nq + 1)
          rw [← HG.out, ← HG.out] at hsw
          have hst : siftDown So.lt hi first (2 * root + 1) (swp dk (first + root) (first + (2 * root + 1))) = siftDown So.lt hi first lo d := by
            rw [← HS.out]
            exact (sift_go h1 HC.out rfl (by rw [← HG.out, ← HG.out]; exact hl)).symm
          have H1 := Lib.hid hsw
          have H2 := Lib.hid hst
          clear hsw hst
          go_wp2_with fail
          go_roundw
          case rel => exact ⟨(2 * root + 1), swp dk (first + root) (first + (2 * root + 1)), by go_num, by omega, by rw [size_swp]; exact hsk, H1, H2⟩
          case measure => (simp [intOf]; try omega)
        · have hl2 : So.lt (G (first + root)) (G (first + 2 * root + 1)) = false := by simpa using hl
          rw [hl2]
          have hst : dk = siftDown So.lt hi first lo d := by
            rw [← HS.out]
            exact (sift_stop h1 HC.out rfl (by rw [← HG.out, ← HG.out]; exact hl2)).symm
          have H2 := Lib.hid hst
          clear hst
          go_wp2_with fail
          (try simp only [Exit.inBlock, Exit.then])
          refine bodyPost_ret (results_none rfl _ _ _) rfl ?_
          exact ⟨rfl, by rw [← H2.out]; exact hz.out.draws _⟩

set_option maxRecDepth 1000000 in
set_option maxHeartbeats 4000000 in
theorem heap_any (g off n c a b : Nat) (d : Array So.E) (w : World) (hn : d.size = n) (hH : Holds So.enc w g off d) (hab : a ≤ b) (hb : b ≤ n) (hsz : n ≤ 1000000) :
    Calls Try.prog 74 #[.slice (some ⟨g, off, none⟩) n c, .int .i64 (a : Int), .int .i64 (b : Int)] w fun e w' =>
      e = .returned (.tuple #[]) ∧ So.Is w g off (heapSort So.lt d a b) w' := by
  have HH := Lib.hid hH
  clear hH
  obtain ⟨h, hh⟩ : ∃ h, b - a = h := ⟨_, rfl⟩
  have hbh : b = a + h := by omega
  have hsub : (b : Int) - (a : Int) = (h : Int) := by omega
  have hdiv : ((h : Int) - 1).tdiv 2 = (((h - 1) / 2 : Nat) : Int) := by
    rcases Nat.eq_zero_or_pos h with h0 | h0
    · rw [h0]; rfl
    · rw [show (h : Int) - 1 = ((h - 1 : Nat) : Int) from by omega]
      rfl
  have hhs : heapSort So.lt d a b = heapPop So.lt a h (heapBuild So.lt h a ((h - 1) / 2 + 1) d) := by rw [heapSort, hh]
  have HS := Lib.hid hhs
  have hw0 : IntKind.i64.wrap (h : Int) = (h : Int) := IntWalk.i64_in _ (by omega)
  have hw1 : IntKind.i64.wrap ((h : Int) - 1) = (h : Int) - 1 := IntWalk.i64_in _ (by omega)
  have hw2 : IntKind.i64.wrap (((h - 1) / 2 : Nat) : Int) = (((h - 1) / 2 : Nat) : Int) := IntWalk.i64_in _ (by omega)
  have HB := Lib.hid (And.intro hh hbh)
  obtain ⟨q, hq⟩ : ∃ q, (h - 1) / 2 = q := ⟨_, rfl⟩
  have hq2 : q ≤ 1000000 := by omega
  rw [hq] at hdiv hw2
  have HQ := Lib.hid hq
  have hah : a + h ≤ n := by omega
  clear hhs hh hbh hq
  go_enter Try.func74, Try.ntmps74
  go_wp2
  go_loopw [9] (fun vi wr => ∃ (k : Nat) (z : Int) (dk : Array So.E), vi = .int .i64 z ∧ z + 1 = (k : Int) ∧ k ≤ q + 1 ∧ dk.size = n ∧ RowKit.Hid (So.Is w g off dk wr) ∧ RowKit.Hid (heapBuild So.lt h a k dk = heapBuild So.lt h a (q + 1) d)) (fun vi _ => (intOf vi + 1).toNat)
  case atStart => exact ⟨q + 1, (q : Int), d, rfl, by omega, Nat.le_refl _, hn, Lib.hid (So.Is.refl HH.out), Lib.hid rfl⟩
  case round =>
    obtain ⟨k, z, dk, rfl, hzk, hkq, hsk, HW, HB2⟩ := hrel
    cases k with
    | succ m =>
      obtain rfl : z = (m : Int) := by omega
      have hm0 : (m : Int) ≥ 0 := by omega
      go_wp2_with (first
        | (go_at_call 86; refine (sift_any g off n c m h a dk wr hsk (HW.out.holds HH.out (by omega)) hah hsz (by omega)).mono ?_; rintro e w2 ⟨rfl, h2⟩)
        | fail)
      have h3 := HW.out.trans h2 (sift_size _ _ _ _ _ (Nat.le_refl _))
      have H3 := Lib.hid h3
      clear h2 h3
      go_roundw
      case rel => exact ⟨m, (m : Int) - 1, siftDown So.lt h a m dk, by go_num, by omega, by omega, by rw [sift_size _ _ _ _ _ (Nat.le_refl _)]; exact hsk, H3, Lib.hid (by rw [← HB2.out]; rfl)⟩
      case measure => (simp [intOf]; try omega)
    | zero =>
      obtain rfl : z = -1 := by omega
      obtain ⟨d1, hd1⟩ : ∃ d1, d1 = heapBuild So.lt h a (q + 1) d := ⟨_, rfl⟩
      have hdk : dk = d1 := by rw [hd1, ← HB2.out]; rfl
      have HD := Lib.hid (And.intro hd1 hdk)
      clear HB2 hd1 hdk
      go_wp2_with fail
      rename World => wA
      go_loopw [10] (fun vi wr => ∃ (k : Nat) (z : Int) (dj : Array So.E), vi = .int .i64 z ∧ z + 1 = (k : Int) ∧ k ≤ h ∧ dj.size = n ∧ RowKit.Hid (So.Is w g off dj wr) ∧ RowKit.Hid (heapPop So.lt a k dj = heapPop So.lt a h dk)) (fun vi _ => (intOf vi + 1).toNat)
      case atStart => exact ⟨h, (h : Int) - 1, dk, rfl, by omega, Nat.le_refl _, hsk, HW, Lib.hid rfl⟩
      case round =>
        obtain ⟨k, z, dj, rfl, hzk, hkh, hsj, HW2, HP⟩ := hrel
        cases k with
        | succ m =>
          obtain rfl : z = (m : Int) := by omega
          have hm0 : (m : Int) ≥ 0 := by omega
          obtain ⟨G, hG, hcw, hfw⟩ := HW2.out.fam HH.out hn hsj
          have HG := Lib.hid hG
          clear hG
          rcases Nat.eq_zero_or_pos m with hm1 | hm1
          · subst hm1
            go_wp2_with fail
            go_region
            have hsw := HW2.out.swap (i := a) (j := a + 0) (by omega) (by omega) 1
            rw [← HG.out, ← HG.out] at hsw
            have hss : (swp dj a (a + 0)).size = n := by rw [size_swp]; exact hsj
            have hho := hsw.holds HH.out (by omega)
            have H5 := Lib.hid hsw
            have hpp : heapPop So.lt a 0 (siftDown So.lt 0 a 0 (swp dj a (a + 0))) = heapPop So.lt a h dk := by rw [← HP.out]; rfl
            have H6 := Lib.hid hpp
            clear hsw hcw hfw hpp
            go_wp2_with (first
              | (go_at_call 86; refine (sift_any g off n c 0 0 a (swp dj a (a + 0)) _ hss hho (by omega) hsz (by omega)).mono ?_; rintro e w2 ⟨rfl, h2⟩)
              | fail)
            have h3 := H5.out.trans h2 (sift_size _ _ _ _ _ (Nat.le_refl _))
            have H7 := Lib.hid h3
            clear h2 h3
            go_roundw
            case rel => exact ⟨0, (0 : Int) - 1, siftDown So.lt 0 a 0 (swp dj a (a + 0)), by go_num, by omega, by omega, by rw [sift_size _ _ _ _ _ (Nat.le_refl _)]; exact hss, H7, H6⟩
            case measure => (simp [intOf]; try omega)
          · have hm1i : (0 : Int) < (m : Int) := by omega
            go_wp2_with fail
            go_region
            have hsw := HW2.out.swap (i := a) (j := a + m) (by omega) (by omega) 1
            rw [← HG.out, ← HG.out] at hsw
            have hss : (swp dj a (a + m)).size = n := by rw [size_swp]; exact hsj
            have hho := hsw.holds HH.out (by omega)
            have H5 := Lib.hid hsw
            have hpp : heapPop So.lt a m (siftDown So.lt m a 0 (swp dj a (a + m))) = heapPop So.lt a h dk := by rw [← HP.out]; rfl
            have H6 := Lib.hid hpp
            clear hsw hcw hfw hpp
            go_wp2_with (first
              | (go_at_call 86; refine (sift_any g off n c 0 m a (swp dj a (a + m)) _ hss hho (by omega) hsz (by omega)).mono ?_; rintro e w2 ⟨rfl, h2⟩)
              | fail)
            have h3 := H5.out.trans h2 (sift_size _ _ _ _ _ (Nat.le_refl _))
            have H7 := Lib.hid h3
            clear h2 h3
            go_roundw
            case rel => exact ⟨m, (m : Int) - 1, siftDown So.lt m a 0 (swp dj a (a + m)), by go_num, by omega, by omega, by rw [sift_size _ _ _ _ _ (Nat.le_refl _)]; exact hss, H7, H6⟩
            case measure => (simp [intOf]; try omega)
        | zero =>
          obtain rfl : z = -1 := by omega
          go_wp2_with fail
          go_end0
          refine ⟨rfl, ?_⟩
          rw [HS.out, HQ.out, ← HD.out.1, ← HD.out.2, ← HP.out]
          exact HW2.out
end Go.Proofs.Ytlackhjlnoefcaa

/-! the library's sort of words: partialInsertionSortOrdered -/
namespace Go.Proofs.Ytlackhjlnoefcaa
open Go Go.RowKit Go.ChangeShapes Go.WideShapes Go.Sort
section
variable {d : Array So.E} {b i j : Nat}
theorem scanS_step (h : i < b) (hp : So.lt d[i]! d[i - 1]! = false) : scanSorted So.lt d b (i + 1) = scanSorted So.lt d b i := by
  rw [scanSorted.eq_def So.lt d b i, if_pos (by simp [h, hp])]
theorem scanS_end (h : ¬ i < b ∨ So.lt d[i]! d[i - 1]! = true) : scanSorted So.lt d b i = i := by
  rw [scanSorted.eq_def]
  rcases h with h | h
  · rw [if_neg (by simp [h])]
  · rw [if_neg (by simp [h])]
theorem scanS_in (h : i ≤ b) : i ≤ scanSorted So.lt d b i ∧ scanSorted So.lt d b i ≤ b := by
  obtain ⟨n, hn⟩ : ∃ n, n = b - i := ⟨_, rfl⟩
  induction n generalizing i with
  | zero => rw [scanS_end (.inl (by omega))]; omega
  | succ n ih =>
    by_cases hp : So.lt d[i]! d[i - 1]! = true
    · rw [scanS_end (.inr hp)]; omega
    · rw [← scanS_step (by omega) (by simpa using hp)]
      have := ih (i := i + 1) (by omega) (by omega)
      omega
theorem shiftD_go (hj : 0 < j) (hp : So.lt d[j]! d[j - 1]! = true) : shiftDown So.lt (j - 1) (swp d j (j - 1)) = shiftDown So.lt j d := by
  cases j with
  | zero => omega
  | succ j => rw [show j + 1 - 1 = j from rfl] at *; rw [shiftDown, if_neg (by simp [hp])]
theorem shiftD_end (h : j = 0 ∨ So.lt d[j]! d[j - 1]! = false) : shiftDown So.lt j d = d := by
  cases j with
  | zero => rfl
  | succ j =>
    rcases h with h | h
    · omega
    · rw [show j + 1 - 1 = j from rfl] at h; rw [shiftDown, if_pos (by simp [h])]
theorem shiftU_go (hj : j < b) (hp : So.lt d[j]! d[j - 1]! = true) : shiftUp So.lt b (j + 1) (swp d j (j - 1)) = shiftUp So.lt b j d := by
  rw [shiftUp.eq_def So.lt b j d, if_pos hj, if_neg (by simp [hp])]
theorem shiftU_end (h : ¬ j < b ∨ So.lt d[j]! d[j - 1]! = false) : shiftUp So.lt b j d = d := by
  rw [shiftUp.eq_def]
  by_cases hj : j < b
  · rw [if_pos hj]
    rcases h with h | h
    · exact (h hj).elim
    · rw [if_pos (by simp [h])]
  · rw [if_neg hj]
theorem shiftD_size : ∀ (j : Nat) (d : Array So.E), (shiftDown So.lt j d).size = d.size
  | 0, _ => rfl
  | j + 1, d => by
    rw [shiftDown]
    split
    · rfl
    · rw [shiftD_size j, size_swp]
theorem shiftU_size (b : Nat) : ∀ (k j : Nat) (d : Array So.E), b - j ≤ k → (shiftUp So.lt b j d).size = d.size := by
  intro k
  induction k with
  | zero => intro j d h; rw [shiftU_end (.inl (by omega))]
  | succ k ih =>
    intro j d h
    by_cases hj : j < b
    · by_cases hp : So.lt d[j]! d[j - 1]! = true
      · rw [← shiftU_go hj hp, ih _ _ (by omega), size_swp]
      · rw [shiftU_end (.inr (by simpa using hp))]
    · rw [shiftU_end (.inl hj)]
theorem fixD_size (a i : Nat) (d : Array So.E) : (fixDown So.lt a i d).size = d.size := by
  unfold fixDown
  split
  · exact shiftD_size _ _
  · rfl
theorem fixU_size (b i : Nat) (d : Array So.E) : (fixUp So.lt b i d).size = d.size := by
  unfold fixUp
  split
  · exact shiftU_size _ _ _ _ (Nat.le_refl _)
  · rfl
end
set_option maxRecDepth 1000000 in
set_option maxHeartbeats 8000000 in
theorem partial_any (g off n c a b : Nat) (d : Array So.E) (w : World) (hn : d.size = n) (hH : Holds So.enc w g off d) (hab : a < b) (hb : b ≤ n) (hsz : n ≤ 1000000) :
    Calls Try.prog 78 #[.slice (some ⟨g, off, none⟩) n c, .int .i64 (a : Int), .int .i64 (b : Int)] w fun e w' =>
      e = .returned (.bool (partialInsertionSort So.lt d a b).2) ∧ So.Is w g off (partialInsertionSort So.lt d a b).1 w' := by
  have HH := Lib.hid hH
  obtain ⟨dF, r, hF⟩ : ∃ dF r, partialInsertionSort So.lt d a b = (dF, r) := ⟨_, _, rfl⟩
  have hF2 : partialIns So.lt a b 5 (a + 1) d = (dF, r) := hF
  rw [hF]
  have HF := Lib.hid hF2
  clear hH hF hF2
  go_enter Try.func78, Try.ntmps78
  go_wp2
  go_loopw [7, 8] (fun vi vs wr => ∃ (i s : Nat) (z : Int) (dk : Array So.E), vi = .int .i64 (i : Int) ∧ vs = .int .i64 z ∧ z + (s : Int) = 5 ∧ s ≤ 5 ∧ a < i ∧ i ≤ b ∧ dk.size = n ∧ RowKit.Hid (So.Is w g off dk wr) ∧ RowKit.Hid (partialIns So.lt a b s i dk = (dF, r))) (fun _ vs _ => (5 - intOf vs).toNat)
  case atStart => exact ⟨a + 1, 5, 0, d, by go_num, rfl, rfl, Nat.le_refl _, by omega, by omega, hn, Lib.hid (So.Is.refl HH.out), HF⟩
  case round =>
    obtain ⟨i, s, z, dk, rfl, rfl, hz5, hs5, hai, hib, hsk, HW, HP⟩ := hrel
    cases s with
    | zero =>
      have h5 : ¬ z < 5 := by omega
      have hz := HP.out
      rw [partialIns, Prod.mk.injEq] at hz
      have HZ := Lib.hid hz
      clear hz
      go_wp2_with fail
      go_ret
      rw [← HZ.out.1, ← HZ.out.2]
      exact ⟨rfl, HW.out⟩
    | succ s =>
      have h5 : z < 5 := by omega
      have h5w : IntKind.i64.wrap (z + 1) = z + 1 := IntWalk.i64_in _ (by omega)
      obtain ⟨I, hI⟩ : ∃ I, scanSorted So.lt dk b i = I := ⟨_, rfl⟩
      have hI1 := (scanS_in (d := dk) hib).1
      have hI2 := (scanS_in (d := dk) hib).2
      rw [hI] at hI1 hI2
      have HI := Lib.hid hI
      have hps := HP.out
      rw [partialIns_succ, hI] at hps
      have HPS := Lib.hid hps
      clear hI hps HP
      go_upto_if 14 with fail
      go_step
      go_step
      go_step
      go_step
      go_step
      go_step
      go_step
      go_cut [7] from 13 to 132 (fun v wr => v = .int .i64 (I : Int) ∧ RowKit.Hid (So.Is w g off dk wr))
      case first =>
        go_wp2_with fail
        go_loopw [7] (fun v wr => ∃ (k : Nat), v = .int .i64 (k : Int) ∧ i ≤ k ∧ k ≤ b ∧ RowKit.Hid (So.Is w g off dk wr) ∧ RowKit.Hid (scanSorted So.lt dk b k = I)) (fun v _ => b - (intOf v).toNat)
        case atStart => exact ⟨i, rfl, Nat.le_refl _, hib, HW, HI⟩
        case round =>
          obtain ⟨k, rfl, hk1, hk2, HK1, HK2⟩ := hrel
          obtain ⟨G, hG, hcw, hfw⟩ := HK1.out.fam HH.out hn hsk
          have HG := Lib.hid hG
          clear hG
          have hkw : IntKind.i64.wrap ((k : Int) - 1) = (k : Int) - 1 := IntWalk.i64_in _ (by omega)
          by_cases hle : k < b
          · have hlei : (k : Int) < (b : Int) := by omega
            go_wp2_with fail
            go_big_quiet (first | (go_at_call 79; refine Calls.quiet_of_same (less_any _ _ _)))
            by_cases hl : So.lt (G k) (G (k - 1)) = false
            · rw [hl]
              have hst := HK2.out
              rw [← scanS_step hle (by rw [← HG.out, ← HG.out]; exact hl)] at hst
              have HN := Lib.hid hst
              clear hst
              go_wp2_with fail
              go_roundw
              case rel => exact ⟨k + 1, by go_num, by omega, by omega, Lib.hid (HK1.out.draws nq), HN⟩
              case measure => (simp [intOf]; try omega)
            · have hl2 : So.lt (G k) (G (k - 1)) = true := by simpa using hl
              rw [hl2]
              have hst := HK2.out
              rw [scanS_end (.inr (by rw [← HG.out, ← HG.out]; exact hl2))] at hst
              have HN := Lib.hid hst
              clear hst
              go_wp2_with fail
              go_meet
              case rel => exact ⟨by rw [HN.out], Lib.hid (HK1.out.draws nq)⟩
          · have hlei : ¬ (k : Int) < (b : Int) := by omega
            have hled : decide ((k : Int) < (b : Int)) = false := decide_eq_false hlei
            have hst := HK2.out
            rw [scanS_end (.inl hle)] at hst
            have HN := Lib.hid hst
            clear hst
            go_wp2_with fail
            go_big_quiet (first | (go_at_call 79; refine Calls.quiet_of_same (less_any _ _ _)))
            go_wp2_with fail
            go_meet
            case rel => exact ⟨by rw [HN.out], Lib.hid (HK1.out.draws nq)⟩
      case rest =>
        obtain ⟨rfl, HW1⟩ := hcut
        clear HW HI
        by_cases hIb : I = b
        · have hIbi : ((I : Int) == (b : Int)) = true := by simp [hIb]
          have hz := HPS.out
          rw [if_pos hIb, Prod.mk.injEq] at hz
          have HZ := Lib.hid hz
          have HIB := Lib.hid hIb
          clear hz hIb
          go_wp2_with fail
          go_ret
          rw [← HZ.out.1, ← HZ.out.2]
          exact ⟨rfl, HW1.out⟩
        · have hIbi : ((I : Int) == (b : Int)) = false := by rw [beq_eq_false_iff_ne]; omega
          have hIlt : I < b := by omega
          have hbaw : IntKind.i64.wrap ((b : Int) - (a : Int)) = (b : Int) - (a : Int) := IntWalk.i64_in _ (by omega)
          by_cases h50 : b - a < 50
          · have h50i : (b : Int) - (a : Int) < 50 := by omega
            have hz := HPS.out
            rw [if_neg hIb, if_pos h50, Prod.mk.injEq] at hz
            have HZ := Lib.hid hz
            clear hz
            go_wp2_with fail
            go_ret
            rw [← HZ.out.1, ← HZ.out.2]
            exact ⟨rfl, HW1.out⟩
          · have h50i : ¬ (b : Int) - (a : Int) < 50 := by omega
            have hz := HPS.out
            rw [if_neg hIb, if_neg h50] at hz
            obtain ⟨d2, hd2⟩ : ∃ d2, swp dk I (I - 1) = d2 := ⟨_, rfl⟩
            obtain ⟨d3, hd3⟩ : ∃ d3, fixDown So.lt a I d2 = d3 := ⟨_, rfl⟩
            obtain ⟨d4, hd4⟩ : ∃ d4, fixUp So.lt b I d3 = d4 := ⟨_, rfl⟩
            have hs2 : d2.size = n := by rw [← hd2, size_swp]; exact hsk
            have hs3 : d3.size = n := by rw [← hd3, fixD_size]; exact hs2
            have hs4 : d4.size = n := by rw [← hd4, fixU_size]; exact hs3
            rw [hd2, hd3, hd4] at hz
            have HZ := Lib.hid hz
            have HD2 := Lib.hid hd2
            have HD3 := Lib.hid hd3
            have HD4 := Lib.hid hd4
            clear hz hd2 hd3 hd4 HPS
            obtain ⟨G, hG, hcw, hfw⟩ := HW1.out.fam HH.out hn hsk
            have HG := Lib.hid hG
            clear hG
            have hIw : IntKind.i64.wrap ((I : Int) - 1) = (I : Int) - 1 := IntWalk.i64_in _ (by omega)
            go_wp2_with fail
            go_region
            have hsw := HW1.out.swap (i := I) (j := I - 1) (by omega) (by omega) 1
            rw [← HG.out, ← HG.out, HD2.out] at hsw
            have HW2 := Lib.hid hsw
            clear hsw hcw hfw
            have hIaw : IntKind.i64.wrap ((I : Int) - (a : Int)) = (I : Int) - (a : Int) := IntWalk.i64_in _ (by omega)
            have hbIw : IntKind.i64.wrap ((b : Int) - (I : Int)) = (b : Int) - (I : Int) := IntWalk.i64_in _ (by omega)
            go_upto_if 61 with fail
            go_cut [] from 13 to 132 (fun wr => RowKit.Hid (So.Is w g off d3 wr))
            case first =>
              by_cases h2 : I - a ≥ 2
              · have h2i : (I : Int) - (a : Int) ≥ 2 := by omega
                have hDn := HD3.out
                rw [fixDown, if_pos h2] at hDn
                have HD := Lib.hid hDn
                clear hDn
                go_wp2_with fail
                rename World => wB
                go_loopw [9] (fun v wr => ∃ (k : Nat) (dj : Array So.E), v = .int .i64 (k : Int) ∧ k + 1 ≤ I ∧ dj.size = n ∧ RowKit.Hid (So.Is w g off dj wr) ∧ RowKit.Hid (shiftDown So.lt k dj = d3)) (fun v _ => (intOf v).toNat)
                case atStart => exact ⟨I - 1, d2, by go_num, by omega, hs2, HW2, HD⟩
                case round =>
                  obtain ⟨k, dj, rfl, hk1, hsj, HK1, HK2⟩ := hrel
                  have hkw : IntKind.i64.wrap ((k : Int) - 1) = (k : Int) - 1 := IntWalk.i64_in _ (by omega)
                  by_cases hle : 1 ≤ k
                  · have hlei : (k : Int) ≥ 1 := by omega
                    obtain ⟨G, hG, hcw, hfw⟩ := HK1.out.fam HH.out hn hsj
                    have HG := Lib.hid hG
                    clear hG
                    go_wp2_with fail
                    go_big_quiet (first | (go_at_call 79; refine Calls.quiet_of_same (less_any _ _ _)))
                    have hz : RowKit.Hid (So.Is w g off dj (wr.drewN nq)) := Lib.hid (HK1.out.draws nq)
                    have hcz : ∀ t, t < n → (wr.drewN nq).cell? ⟨g, off + t, none⟩ = some (.int .u32 (nb32 (G t))) := hcw
                    have hfz : ∀ t, t < n → (wr.drewN nq).frozen? ⟨g, off + t, none⟩ = false := hfw
                    clear hcw hfw HK1
                    generalize wr.drewN nq = wz at hz hcz hfz ⊢
                    by_cases hl : So.lt (G k) (G (k - 1)) = true
                    · rw [hl]
                      have hst := HK2.out
                      rw [← shiftD_go (by omega) (by rw [← HG.out, ← HG.out]; exact hl)] at hst
                      have HN := Lib.hid hst
                      clear hst
                      go_wp2_with fail
                      go_region
                      have hsw := hz.out.swap (i := k) (j := k - 1) (by omega) (by omega) 1
                      rw [← HG.out, ← HG.out] at hsw
                      have HS := Lib.hid hsw
                      clear hsw hcz hfz
                      go_wp2_with fail
                      go_roundw
                      case rel => exact ⟨k - 1, swp dj k (k - 1), by go_num, by omega, by rw [size_swp]; exact hsj, HS, HN⟩
                      case measure => (simp [intOf]; try omega)
                    · have hl2 : So.lt (G k) (G (k - 1)) = false := by simpa using hl
                      rw [hl2]
                      have hst := HK2.out
                      rw [shiftD_end (.inr (by rw [← HG.out, ← HG.out]; exact hl2))] at hst
                      have HN := Lib.hid hst
                      clear hst hcz hfz
                      go_wp2_with fail
                      go_meet
                      case rel => exact Lib.hid (by rw [← HN.out]; exact hz.out)
                  · have hlei : ¬ (k : Int) ≥ 1 := by omega
                    have hst := HK2.out
                    rw [shiftD_end (.inl (by omega))] at hst
                    have HN := Lib.hid hst
                    clear hst
                    go_wp2_with fail
                    go_meet
                    case rel => exact Lib.hid (by rw [← HN.out]; exact HK1.out)
              · have h2i : ¬ (I : Int) - (a : Int) ≥ 2 := by omega
                have hDn := HD3.out
                rw [fixDown, if_neg h2] at hDn
                have HD := Lib.hid hDn
                clear hDn
                go_wp2_with fail
                go_meet
                case rel => exact Lib.hid (by rw [← HD.out]; exact HW2.out)
            case rest =>
              have HW3 := hcut
              clear HW2 hcut
              by_cases h2 : b - I ≥ 2
              · have h2i : (b : Int) - (I : Int) ≥ 2 := by omega
                have hU := HD4.out
                rw [fixUp, if_pos h2] at hU
                have HU := Lib.hid hU
                clear hU
                go_wp2_with fail
                rename World => wB
                go_loopw [10] (fun v wr => ∃ (k : Nat) (dj : Array So.E), v = .int .i64 (k : Int) ∧ I + 1 ≤ k ∧ k ≤ b ∧ dj.size = n ∧ RowKit.Hid (So.Is w g off dj wr) ∧ RowKit.Hid (shiftUp So.lt b k dj = d4)) (fun v _ => b - (intOf v).toNat)
                case atStart => exact ⟨I + 1, d3, by go_num, by omega, by omega, hs3, HW3, HU⟩
                case round =>
                  obtain ⟨k, dj, rfl, hk1, hk2, hsj, HK1, HK2⟩ := hrel
                  have hkw : IntKind.i64.wrap ((k : Int) - 1) = (k : Int) - 1 := IntWalk.i64_in _ (by omega)
                  by_cases hle : k < b
                  · have hlei : (k : Int) < (b : Int) := by omega
                    obtain ⟨G, hG, hcw, hfw⟩ := HK1.out.fam HH.out hn hsj
                    have HG := Lib.hid hG
                    clear hG
                    go_wp2_with fail
                    go_big_quiet (first | (go_at_call 79; refine Calls.quiet_of_same (less_any _ _ _)))
                    have hz : RowKit.Hid (So.Is w g off dj (wr.drewN nq)) := Lib.hid (HK1.out.draws nq)
                    have hcz : ∀ t, t < n → (wr.drewN nq).cell? ⟨g, off + t, none⟩ = some (.int .u32 (nb32 (G t))) := hcw
                    have hfz : ∀ t, t < n → (wr.drewN nq).frozen? ⟨g, off + t, none⟩ = false := hfw
                    clear hcw hfw HK1
                    generalize wr.drewN nq = wz at hz hcz hfz ⊢
                    by_cases hl : So.lt (G k) (G (k - 1)) = true
                    · rw [hl]
                      have hst := HK2.out
                      rw [← shiftU_go (by omega) (by rw [← HG.out, ← HG.out]; exact hl)] at hst
                      have HN := Lib.hid hst
                      clear hst
                      go_wp2_with fail
                      go_region
                      have hsw := hz.out.swap (i := k) (j := k - 1) (by omega) (by omega) 1
                      rw [← HG.out, ← HG.out] at hsw
                      have HS := Lib.hid hsw
                      clear hsw hcz hfz
                      go_wp2_with fail
                      go_roundw
                      case rel => exact ⟨k + 1, swp dj k (k - 1), by go_num, by omega, by omega, by rw [size_swp]; exact hsj, HS, HN⟩
                      case measure => (simp [intOf]; try omega)
                    · have hl2 : So.lt (G k) (G (k - 1)) = false := by simpa using hl
                      rw [hl2]
                      have hst := HK2.out
                      rw [shiftU_end (.inr (by rw [← HG.out, ← HG.out]; exact hl2))] at hst
                      have HN := Lib.hid hst
                      clear hst hcz hfz
                      go_wp2_with fail
                      go_roundw
                      case rel => exact ⟨I, s, z + 1, d4, rfl, by go_num, by omega, by omega, by omega, by omega, hs4, Lib.hid (by rw [← HN.out]; exact hz.out), HZ⟩
                      case measure => (simp [intOf]; try omega)
                  · have hlei : ¬ (k : Int) < (b : Int) := by omega
                    have hst := HK2.out
                    rw [shiftU_end (.inl hle)] at hst
                    have HN := Lib.hid hst
                    clear hst
                    go_wp2_with fail
                    go_roundw
                    case rel => exact ⟨I, s, z + 1, d4, rfl, by go_num, by omega, by omega, by omega, by omega, hs4, Lib.hid (by rw [← HN.out]; exact HK1.out), HZ⟩
                    case measure => (simp [intOf]; try omega)
              · have h2i : ¬ (b : Int) - (I : Int) ≥ 2 := by omega
                have hU := HD4.out
                rw [fixUp, if_neg h2] at hU
                have HU := Lib.hid hU
                clear hU
                go_wp2_with fail
                go_roundw
                case rel => exact ⟨I, s, z + 1, d4, rfl, by go_num, by omega, by omega, by omega, by omega, hs4, Lib.hid (by rw [← HU.out]; exact HW3.out), HZ⟩
                case measure => (simp [intOf]; try omega)
end Go.Proofs.Ytlackhjlnoefcaa

/-! the library's sort of words: partitionOrdered, partitionEqualOrdered -/
namespace Go.Proofs.Ytlackhjlnoefcaa
open Go Go.RowKit Go.ChangeShapes Go.WideShapes Go.Sort
section
variable {p : So.E → Bool} {d : Array So.E} {i j : Nat}
theorem scanUp_step (h : i ≤ j) (hp : p d[i]! = true) : scanUp p d j (i + 1) = scanUp p d j i := by
  rw [scanUp.eq_def p d j i, if_pos (by simp [h, hp])]
theorem scanUp_end (h : ¬ i ≤ j ∨ p d[i]! = false) : scanUp p d j i = i := by
  rw [scanUp.eq_def]
  rcases h with h | h
  · rw [if_neg (by simp [h])]
  · rw [if_neg (by simp [h])]
theorem scanDown_step (h : i ≤ j) (hj : 0 < j) (hp : p d[j]! = true) : scanDown p d i (j - 1) = scanDown p d i j := by
  cases j with
  | zero => omega
  | succ j => rw [scanDown, if_pos (by simp [h, hp])]; rfl
theorem scanDown_end (h : ¬ i ≤ j ∨ p d[j]! = false) : scanDown p d i j = j := by
  cases j with
  | zero => rfl
  | succ j =>
    rw [scanDown]
    rcases h with h | h
    · rw [if_neg (by simp; omega)]
    · rw [if_neg (by simp [h])]
theorem scanUp_le (p : So.E → Bool) (d : Array So.E) (h : i ≤ j + 1) : scanUp p d j i ≤ j + 1 := by
  obtain ⟨n, hn⟩ : ∃ n, n = j + 1 - i := ⟨_, rfl⟩
  induction n generalizing i with
  | zero => rw [scanUp_end (.inl (by omega))]; omega
  | succ n ih =>
    by_cases hp : p d[i]! = true
    · rw [← scanUp_step (by omega) hp]; exact ih (by omega) (by omega)
    · rw [scanUp_end (.inr (by simpa using hp))]; omega
theorem scanDown_ge (p : So.E → Bool) (d : Array So.E) (h : i ≤ j + 1) : i ≤ scanDown p d i j + 1 := by
  induction j with
  | zero => rw [show scanDown p d i 0 = 0 from rfl]; omega
  | succ j ih =>
    by_cases hp : i ≤ j + 1 ∧ p d[j + 1]! = true
    · rw [← scanDown_step hp.1 (by omega) hp.2]; exact ih (by omega)
    · rw [scanDown_end (by
        by_cases h2 : i ≤ j + 1
        · right
          cases hq : p d[j + 1]! with
          | false => rfl
          | true => exact (hp ⟨h2, hq⟩).elim
        · left; exact h2)]
      omega
theorem scanUp_stops (p : So.E → Bool) (d : Array So.E) (h : scanUp p d j i ≤ j) : p d[scanUp p d j i]! = false := by
  obtain ⟨n, hn⟩ : ∃ n, n = j + 1 - i := ⟨_, rfl⟩
  induction n generalizing i with
  | zero => have := scanUp_ge p d j i; omega
  | succ n ih =>
    by_cases hp : p d[i]! = true
    · rw [← scanUp_step (by omega) hp] at h ⊢; exact ih h (by omega)
    · have hp2 : p d[i]! = false := by simpa using hp
      rw [scanUp_end (.inr hp2)]; exact hp2
theorem scanDown_stops (p : So.E → Bool) (d : Array So.E) (hi : 0 < i) (h : i ≤ scanDown p d i j) : p d[scanDown p d i j]! = false := by
  induction j with
  | zero => rw [show scanDown p d i 0 = 0 from rfl] at h; omega
  | succ j ih =>
    by_cases hp : i ≤ j + 1 ∧ p d[j + 1]! = true
    · rw [← scanDown_step hp.1 (by omega) hp.2] at h ⊢; exact ih h
    · by_cases h2 : i ≤ j + 1
      · have hp2 : p d[j + 1]! = false := by
          cases hq : p d[j + 1]! with
          | false => rfl
          | true => exact (hp ⟨h2, hq⟩).elim
        rw [scanDown_end (.inr hp2)]; exact hp2
      · rw [scanDown_end (.inl h2)] at h; omega
theorem scans_apart {p q : So.E → Bool} {d : Array So.E} {i j I J : Nat} (hq : ∀ x, q x = !p x) (hI : scanUp p d j i = I) (hJ : scanDown q d I j = J) (hi : 0 < i) (h : ¬ I > J) : I < J := by
  have h1 := scanUp_ge p d j i
  have h2 := scanDown_le q d I j
  rcases Nat.eq_or_lt_of_le (Nat.le_of_not_lt h) with e | e
  · exfalso
    have h3 := scanUp_stops p d (j := j) (i := i) (by omega)
    have h4 := scanDown_stops q d (i := I) (j := j) (by omega) (by omega)
    rw [hI] at h3
    rw [hJ, hq, ← e, h3] at h4
    cases h4
  · exact e
end
theorem part_stop {d d1 : Array So.E} {a b p I J : Nat} (h1 : swp d a p = d1) (hI : scanUp (fun x => So.lt x d1[a]!) d1 (b - 1) (a + 1) = I) (hJ : scanDown (fun x => !So.lt x d1[a]!) d1 I (b - 1) = J) (h : I > J) : partition So.lt d a b p = (J, true, swp d1 J a) := by
  unfold partition
  simp only [h1, hI, hJ, if_pos h]
theorem part_go {d d1 dF : Array So.E} {a b p I J m : Nat} (h1 : swp d a p = d1) (hI : scanUp (fun x => So.lt x d1[a]!) d1 (b - 1) (a + 1) = I) (hJ : scanDown (fun x => !So.lt x d1[a]!) d1 I (b - 1) = J) (h : ¬ I > J) (hm : partLoop So.lt a (I + 1) (J - 1) (swp d1 I J) = (m, dF)) : partition So.lt d a b p = (m, false, swp dF m a) := by
  unfold partition
  simp only [h1, hI, hJ, if_neg h, hm]
theorem ploop_stop {d : Array So.E} {a i j I J : Nat} (hI : scanUp (fun x => So.lt x d[a]!) d j i = I) (hJ : scanDown (fun x => !So.lt x d[a]!) d I j = J) (h : I > J) : partLoop So.lt a i j d = (J, d) := by
  rw [partLoop_eq, hI, hJ, if_pos h]
theorem ploop_go {d : Array So.E} {a i j I J : Nat} (hI : scanUp (fun x => So.lt x d[a]!) d j i = I) (hJ : scanDown (fun x => !So.lt x d[a]!) d I j = J) (h : ¬ I > J) : partLoop So.lt a i j d = partLoop So.lt a (I + 1) (J - 1) (swp d I J) := by
  rw [partLoop_eq, hI, hJ, if_neg h]
set_option maxRecDepth 1000000 in
set_option maxHeartbeats 8000000 in
theorem part_any (g off n c a b p : Nat) (d : Array So.E) (w : World) (hn : d.size = n) (hH : Holds So.enc w g off d) (hap : a ≤ p) (hpb : p < b) (hb : b ≤ n) (hsz : n ≤ 1000000) :
    Calls Try.prog 81 #[.slice (some ⟨g, off, none⟩) n c, .int .i64 (a : Int), .int .i64 (b : Int), .int .i64 (p : Int)] w fun e w' =>
      e = .returned (.tuple #[.int .i64 ((partition So.lt d a b p).1 : Int), .bool (partition So.lt d a b p).2.1]) ∧ So.Is w g off (partition So.lt d a b p).2.2 w' := by
  have HH := Lib.hid hH
  obtain ⟨G0, hG, hcw, hfw⟩ := (So.Is.refl HH.out).fam HH.out hn hn
  have HG0 := Lib.hid hG
  clear hH hG
  obtain ⟨z, hz⟩ := cell_behind (w := w) (p := ⟨g, off + a, none⟩) (x := .int .u32 (nb32 (G0 p))) (hcw p (by omega))
  obtain ⟨d1, hd1⟩ : ∃ d1, swp d a p = d1 := ⟨_, rfl⟩
  have hs1 : d1.size = n := by rw [← hd1, size_swp]; exact hn
  have H1 := Lib.hid hd1
  clear hd1
  obtain ⟨J0, hJ0⟩ : ∃ J0, b - 1 = J0 := ⟨_, rfl⟩
  have hb1 : (b : Int) - 1 = (J0 : Int) := by omega
  have hbw : IntKind.i64.wrap (b - 1 : Int) = (J0 : Int) := by rw [IntWalk.i64_in _ (by omega)]; omega
  obtain ⟨I, hI⟩ : ∃ I, scanUp (fun x => So.lt x d1[a]!) d1 J0 (a + 1) = I := ⟨_, rfl⟩
  obtain ⟨J, hJ⟩ : ∃ J, scanDown (fun x => !So.lt x d1[a]!) d1 I J0 = J := ⟨_, rfl⟩
  have hI1 : a + 1 ≤ I := by rw [← hI]; exact scanUp_ge _ _ _ _
  have hI2 : I ≤ J0 + 1 := by rw [← hI]; exact scanUp_le _ _ (by omega)
  have hJ1 : J ≤ J0 := by rw [← hJ]; exact scanDown_le _ _ _ _
  have hJ2 : I ≤ J + 1 := by rw [← hJ]; exact scanDown_ge _ _ (by omega)
  have hb0 : J0 + 1 = b := by omega
  have HI := Lib.hid hI
  have HJ := Lib.hid hJ
  have HJ0 := Lib.hid hJ0
  clear hI hJ hJ0
  go_enter Try.func81, Try.ntmps81
  go_wp2_with fail
  go_region
  have hsw := (So.Is.refl HH.out).swap (i := a) (j := p) (by omega) (by omega) 1
  rw [← HG0.out, ← HG0.out, H1.out] at hsw
  have HW := Lib.hid hsw
  clear hsw hz hcw hfw
  go_upto_region 2 with fail
  go_cut [10, 11] from 12 (fun vi vj wr => vi = .int .i64 ((a : Int) + 1) ∧ vj = .int .i64 (J0 : Int) ∧ RowKit.Hid (So.Is w g off d1 wr))
  case first =>
    go_wp2_with fail
    go_meet
    case rel => exact ⟨rfl, rfl, HW⟩
  case rest =>
    obtain ⟨rfl, rfl, HW1⟩ := hcut
    clear HW
    go_step
    go_step
    go_cut [10] from 12 (fun v wr => v = .int .i64 (I : Int) ∧ RowKit.Hid (So.Is w g off d1 wr))
    case first =>
      go_wp2_with fail
      go_loopw [10] (fun v wr => ∃ (k : Nat), v = .int .i64 (k : Int) ∧ (a + 1) ≤ k ∧ k ≤ J0 + 1 ∧ RowKit.Hid (So.Is w g off d1 wr) ∧ RowKit.Hid (scanUp (fun x => So.lt x d1[a]!) d1 J0 k = I)) (fun v _ => J0 + 1 - (intOf v).toNat)
      case atStart => exact ⟨(a + 1), by go_num, by omega, by omega, HW1, HI⟩
      case round =>
        obtain ⟨k, rfl, hk1, hk2, HK1, HK2⟩ := hrel
        obtain ⟨G, hG, hcw, hfw⟩ := HK1.out.fam HH.out hn hs1
        have HG := Lib.hid hG
        clear hG
        by_cases hle : k ≤ J0
        · have hlei : (k : Int) ≤ (J0 : Int) := by omega
          go_wp2_with fail
          go_big_quiet (first | (go_at_call 79; refine Calls.quiet_of_same (less_any _ _ _)))
          by_cases hl : So.lt (G k) (G a) = true
          · rw [hl]
            have hst := HK2.out
            rw [← scanUp_step hle (by show _ = true; rw [← HG.out, ← HG.out, hl])] at hst
            have HN := Lib.hid hst
            clear hst
            go_wp2_with fail
            go_roundw
            case rel => exact ⟨k + 1, by go_num, by omega, by omega, Lib.hid (HK1.out.draws nq), HN⟩
            case measure => (simp [intOf]; try omega)
          · have hl2 : So.lt (G k) (G a) = false := by simpa using hl
            rw [hl2]
            have hst := HK2.out
            rw [scanUp_end (.inr (by show _ = false; rw [← HG.out, ← HG.out, hl2]))] at hst
            have HN := Lib.hid hst
            clear hst
            go_wp2_with fail
            go_meet
            case rel => exact ⟨by rw [HN.out], Lib.hid (HK1.out.draws nq)⟩
        · have hlei : ¬ (k : Int) ≤ (J0 : Int) := by omega
          have hled : decide ((k : Int) ≤ (J0 : Int)) = false := decide_eq_false hlei
          have hst := HK2.out
          rw [scanUp_end (.inl hle)] at hst
          have HN := Lib.hid hst
          clear hst
          go_wp2_with fail
          go_big_quiet (first | (go_at_call 79; refine Calls.quiet_of_same (less_any _ _ _)))
          go_wp2_with fail
          go_meet
          case rel => exact ⟨by rw [HN.out], Lib.hid (HK1.out.draws nq)⟩
    case rest =>
      obtain ⟨rfl, HW2⟩ := hcut
      clear HW1
      go_step
      go_step
      go_cut [11] from 12 (fun v wr => v = .int .i64 (J : Int) ∧ RowKit.Hid (So.Is w g off d1 wr))
      case first =>
        go_wp2_with fail
        go_loopw [11] (fun v wr => ∃ (k : Nat), v = .int .i64 (k : Int) ∧ k ≤ J0 ∧ I ≤ k + 1 ∧ RowKit.Hid (So.Is w g off d1 wr) ∧ RowKit.Hid (scanDown (fun x => !So.lt x d1[a]!) d1 I k = J)) (fun v _ => (intOf v).toNat)
        case atStart => exact ⟨J0, by go_num, by omega, by omega, HW2, HJ⟩
        case round =>
          obtain ⟨k, rfl, hk1, hk2, HK1, HK2⟩ := hrel
          obtain ⟨G, hG, hcw, hfw⟩ := HK1.out.fam HH.out hn hs1
          have HG := Lib.hid hG
          clear hG
          by_cases hle : I ≤ k
          · have hlei : (I : Int) ≤ (k : Int) := by omega
            go_wp2_with fail
            go_big_quiet (first | (go_at_call 79; refine Calls.quiet_of_same (less_any _ _ _)))
            by_cases hl : So.lt (G k) (G a) = false
            · rw [hl]
              have hst := HK2.out
              rw [← scanDown_step hle (by omega) (by show _ = true; rw [← HG.out, ← HG.out, hl]; rfl)] at hst
              have HN := Lib.hid hst
              clear hst
              go_wp2_with fail
              go_roundw
              case rel => exact ⟨k - 1, by go_num, by omega, by omega, Lib.hid (HK1.out.draws nq), HN⟩
              case measure => (simp [intOf]; try omega)
            · have hl2 : So.lt (G k) (G a) = true := by simpa using hl
              rw [hl2]
              have hst := HK2.out
              rw [scanDown_end (.inr (by show _ = false; rw [← HG.out, ← HG.out, hl2]; rfl))] at hst
              have HN := Lib.hid hst
              clear hst
              go_wp2_with fail
              go_meet
              case rel => exact ⟨by rw [HN.out], Lib.hid (HK1.out.draws nq)⟩
          · have hlei : ¬ (I : Int) ≤ (k : Int) := by omega
            have hled : decide ((I : Int) ≤ (k : Int)) = false := decide_eq_false hlei
            have hst := HK2.out
            rw [scanDown_end (.inl hle)] at hst
            have HN := Lib.hid hst
            clear hst
            go_wp2_with fail
            go_big_quiet (first | (go_at_call 79; refine Calls.quiet_of_same (less_any _ _ _)))
            go_wp2_with fail
            go_meet
            case rel => exact ⟨by rw [HN.out], Lib.hid (HK1.out.draws nq)⟩
      case rest =>
        obtain ⟨rfl, HW3⟩ := hcut
        clear HW2
        obtain ⟨G, hG, hcw, hfw⟩ := HW3.out.fam HH.out hn hs1
        have HG := Lib.hid hG
        clear hG
        by_cases hIJ : I > J
        · have hIJi : (I : Int) > (J : Int) := by omega
          obtain ⟨z, hz⟩ := cell_behind (w := wc) (p := ⟨g, off + J, none⟩) (x := .int .u32 (nb32 (G a))) (hcw a (by omega))
          have hpt := part_stop H1.out (by rw [HJ0.out]; exact HI.out) (by rw [HJ0.out]; exact HJ.out) hIJ
          have HP := Lib.hid hpt
          clear hpt
          go_wp2_with fail
          go_region
          have hsw := HW3.out.swap (i := J) (j := a) (by omega) (by omega) 1
          rw [← HG.out, ← HG.out] at hsw
          have HW4 := Lib.hid hsw
          clear hsw hcw hfw hz
          go_wp2_with fail
          go_ret2
          rw [HP.out]
          exact ⟨rfl, HW4.out⟩
        · have hIJi : ¬ (I : Int) > (J : Int) := by omega
          obtain ⟨z, hz⟩ := cell_behind (w := wc) (p := ⟨g, off + I, none⟩) (x := .int .u32 (nb32 (G J))) (hcw J (by omega))
          go_wp2_with fail
          go_region
          have hsw := HW3.out.swap (i := I) (j := J) (by omega) (by omega) 1
          rw [← HG.out, ← HG.out] at hsw
          have HW4 := Lib.hid hsw
          clear hsw hcw hfw hz
          go_wp2_with fail
          have hIJ2 := scans_apart (q := fun x => !So.lt x d1[a]!) (fun _ => rfl) HI.out HJ.out (by omega) hIJ
          have hJ1i : IntKind.i64.wrap ((J : Int) - 1) = (J : Int) - 1 := IntWalk.i64_in _ (by omega)
          obtain ⟨m, dF, hm⟩ : ∃ m dF, partLoop So.lt a (I + 1) (J - 1) (swp d1 I J) = (m, dF) := ⟨_, _, rfl⟩
          have hpt := part_go H1.out (by rw [HJ0.out]; exact HI.out) (by rw [HJ0.out]; exact HJ.out) hIJ hm
          have HP := Lib.hid hpt
          have HM := Lib.hid hm
          clear hpt hm
          rename World => wB
          go_loopw [10, 11] (fun vi vj wr => ∃ (i j : Nat) (dk : Array So.E), vi = .int .i64 (i : Int) ∧ vj = .int .i64 (j : Int) ∧ a < i ∧ i ≤ j + 1 ∧ j < b ∧ dk.size = n ∧ RowKit.Hid (So.Is w g off dk wr) ∧ RowKit.Hid (partLoop So.lt a i j dk = (m, dF))) (fun vi vj _ => (intOf vj).toNat + 1 - (intOf vi).toNat)
          case atStart => exact ⟨I + 1, J - 1, swp d1 I J, by go_num, by go_num, by omega, by omega, by omega, by rw [size_swp]; exact hs1, HW4, HM⟩
          case round =>
            obtain ⟨i, j, dk, rfl, rfl, hai, hij, hjb, hsk, HWk, HMk⟩ := hrel
            obtain ⟨I2, hI2'⟩ : ∃ I2, scanUp (fun x => So.lt x dk[a]!) dk j i = I2 := ⟨_, rfl⟩
            obtain ⟨J2, hJ2'⟩ : ∃ J2, scanDown (fun x => !So.lt x dk[a]!) dk I2 j = J2 := ⟨_, rfl⟩
            have hI21 : i ≤ I2 := by rw [← hI2']; exact scanUp_ge _ _ _ _
            have hI22 : I2 ≤ j + 1 := by rw [← hI2']; exact scanUp_le _ _ (by omega)
            have hJ21 : J2 ≤ j := by rw [← hJ2']; exact scanDown_le _ _ _ _
            have hJ22 : I2 ≤ J2 + 1 := by rw [← hJ2']; exact scanDown_ge _ _ (by omega)
            have HI2 := Lib.hid hI2'
            have HJ2 := Lib.hid hJ2'
            clear hI2' hJ2' HI HJ HM HW4 HW3 H1
            go_step
            go_step
            go_step
            go_cut [10] from 99 to 152 (fun v wr => v = .int .i64 (I2 : Int) ∧ RowKit.Hid (So.Is w g off dk wr))
            case first =>
              go_wp2_with fail
              go_loopw [10] (fun v wr => ∃ (k : Nat), v = .int .i64 (k : Int) ∧ i ≤ k ∧ k ≤ j + 1 ∧ RowKit.Hid (So.Is w g off dk wr) ∧ RowKit.Hid (scanUp (fun x => So.lt x dk[a]!) dk j k = I2)) (fun v _ => j + 1 - (intOf v).toNat)
              case atStart => exact ⟨i, by go_num, by omega, by omega, HWk, HI2⟩
              case round =>
                obtain ⟨k, rfl, hk1, hk2, HK1, HK2⟩ := hrel
                obtain ⟨G, hG, hcw, hfw⟩ := HK1.out.fam HH.out hn hsk
                have HG := Lib.hid hG
                clear hG
                by_cases hle : k ≤ j
                · have hlei : (k : Int) ≤ (j : Int) := by omega
                  go_wp2_with fail
                  go_big_quiet (first | (go_at_call 79; refine Calls.quiet_of_same (less_any _ _ _)))
                  by_cases hl : So.lt (G k) (G a) = true
                  · rw [hl]
                    have hst := HK2.out
                    rw [← scanUp_step hle (by show _ = true; rw [← HG.out, ← HG.out, hl])] at hst
                    have HN := Lib.hid hst
                    clear hst
                    go_wp2_with fail
                    go_roundw
                    case rel => exact ⟨k + 1, by go_num, by omega, by omega, Lib.hid (HK1.out.draws nq), HN⟩
                    case measure => (simp [intOf]; try omega)
                  · have hl2 : So.lt (G k) (G a) = false := by simpa using hl
                    rw [hl2]
                    have hst := HK2.out
                    rw [scanUp_end (.inr (by show _ = false; rw [← HG.out, ← HG.out, hl2]))] at hst
                    have HN := Lib.hid hst
                    clear hst
                    go_wp2_with fail
                    go_meet
                    case rel => exact ⟨by rw [HN.out], Lib.hid (HK1.out.draws nq)⟩
                · have hlei : ¬ (k : Int) ≤ (j : Int) := by omega
                  have hled : decide ((k : Int) ≤ (j : Int)) = false := decide_eq_false hlei
                  have hst := HK2.out
                  rw [scanUp_end (.inl hle)] at hst
                  have HN := Lib.hid hst
                  clear hst
                  go_wp2_with fail
                  go_big_quiet (first | (go_at_call 79; refine Calls.quiet_of_same (less_any _ _ _)))
                  go_wp2_with fail
                  go_meet
                  case rel => exact ⟨by rw [HN.out], Lib.hid (HK1.out.draws nq)⟩
            case rest =>
              obtain ⟨rfl, HW5⟩ := hcut
              clear HWk
              go_step
              go_step
              go_cut [11] from 99 to 152 (fun v wr => v = .int .i64 (J2 : Int) ∧ RowKit.Hid (So.Is w g off dk wr))
              case first =>
                go_wp2_with fail
                go_loopw [11] (fun v wr => ∃ (k : Nat), v = .int .i64 (k : Int) ∧ k ≤ j ∧ I2 ≤ k + 1 ∧ RowKit.Hid (So.Is w g off dk wr) ∧ RowKit.Hid (scanDown (fun x => !So.lt x dk[a]!) dk I2 k = J2)) (fun v _ => (intOf v).toNat)
                case atStart => exact ⟨j, by go_num, by omega, by omega, HW5, HJ2⟩
                case round =>
                  obtain ⟨k, rfl, hk1, hk2, HK1, HK2⟩ := hrel
                  obtain ⟨G, hG, hcw, hfw⟩ := HK1.out.fam HH.out hn hsk
                  have HG := Lib.hid hG
                  clear hG
                  by_cases hle : I2 ≤ k
                  · have hlei : (I2 : Int) ≤ (k : Int) := by omega
                    go_wp2_with fail
                    go_big_quiet (first | (go_at_call 79; refine Calls.quiet_of_same (less_any _ _ _)))
                    by_cases hl : So.lt (G k) (G a) = false
                    · rw [hl]
                      have hst := HK2.out
                      rw [← scanDown_step hle (by omega) (by show _ = true; rw [← HG.out, ← HG.out, hl]; rfl)] at hst
                      have HN := Lib.hid hst
                      clear hst
                      go_wp2_with fail
                      go_roundw
                      case rel => exact ⟨k - 1, by go_num, by omega, by omega, Lib.hid (HK1.out.draws nq), HN⟩
                      case measure => (simp [intOf]; try omega)
                    · have hl2 : So.lt (G k) (G a) = true := by simpa using hl
                      rw [hl2]
                      have hst := HK2.out
                      rw [scanDown_end (.inr (by show _ = false; rw [← HG.out, ← HG.out, hl2]; rfl))] at hst
                      have HN := Lib.hid hst
                      clear hst
                      go_wp2_with fail
                      go_meet
                      case rel => exact ⟨by rw [HN.out], Lib.hid (HK1.out.draws nq)⟩
                  · have hlei : ¬ (I2 : Int) ≤ (k : Int) := by omega
                    have hled : decide ((I2 : Int) ≤ (k : Int)) = false := decide_eq_false hlei
                    have hst := HK2.out
                    rw [scanDown_end (.inl hle)] at hst
                    have HN := Lib.hid hst
                    clear hst
                    go_wp2_with fail
                    go_big_quiet (first | (go_at_call 79; refine Calls.quiet_of_same (less_any _ _ _)))
                    go_wp2_with fail
                    go_meet
                    case rel => exact ⟨by rw [HN.out], Lib.hid (HK1.out.draws nq)⟩
              case rest =>
                obtain ⟨rfl, HW6⟩ := hcut
                clear HW5
                obtain ⟨G2, hG2, hcw, hfw⟩ := HW6.out.fam HH.out hn hsk
                have HG2 := Lib.hid hG2
                clear hG2
                by_cases hIJ3 : I2 > J2
                · have hIJi3 : (I2 : Int) > (J2 : Int) := by omega
                  obtain ⟨z, hz⟩ := cell_behind (w := wc) (p := ⟨g, off + J2, none⟩) (x := .int .u32 (nb32 (G2 a))) (hcw a (by omega))
                  have hfin := ploop_stop HI2.out HJ2.out hIJ3
                  rw [HMk.out, Prod.mk.injEq] at hfin
                  obtain ⟨hm1, hd2⟩ := hfin
                  have HF := Lib.hid (And.intro hm1 hd2)
                  clear hm1 hd2
                  go_wp2_with fail
                  go_region
                  have hsw := HW6.out.swap (i := J2) (j := a) (by omega) (by omega) 1
                  rw [← HG2.out, ← HG2.out] at hsw
                  have HW7 := Lib.hid hsw
                  clear hsw hcw hfw hz
                  go_wp2_with fail
                  go_ret2
                  rw [HP.out, HF.out.1, HF.out.2]
                  exact ⟨rfl, HW7.out⟩
                · have hIJi3 : ¬ (I2 : Int) > (J2 : Int) := by omega
                  have hap3 := scans_apart (q := fun x => !So.lt x dk[a]!) (fun _ => rfl) HI2.out HJ2.out (by omega) hIJ3
                  obtain ⟨z, hz⟩ := cell_behind (w := wc) (p := ⟨g, off + I2, none⟩) (x := .int .u32 (nb32 (G2 J2))) (hcw J2 (by omega))
                  have hgo := ploop_go HI2.out HJ2.out hIJ3
                  rw [HMk.out] at hgo
                  have HF := Lib.hid hgo.symm
                  have hJ2i : IntKind.i64.wrap ((J2 : Int) - 1) = (J2 : Int) - 1 := IntWalk.i64_in _ (by omega)
                  clear hgo
                  go_wp2_with fail
                  go_region
                  have hsw := HW6.out.swap (i := I2) (j := J2) (by omega) (by omega) 1
                  rw [← HG2.out, ← HG2.out] at hsw
                  have HW7 := Lib.hid hsw
                  clear hsw hcw hfw hz
                  go_wp2_with fail
                  go_roundw
                  case rel => exact ⟨I2 + 1, J2 - 1, swp dk I2 J2, by go_num, by go_num, by omega, by omega, by omega, by rw [size_swp]; exact hsk, HW7, HF⟩
                  case measure => (simp [intOf]; try omega)
theorem peloop_stop {d : Array So.E} {a i j I J : Nat} (hI : scanUp (fun x => !So.lt d[a]! x) d j i = I) (hJ : scanDown (fun x => So.lt d[a]! x) d I j = J) (h : I > J) : partEqLoop So.lt a i j d = (I, d) := by
  rw [partEqLoop_eq, hI, hJ, if_pos h]
theorem peloop_go {d : Array So.E} {a i j I J : Nat} (hI : scanUp (fun x => !So.lt d[a]! x) d j i = I) (hJ : scanDown (fun x => So.lt d[a]! x) d I j = J) (h : ¬ I > J) : partEqLoop So.lt a i j d = partEqLoop So.lt a (I + 1) (J - 1) (swp d I J) := by
  rw [partEqLoop_eq, hI, hJ, if_neg h]
set_option maxRecDepth 1000000 in
set_option maxHeartbeats 8000000 in
theorem parteq_any (g off n c a b p : Nat) (d : Array So.E) (w : World) (hn : d.size = n) (hH : Holds So.enc w g off d) (hap : a ≤ p) (hpb : p < b) (hb : b ≤ n) (hsz : n ≤ 1000000) :
    Calls Try.prog 80 #[.slice (some ⟨g, off, none⟩) n c, .int .i64 (a : Int), .int .i64 (b : Int), .int .i64 (p : Int)] w fun e w' =>
      e = .returned (.int .i64 ((partitionEqual So.lt d a b p).1 : Int)) ∧ So.Is w g off (partitionEqual So.lt d a b p).2 w' := by
  have HH := Lib.hid hH
  obtain ⟨G0, hG, hcw, hfw⟩ := (So.Is.refl HH.out).fam HH.out hn hn
  have HG0 := Lib.hid hG
  clear hH hG
  obtain ⟨z, hz⟩ := cell_behind (w := w) (p := ⟨g, off + a, none⟩) (x := .int .u32 (nb32 (G0 p))) (hcw p (by omega))
  obtain ⟨d1, hd1⟩ : ∃ d1, swp d a p = d1 := ⟨_, rfl⟩
  have hs1 : d1.size = n := by rw [← hd1, size_swp]; exact hn
  obtain ⟨J0, hJ0⟩ : ∃ J0, b - 1 = J0 := ⟨_, rfl⟩
  have hb1 : (b : Int) - 1 = (J0 : Int) := by omega
  have hbw : IntKind.i64.wrap (b - 1 : Int) = (J0 : Int) := by rw [IntWalk.i64_in _ (by omega)]; omega
  obtain ⟨m, dF, hm⟩ : ∃ m dF, partEqLoop So.lt a (a + 1) J0 d1 = (m, dF) := ⟨_, _, rfl⟩
  have hpe : partitionEqual So.lt d a b p = (m, dF) := by rw [partitionEqual, hd1, hJ0, hm]
  have hb0 : J0 + 1 = b := by omega
  have H1 := Lib.hid hd1
  have HM := Lib.hid hm
  have HP := Lib.hid hpe
  clear hd1 hm hpe hJ0
  go_enter Try.func80, Try.ntmps80
  go_wp2_with fail
  go_region
  have hsw := (So.Is.refl HH.out).swap (i := a) (j := p) (by omega) (by omega) 1
  rw [← HG0.out, ← HG0.out, H1.out] at hsw
  have HW := Lib.hid hsw
  clear hsw hz hcw hfw
  go_wp2_with fail
  go_loopw [9, 10] (fun vi vj wr => ∃ (i j : Nat) (dk : Array So.E), vi = .int .i64 (i : Int) ∧ vj = .int .i64 (j : Int) ∧ a < i ∧ i ≤ j + 1 ∧ j < b ∧ dk.size = n ∧ RowKit.Hid (So.Is w g off dk wr) ∧ RowKit.Hid (partEqLoop So.lt a i j dk = (m, dF))) (fun vi vj _ => (intOf vj).toNat + 1 - (intOf vi).toNat)
  case atStart => exact ⟨a + 1, J0, d1, by go_num, by go_num, by omega, by omega, by omega, hs1, HW, HM⟩
  case round =>
    obtain ⟨i, j, dk, rfl, rfl, hai, hij, hjb, hsk, HWk, HMk⟩ := hrel
    obtain ⟨I2, hI2'⟩ : ∃ I2, scanUp (fun x => !So.lt dk[a]! x) dk j i = I2 := ⟨_, rfl⟩
    obtain ⟨J2, hJ2'⟩ : ∃ J2, scanDown (fun x => So.lt dk[a]! x) dk I2 j = J2 := ⟨_, rfl⟩
    have hI21 : i ≤ I2 := by rw [← hI2']; exact scanUp_ge _ _ _ _
    have hI22 : I2 ≤ j + 1 := by rw [← hI2']; exact scanUp_le _ _ (by omega)
    have hJ21 : J2 ≤ j := by rw [← hJ2']; exact scanDown_le _ _ _ _
    have hJ22 : I2 ≤ J2 + 1 := by rw [← hJ2']; exact scanDown_ge _ _ (by omega)
    have HI2 := Lib.hid hI2'
    have HJ2 := Lib.hid hJ2'
    clear hI2' hJ2' HM HW H1
    go_step
    go_step
    go_step
    go_cut [9] from 29 to 82 (fun v wr => v = .int .i64 (I2 : Int) ∧ RowKit.Hid (So.Is w g off dk wr))
    case first =>
      go_wp2_with fail
      go_loopw [9] (fun v wr => ∃ (k : Nat), v = .int .i64 (k : Int) ∧ i ≤ k ∧ k ≤ j + 1 ∧ RowKit.Hid (So.Is w g off dk wr) ∧ RowKit.Hid (scanUp (fun x => !So.lt dk[a]! x) dk j k = I2)) (fun v _ => j + 1 - (intOf v).toNat)
      case atStart => exact ⟨i, by go_num, by omega, by omega, HWk, HI2⟩
      case round =>
        obtain ⟨k, rfl, hk1, hk2, HK1, HK2⟩ := hrel
        obtain ⟨G, hG, hcw, hfw⟩ := HK1.out.fam HH.out hn hsk
        have HG := Lib.hid hG
        clear hG
        by_cases hle : k ≤ j
        · have hlei : (k : Int) ≤ (j : Int) := by omega
          go_wp2_with fail
          go_big_quiet (first | (go_at_call 79; refine Calls.quiet_of_same (less_any _ _ _)))
          by_cases hl : So.lt (G a) (G k) = false
          · rw [hl]
            have hst := HK2.out
            rw [← scanUp_step hle (by show _ = true; rw [← HG.out, ← HG.out, hl]; rfl)] at hst
            have HN := Lib.hid hst
            clear hst
            go_wp2_with fail
            go_roundw
            case rel => exact ⟨k + 1, by go_num, by omega, by omega, Lib.hid (HK1.out.draws nq), HN⟩
            case measure => (simp [intOf]; try omega)
          · have hl2 : So.lt (G a) (G k) = true := by simpa using hl
            rw [hl2]
            have hst := HK2.out
            rw [scanUp_end (.inr (by show _ = false; rw [← HG.out, ← HG.out, hl2]; rfl))] at hst
            have HN := Lib.hid hst
            clear hst
            go_wp2_with fail
            go_meet
            case rel => exact ⟨by rw [HN.out], Lib.hid (HK1.out.draws nq)⟩
        · have hlei : ¬ (k : Int) ≤ (j : Int) := by omega
          have hled : decide ((k : Int) ≤ (j : Int)) = false := decide_eq_false hlei
          have hst := HK2.out
          rw [scanUp_end (.inl hle)] at hst
          have HN := Lib.hid hst
          clear hst
          go_wp2_with fail
          go_big_quiet (first | (go_at_call 79; refine Calls.quiet_of_same (less_any _ _ _)))
          go_wp2_with fail
          go_meet
          case rel => exact ⟨by rw [HN.out], Lib.hid (HK1.out.draws nq)⟩
    case rest =>
      obtain ⟨rfl, HW5⟩ := hcut
      clear HWk
      go_step
      go_step
      go_cut [10] from 29 to 82 (fun v wr => v = .int .i64 (J2 : Int) ∧ RowKit.Hid (So.Is w g off dk wr))
      case first =>
        go_wp2_with fail
        go_loopw [10] (fun v wr => ∃ (k : Nat), v = .int .i64 (k : Int) ∧ k ≤ j ∧ I2 ≤ k + 1 ∧ RowKit.Hid (So.Is w g off dk wr) ∧ RowKit.Hid (scanDown (fun x => So.lt dk[a]! x) dk I2 k = J2)) (fun v _ => (intOf v).toNat)
        case atStart => exact ⟨j, by go_num, by omega, by omega, HW5, HJ2⟩
        case round =>
          obtain ⟨k, rfl, hk1, hk2, HK1, HK2⟩ := hrel
          obtain ⟨G, hG, hcw, hfw⟩ := HK1.out.fam HH.out hn hsk
          have HG := Lib.hid hG
          clear hG
          by_cases hle : I2 ≤ k
          · have hlei : (I2 : Int) ≤ (k : Int) := by omega
            go_wp2_with fail
            go_big_quiet (first | (go_at_call 79; refine Calls.quiet_of_same (less_any _ _ _)))
            by_cases hl : So.lt (G a) (G k) = true
            · rw [hl]
              have hst := HK2.out
              rw [← scanDown_step hle (by omega) (by show _ = true; rw [← HG.out, ← HG.out, hl])] at hst
              have HN := Lib.hid hst
              clear hst
              go_wp2_with fail
              go_roundw
              case rel => exact ⟨k - 1, by go_num, by omega, by omega, Lib.hid (HK1.out.draws nq), HN⟩
              case measure => (simp [intOf]; try omega)
            · have hl2 : So.lt (G a) (G k) = false := by simpa using hl
              rw [hl2]
              have hst := HK2.out
              rw [scanDown_end (.inr (by show _ = false; rw [← HG.out, ← HG.out, hl2]))] at hst
              have HN := Lib.hid hst
              clear hst
              go_wp2_with fail
              go_meet
              case rel => exact ⟨by rw [HN.out], Lib.hid (HK1.out.draws nq)⟩
          · have hlei : ¬ (I2 : Int) ≤ (k : Int) := by omega
            have hled : decide ((I2 : Int) ≤ (k : Int)) = false := decide_eq_false hlei
            have hst := HK2.out
            rw [scanDown_end (.inl hle)] at hst
            have HN := Lib.hid hst
            clear hst
            go_wp2_with fail
            go_big_quiet (first | (go_at_call 79; refine Calls.quiet_of_same (less_any _ _ _)))
            go_wp2_with fail
            go_meet
            case rel => exact ⟨by rw [HN.out], Lib.hid (HK1.out.draws nq)⟩
      case rest =>
        obtain ⟨rfl, HW6⟩ := hcut
        clear HW5
        obtain ⟨G2, hG2, hcw, hfw⟩ := HW6.out.fam HH.out hn hsk
        have HG2 := Lib.hid hG2
        clear hG2
        by_cases hIJ3 : I2 > J2
        · have hIJi3 : (I2 : Int) > (J2 : Int) := by omega
          have hfin := peloop_stop HI2.out HJ2.out hIJ3
          rw [HMk.out, Prod.mk.injEq] at hfin
          obtain ⟨hm1, hd2⟩ := hfin
          have HF := Lib.hid (And.intro hm1 hd2)
          clear hm1 hd2 hcw hfw
          go_wp2_with fail
          go_ret
          rw [HP.out, HF.out.1, HF.out.2]
          exact ⟨rfl, HW6.out⟩
        · have hIJi3 : ¬ (I2 : Int) > (J2 : Int) := by omega
          have hap3 := scans_apart (q := fun x => So.lt dk[a]! x) (fun x => by simp) HI2.out HJ2.out (by omega) hIJ3
          obtain ⟨z, hz⟩ := cell_behind (w := wc) (p := ⟨g, off + I2, none⟩) (x := .int .u32 (nb32 (G2 J2))) (hcw J2 (by omega))
          have hgo := peloop_go HI2.out HJ2.out hIJ3
          rw [HMk.out] at hgo
          have HF := Lib.hid hgo.symm
          have hJ2i : IntKind.i64.wrap ((J2 : Int) - 1) = (J2 : Int) - 1 := IntWalk.i64_in _ (by omega)
          clear hgo
          go_wp2_with fail
          go_region
          have hsw := HW6.out.swap (i := I2) (j := J2) (by omega) (by omega) 1
          rw [← HG2.out, ← HG2.out] at hsw
          have HW7 := Lib.hid hsw
          clear hsw hcw hfw hz
          go_wp2_with fail
          go_roundw
          case rel => exact ⟨I2 + 1, J2 - 1, swp dk I2 J2, by go_num, by go_num, by omega, by omega, by omega, by rw [size_swp]; exact hsk, HW7, HF⟩
          case measure => (simp [intOf]; try omega)
end Go.Proofs.Ytlackhjlnoefcaa
