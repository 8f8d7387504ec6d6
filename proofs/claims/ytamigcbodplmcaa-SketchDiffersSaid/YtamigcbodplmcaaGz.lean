/- Blocks of memory that are known whole. Nothing of the program. · Unsigned machine integers as bit vectors: a wrapper for the value and the walk's rules over it. Nothing of the program. · The field's functions as functions of bit vectors. Nothing of the program. · What the plain functions of package gf answer. · The field of 2^32 elements: products, squares, powers, inverses, traces, by linear maps. Nothing of the program. · Powers, inverses, roots, traces and solutions of package gf. · Tables and sums of package gf. · Slices of integers that came in. Nothing of the program. · The reference's product, and sums. · Euclid's way to an inverse: what it keeps. Nothing of the program but the reference's rest as a function. · The reference's powers and traces. · The statements of layer 1 walked: that the elements are a field; squares, roots, powers; traces and solutions. · The reference's inverse walked; the statement GfPowers of layer 1. -/
import Derived.WalkKit
import Derived.Below
import Derived.Deep.Draws
import Derived.Deep.MidRow
import Derived.Test.YtamigcbodplmcaaRows
import Derived.ProofKit
import Derived.Lib.Hide
import Derived.Deep.RegionWith
import Derived.BigQuiet
import Derived.Deep.QuietTactic
import Derived.Deep.RegionHeld3
import Derived.IntWalk
import Derived.OpenShut
/-! Blocks of memory that are known whole. Nothing of the program. -/
namespace Go.Proofs.Ytamigcbodplmcaa
open Go Go.RowKit

/-- block g consists of just these cells, of element type t, none of them frozen -/
def Has (w : World) (g : Nat) (t : TypeId) (cs : Array Value) : Prop := w.heap[g]? = some (.cells cs t (0, 0))
section
variable {w w' : World} {g : Nat} {t : TypeId} {cs : Array Value}
theorem Has.lt (h : Has w g t cs) : g < w.heap.size := (Array.getElem?_eq_some_iff.1 h).1
theorem Has.cell (h : Has w g t cs) (i : Nat) : w.cell? ⟨g, i, none⟩ = cs[i]? := cell_of_row w g i cs t (0, 0) h
theorem Has.cell_at (h : Has w g t cs) {i : Nat} {v : Value} (hv : cs[i]? = some v) : w.cell? ⟨g, i, none⟩ = some v := (h.cell i).trans hv
theorem Has.loose (h : Has w g t cs) (i : Nat) : w.frozen? ⟨g, i, none⟩ = false := by
  unfold Has at h; simp [World.frozen?, h]
theorem Has.fresh (w : World) (t : TypeId) (cs : Array Value) : Has (w.alloc (.cells cs t)) w.heap.size t cs := heap_alloc_new w _
theorem Has.fresh_at {n : Nat} (w : World) (t : TypeId) (cs : Array Value) (hn : n = w.heap.size) : Has (w.alloc (.cells cs t)) n t cs := by subst hn; exact Has.fresh w t cs
theorem Has.draw (h : Has w g t cs) : Has w.drew g t cs := h
theorem Has.draws (h : Has w g t cs) (n : Nat) : Has (w.drewN n) g t cs := h
theorem Has.past (h : Has w g t cs) (o : Obj) : Has (w.alloc o) g t cs := (Below.heap_alloc w o g h.lt).trans h
theorem Has.put (h : Has w g t cs) (i : Nat) (u : Value) : Has (w.setCell ⟨g, i, none⟩ u) g t (cs.setIfInBounds i u) := by
  unfold Has at h ⊢
  simp [World.setCell, Array.getElem?_modify, h]
theorem Has.aside (h : Has w g t cs) {p : Addr} (hp : g ≠ p.block) (u : Value) : Has (w.setCell p u) g t cs := (Below.heap_setCell w p u g hp).trans h
theorem Has.under {B : Nat} (h : Has w g t cs) (hb : Below B w w') (hg : g < B) : Has w' g t cs := (hb.block g hg).trans h
end
theorem below_draws {B : Nat} {a w : World} (h : Below B a w) (n : Nat) : Below B a (w.drewN n) := ⟨h.os, h.tape, h.output, h.size, h.block⟩
theorem below_cells {W w1 : World} (hb : Below W.heap.size W w1) : ∀ b o, b < W.heap.size → w1.cell? ⟨b, o, none⟩ = W.cell? ⟨b, o, none⟩ := fun b o h => hb.cell (p := ⟨b, o, none⟩) h
theorem below_loose {W w1 : World} (hb : Below W.heap.size W w1) : ∀ b o, b < W.heap.size → w1.frozen? ⟨b, o, none⟩ = W.frozen? ⟨b, o, none⟩ := fun b o h => hb.frozen (p := ⟨b, o, none⟩) h

/-- the world but for the draws of an order -/
def Drawn (w w' : World) : Prop := ∃ n, w' = w.drewN n
theorem Drawn.refl (w : World) : Drawn w w := ⟨0, rfl⟩
theorem Drawn.drew {w w' : World} (h : Drawn w w') : Drawn w w'.drew := by
  obtain ⟨n, rfl⟩ := h
  exact ⟨n + 1, (World.drewN_drewN w n 1).symm⟩
theorem Drawn.draws {w w' : World} (h : Drawn w w') (m : Nat) : Drawn w (w'.drewN m) := by
  obtain ⟨n, rfl⟩ := h
  exact ⟨n + m, World.drewN_drewN w n m⟩
theorem Drawn.trans {a b c : World} (h : Drawn a b) (k : Drawn b c) : Drawn a c := by
  obtain ⟨m, rfl⟩ := k
  exact h.draws m
theorem Drawn.below {w w' : World} (h : Drawn w w') (B : Nat) : Below B w w' := by
  obtain ⟨n, rfl⟩ := h
  exact below_draws (Below.refl _ _) n
theorem Has.drawn {w w' : World} {g : Nat} {t : TypeId} {cs : Array Value} (h : Has w g t cs) (hd : Drawn w w') : Has w' g t cs := by
  obtain ⟨n, rfl⟩ := hd
  exact h

/-- n cells, the j-th is f j -/
def cellsOf (n : Nat) (f : Nat → Value) : Array Value := ((List.range n).map f).toArray
theorem cellsOf_size (n : Nat) (f : Nat → Value) : (cellsOf n f).size = n := by simp [cellsOf]
theorem cellsOf_at {n : Nat} (f : Nat → Value) {i : Nat} (h : i < n) : (cellsOf n f)[i]? = some (f i) := by
  simp [cellsOf, h]
theorem cellsOf_put {n : Nat} (f g : Nat → Value) (i : Nat) (v : Value) (hi : g i = v) (hg : ∀ j, j < n → j ≠ i → g j = f j) : (cellsOf n f).setIfInBounds i v = cellsOf n g := by
  apply Array.ext_getElem?
  intro j
  rw [Array.getElem?_setIfInBounds, cellsOf_size]
  rcases Nat.lt_or_ge j n with h | h
  · rw [cellsOf_at f h, cellsOf_at g h]
    by_cases e : i = j
    · subst e
      simp [h, hi]
    · simp [e, hg j h (fun x => e x.symm)]
  · have e1 : (cellsOf n f)[j]? = none := Array.getElem?_eq_none (by rw [cellsOf_size]; exact h)
    have e2 : (cellsOf n g)[j]? = none := Array.getElem?_eq_none (by rw [cellsOf_size]; exact h)
    rw [e1, e2]
    by_cases e : i = j
    · subst e
      simp; omega
    · simp [e]
theorem cellsOf_congr {n : Nat} {f g : Nat → Value} (h : ∀ j, j < n → f j = g j) : cellsOf n f = cellsOf n g := by
  unfold cellsOf
  congr 1
  exact List.map_congr_left fun j hj => h j (List.mem_range.1 hj)
/-! whole arrays in a block -/
def putAll (cs : Array Value) (o : Nat) : List Value → Array Value
  | [] => cs
  | v :: r => putAll (cs.setIfInBounds o v) (o + 1) r
theorem Has.putAll {t : TypeId} {g : Nat} : ∀ (vs : List Value) {w : World} {cs : Array Value} (o : Nat), Has w g t cs → Has (w.setCells g o vs) g t (putAll cs o vs)
  | [], _, _, _, h => h
  | v :: r, _, _, o, h => Has.putAll r (o + 1) (h.put o v)
theorem Has.asideAll {t : TypeId} {g g' : Nat} (hg : g ≠ g') : ∀ (vs : List Value) {w : World} {cs : Array Value} (o : Nat), Has w g t cs → Has (w.setCells g' o vs) g t cs
  | [], _, _, _, h => h
  | v :: r, _, _, o, h => Has.asideAll hg r (o + 1) (h.aside (p := ⟨g', o, none⟩) hg v)
theorem below_setAll {B g : Nat} {a : World} (hg : B ≤ g) : ∀ (vs : List Value) {w : World} (o : Nat), Below B a w → Below B a (w.setCells g o vs)
  | [], _, _, h => h
  | v :: r, _, o, h => below_setAll hg r (o + 1) (h.setCell (p := ⟨g, o, none⟩) hg v)
theorem putAll_cellsOf {n : Nat} (g : Nat → Value) : ∀ (vs : List Value) (o : Nat) (f : Nat → Value), (∀ i v, vs[i]? = some v → g (o + i) = v) → (∀ j, j < n → (j < o ∨ o + vs.length ≤ j) → g j = f j) →
    putAll (cellsOf n f) o vs = cellsOf n g
  | [], o, f, _, h2 => cellsOf_congr fun j hj => (h2 j hj (by simp; omega)).symm
  | v :: r, o, f, h1, h2 => by
    have hv : g o = v := h1 0 v rfl
    rw [putAll, cellsOf_put f (fun j => if j = o then v else f j) o v (by simp) (fun j _ hne => by simp [hne])]
    refine putAll_cellsOf g r (o + 1) _ (fun i u hu => ?_) (fun j hj hh => ?_)
    · have := h1 (i + 1) u hu
      rwa [show o + 1 + i = o + (i + 1) from by omega]
    · by_cases e : j = o
      · subst e; simp [hv]
      · rw [if_neg e]
        refine h2 j hj ?_
        rcases hh with hh | hh
        · left; omega
        · right; simp only [List.length_cons]; omega
theorem Has.range {w : World} {g : Nat} {t : TypeId} {cs : Array Value} (h : Has w g t cs) : w.rangeAt g 0 cs.toList := fun j v hv => by
  rw [Nat.zero_add, h.cell j, ← hv, Array.getElem?_toList]
theorem Has.there {w : World} {g : Nat} {t : TypeId} {cs : Array Value} (h : Has w g t cs) (o n : Nat) (hn : o + n ≤ cs.size) : w.there g o n := fun j hj => by
  refine ⟨?_, h.loose _⟩
  rw [h.cell, Array.getElem?_eq_getElem (by omega)]
  rfl
theorem run_zero {P : Program} {t : TypeId} {z : Value} (h : (P.info? t).bind (·.zero) = some z) (w : World) : (zeroValue t).run P w = .ok z w := by
  cases hi : P.info? t with
  | none => rw [hi] at h; cases h
  | some i =>
    rw [hi] at h
    have hz : i.zero = some z := h
    simp [zeroValue, typeInfo, hi, hz]
theorem cellsOf_ne {n : Nat} (hn : 0 < n) (f : Nat → Value) : cellsOf n f ≠ #[] := by
  intro h
  have := cellsOf_size n f
  rw [h] at this
  simp at this
  omega
theorem results_one_cell {P : Program} {fn : Func} {p : Tmp} {ty : TypeId} (h : fn.results = #[.cell p ty]) (tmps : Array Value) (w : World) (g : Nat) (hp : tmps.getD p undef = .pointer (some ⟨g, 0, none⟩))
    (v : Value) (hv : (loadVar ty ⟨g, 0, none⟩).run P w = .ok v w) : (results fn tmps).run P w = .ok v w := by
  rw [Array.getD_eq_getD_getElem?] at hp
  simp only [results, h]
  simp [hp, hv, asAddr]
end Go.Proofs.Ytamigcbodplmcaa

/-! Unsigned machine integers as bit vectors: a wrapper for the value and the walk's rules over it. Nothing of the program. -/
namespace Go.Proofs.Ytamigcbodplmcaa
open Go

/-- the number of a bit vector, closed to the walk -/
def nb8 (x : BitVec 8) : Int := x.toNat
def nb32 (x : BitVec 32) : Int := x.toNat
def nb64 (x : BitVec 64) : Int := x.toNat

theorem u32_wf (x : BitVec 32) : (Lit.int .u32 (nb32 x)).wf = true := by
  have := x.isLt
  simp [Lit.wf, nb32, IntKind.min, IntKind.max, IntKind.bits, IntKind.signed]
  omega

theorem u32_of_bounds {a : Int} (h0 : 0 ≤ a) (h1 : a < 4294967296) : ∃ x : BitVec 32, a = nb32 x := by
  obtain ⟨n, rfl⟩ := Int.eq_ofNat_of_zero_le h0
  exact ⟨BitVec.ofNat 32 n, by simp only [nb32, BitVec.toNat_ofNat]; omega⟩
theorem u64_of_bounds {a : Int} (h0 : 0 ≤ a) (h1 : a < 18446744073709551616) : ∃ x : BitVec 64, a = nb64 x := by
  obtain ⟨n, rfl⟩ := Int.eq_ofNat_of_zero_le h0
  exact ⟨BitVec.ofNat 64 n, by simp only [nb64, BitVec.toNat_ofNat]; omega⟩

@[go_sem] theorem u32_toNat (x : BitVec 32) : (nb32 x).toNat = x.toNat := rfl
@[go_sem] theorem u64_toNat (x : BitVec 64) : (nb64 x).toNat = x.toNat := rfl
theorem u32_nonneg (x : BitVec 32) : 0 ≤ nb32 x := by simp [nb32]
theorem u32_lt (x : BitVec 32) : nb32 x < 4294967296 := by have := x.isLt; simp only [nb32]; omega
theorem u64_nonneg (x : BitVec 64) : 0 ≤ nb64 x := by simp [nb64]
theorem u64_lt (x : BitVec 64) : nb64 x < 18446744073709551616 := by have := x.isLt; simp only [nb64]; omega

theorem u32_inj {x y : BitVec 32} : nb32 x = nb32 y ↔ x = y := by
  simp only [nb32, Int.natCast_inj, BitVec.toNat_inj]
theorem u64_inj {x y : BitVec 64} : nb64 x = nb64 y ↔ x = y := by
  simp only [nb64, Int.natCast_inj, BitVec.toNat_inj]

@[go_sem high] theorem u32_beq (x y : BitVec 32) : (nb32 x == nb32 y) = (x == y) := by
  rw [Bool.eq_iff_iff]; simp [u32_inj]
@[go_sem high] theorem u64_beq (x y : BitVec 64) : (nb64 x == nb64 y) = (x == y) := by
  rw [Bool.eq_iff_iff]; simp [u64_inj]
@[go_sem high] theorem u32_bne (x y : BitVec 32) : (nb32 x != nb32 y) = (x != y) := by simp only [bne, u32_beq]
@[go_sem high] theorem u64_bne (x y : BitVec 64) : (nb64 x != nb64 y) = (x != y) := by simp only [bne, u64_beq]

@[go_sem high] theorem u32_beq_l (x : BitVec 32) (n : Nat) (h : n < 4294967296) : (nb32 x == (no_index (OfNat.ofNat n) : Int)) = (x == BitVec.ofNat 32 n) := by
  have e : ((OfNat.ofNat n : Int)) = nb32 (BitVec.ofNat 32 n) := by simp only [nb32, BitVec.toNat_ofNat]; show (n : Int) = _; omega
  rw [e, u32_beq]
@[go_sem high] theorem u64_beq_l (x : BitVec 64) (n : Nat) (h : n < 18446744073709551616) : (nb64 x == (no_index (OfNat.ofNat n) : Int)) = (x == BitVec.ofNat 64 n) := by
  have e : ((OfNat.ofNat n : Int)) = nb64 (BitVec.ofNat 64 n) := by simp only [nb64, BitVec.toNat_ofNat]; show (n : Int) = _; omega
  rw [e, u64_beq]
@[go_sem high] theorem u32_bne_l (x : BitVec 32) (n : Nat) (h : n < 4294967296) : (nb32 x != (no_index (OfNat.ofNat n) : Int)) = (x != BitVec.ofNat 32 n) := by simp only [bne, u32_beq_l x n h]
@[go_sem high] theorem u64_bne_l (x : BitVec 64) (n : Nat) (h : n < 18446744073709551616) : (nb64 x != (no_index (OfNat.ofNat n) : Int)) = (x != BitVec.ofNat 64 n) := by simp only [bne, u64_beq_l x n h]
@[go_sem high] theorem u32_pos (x : BitVec 32) : (0 < nb32 x) = (x ≠ 0#32) := by
  rw [Ne, ← u32_inj]; simp only [nb32, BitVec.toNat_ofNat, eq_iff_iff]; omega
@[go_sem high] theorem u64_pos (x : BitVec 64) : (0 < nb64 x) = (x ≠ 0#64) := by
  rw [Ne, ← u64_inj]; simp only [nb64, BitVec.toNat_ofNat, eq_iff_iff]; omega
theorem u32_lit (n : Nat) (h : n < 4294967296) : (n : Int) = nb32 (BitVec.ofNat 32 n) := by
  simp only [nb32, BitVec.toNat_ofNat]; omega
theorem u64_lit (n : Nat) (h : n < 18446744073709551616) : (n : Int) = nb64 (BitVec.ofNat 64 n) := by
  simp only [nb64, BitVec.toNat_ofNat]; omega

section
variable (t : TypeId)
theorem ofInt_u32v (x : BitVec 32) : BitVec.ofInt 32 (nb32 x) = x := by
  simp only [nb32, BitVec.ofInt_natCast, BitVec.ofNat_toNat, BitVec.setWidth_eq]
theorem ofInt_u64v (x : BitVec 64) : BitVec.ofInt 64 (nb64 x) = x := by
  simp only [nb64, BitVec.ofInt_natCast, BitVec.ofNat_toNat, BitVec.setWidth_eq]
theorem wrap_u32v (x : BitVec 32) : IntKind.u32.wrap (x.toNat : Int) = nb32 x := by
  have := x.isLt
  rw [IntKind.wrap_u32']; simp only [nb32]; omega
theorem wrap_u64v (x : BitVec 64) : IntKind.u64.wrap (x.toNat : Int) = nb64 x := by
  have := x.isLt
  rw [IntKind.wrap_u64]; simp only [nb64]; omega

@[go_sem high] theorem u32_xor_v (x y : BitVec 32) : binOp .xor t (.int .u32 (nb32 x)) (.int .u32 (nb32 y)) = pure (.int .u32 (nb32 (x ^^^ y))) := by
  rw [binOp_xor, intBits_xor]; show pure (Value.int .u32 (IntKind.u32.wrap (((BitVec.ofInt 32 (nb32 x) ^^^ BitVec.ofInt 32 (nb32 y)).toNat : Nat) : Int))) = _
  rw [ofInt_u32v, ofInt_u32v, wrap_u32v]
@[go_sem high] theorem u32_and_v (x y : BitVec 32) : binOp .and t (.int .u32 (nb32 x)) (.int .u32 (nb32 y)) = pure (.int .u32 (nb32 (x &&& y))) := by
  rw [binOp_and, intBits_and]; show pure (Value.int .u32 (IntKind.u32.wrap (((BitVec.ofInt 32 (nb32 x) &&& BitVec.ofInt 32 (nb32 y)).toNat : Nat) : Int))) = _
  rw [ofInt_u32v, ofInt_u32v, wrap_u32v]
@[go_sem high] theorem u32_or_v (x y : BitVec 32) : binOp .or t (.int .u32 (nb32 x)) (.int .u32 (nb32 y)) = pure (.int .u32 (nb32 (x ||| y))) := by
  rw [binOp_or, intBits_or]; show pure (Value.int .u32 (IntKind.u32.wrap (((BitVec.ofInt 32 (nb32 x) ||| BitVec.ofInt 32 (nb32 y)).toNat : Nat) : Int))) = _
  rw [ofInt_u32v, ofInt_u32v, wrap_u32v]
@[go_sem high] theorem u64_xor_v (x y : BitVec 64) : binOp .xor t (.int .u64 (nb64 x)) (.int .u64 (nb64 y)) = pure (.int .u64 (nb64 (x ^^^ y))) := by
  rw [binOp_xor, intBits_xor]; show pure (Value.int .u64 (IntKind.u64.wrap (((BitVec.ofInt 64 (nb64 x) ^^^ BitVec.ofInt 64 (nb64 y)).toNat : Nat) : Int))) = _
  rw [ofInt_u64v, ofInt_u64v, wrap_u64v]
@[go_sem high] theorem u64_and_v (x y : BitVec 64) : binOp .and t (.int .u64 (nb64 x)) (.int .u64 (nb64 y)) = pure (.int .u64 (nb64 (x &&& y))) := by
  rw [binOp_and, intBits_and]; show pure (Value.int .u64 (IntKind.u64.wrap (((BitVec.ofInt 64 (nb64 x) &&& BitVec.ofInt 64 (nb64 y)).toNat : Nat) : Int))) = _
  rw [ofInt_u64v, ofInt_u64v, wrap_u64v]
@[go_sem high] theorem u64_or_v (x y : BitVec 64) : binOp .or t (.int .u64 (nb64 x)) (.int .u64 (nb64 y)) = pure (.int .u64 (nb64 (x ||| y))) := by
  rw [binOp_or, intBits_or]; show pure (Value.int .u64 (IntKind.u64.wrap (((BitVec.ofInt 64 (nb64 x) ||| BitVec.ofInt 64 (nb64 y)).toNat : Nat) : Int))) = _
  rw [ofInt_u64v, ofInt_u64v, wrap_u64v]
end

section
variable (t : TypeId)
theorem ofInt_nat (k n : Nat) : BitVec.ofInt k (n : Int) = BitVec.ofNat k n := by rw [BitVec.ofInt_natCast]
theorem lit_nat (n : Nat) : (no_index (OfNat.ofNat n) : Int) = (n : Int) := rfl
@[go_sem high] theorem u32_xor_l (x : BitVec 32) (n : Nat) : binOp .xor t (.int .u32 (nb32 x)) (.int .u32 (no_index (OfNat.ofNat n))) = pure (.int .u32 (nb32 (x ^^^ BitVec.ofNat 32 n))) := by
  rw [binOp_xor, intBits_xor]; show pure (Value.int .u32 (IntKind.u32.wrap (((BitVec.ofInt 32 (nb32 x) ^^^ BitVec.ofInt 32 (n : Int)).toNat : Nat) : Int))) = _
  rw [ofInt_u32v, ofInt_nat, wrap_u32v]
@[go_sem high] theorem u32_and_l (x : BitVec 32) (n : Nat) : binOp .and t (.int .u32 (nb32 x)) (.int .u32 (no_index (OfNat.ofNat n))) = pure (.int .u32 (nb32 (x &&& BitVec.ofNat 32 n))) := by
  rw [binOp_and, intBits_and]; show pure (Value.int .u32 (IntKind.u32.wrap (((BitVec.ofInt 32 (nb32 x) &&& BitVec.ofInt 32 (n : Int)).toNat : Nat) : Int))) = _
  rw [ofInt_u32v, ofInt_nat, wrap_u32v]
@[go_sem high] theorem u32_andNot_l (x : BitVec 32) (n : Nat) : binOp .andNot t (.int .u32 (nb32 x)) (.int .u32 (no_index (OfNat.ofNat n))) = pure (.int .u32 (nb32 (x &&& ~~~(BitVec.ofNat 32 n)))) := by
  rw [binOp_andNot]; show pure (Value.int .u32 (IntKind.u32.wrap (((BitVec.ofInt 32 (nb32 x) &&& ~~~(BitVec.ofInt 32 (n : Int))).toNat : Nat) : Int))) = _
  rw [ofInt_u32v, ofInt_nat, wrap_u32v]
@[go_sem high] theorem u64_xor_l (x : BitVec 64) (n : Nat) : binOp .xor t (.int .u64 (nb64 x)) (.int .u64 (no_index (OfNat.ofNat n))) = pure (.int .u64 (nb64 (x ^^^ BitVec.ofNat 64 n))) := by
  rw [binOp_xor, intBits_xor]; show pure (Value.int .u64 (IntKind.u64.wrap (((BitVec.ofInt 64 (nb64 x) ^^^ BitVec.ofInt 64 (n : Int)).toNat : Nat) : Int))) = _
  rw [ofInt_u64v, ofInt_nat, wrap_u64v]
@[go_sem high] theorem u64_and_l (x : BitVec 64) (n : Nat) : binOp .and t (.int .u64 (nb64 x)) (.int .u64 (no_index (OfNat.ofNat n))) = pure (.int .u64 (nb64 (x &&& BitVec.ofNat 64 n))) := by
  rw [binOp_and, intBits_and]; show pure (Value.int .u64 (IntKind.u64.wrap (((BitVec.ofInt 64 (nb64 x) &&& BitVec.ofInt 64 (n : Int)).toNat : Nat) : Int))) = _
  rw [ofInt_u64v, ofInt_nat, wrap_u64v]
end

section
variable (t : TypeId)
@[go_sem high] theorem u64_add_v (x y : BitVec 64) : binOp .add t (.int .u64 (nb64 x)) (.int .u64 (nb64 y)) = pure (.int .u64 (nb64 (x + y))) := by
  rw [binOp_add]; show pure (Value.int .u64 (IntKind.u64.wrap (nb64 x + nb64 y))) = _
  congr 2
@[go_sem high] theorem u32_add_v (x y : BitVec 32) : binOp .add t (.int .u32 (nb32 x)) (.int .u32 (nb32 y)) = pure (.int .u32 (nb32 (x + y))) := by
  rw [binOp_add]; show pure (Value.int .u32 (IntKind.u32.wrap (nb32 x + nb32 y))) = _
  congr 2
@[go_sem high] theorem u64_mul_lv (y : BitVec 64) (n : Nat) : binOp .mul t (.int .u64 (no_index (OfNat.ofNat n))) (.int .u64 (nb64 y)) = pure (.int .u64 (nb64 (BitVec.ofNat 64 n * y))) := by
  rw [binOp_mul]; show pure (Value.int .u64 (IntKind.u64.wrap ((n : Int) * nb64 y))) = _
  congr 2
  have e : (BitVec.ofNat 64 n * y).toNat = (n * y.toNat) % 2 ^ 64 := by rw [BitVec.toNat_mul, BitVec.toNat_ofNat, Nat.mod_mul_mod]
  rw [IntKind.wrap_u64]
  show (n : Int) * ((y.toNat : Nat) : Int) % _ = (((BitVec.ofNat 64 n * y).toNat : Nat) : Int)
  rw [e]
  rfl
@[go_sem high] theorem u32_sub_v (x y : BitVec 32) : binOp .sub t (.int .u32 (nb32 x)) (.int .u32 (nb32 y)) = pure (.int .u32 (nb32 (x - y))) := by
  rw [binOp_sub]; show pure (Value.int .u32 (IntKind.u32.wrap (nb32 x - nb32 y))) = _
  congr 2
  rw [IntKind.wrap_u32']
  simp only [nb32, BitVec.toNat_sub]
  have := x.isLt
  have := y.isLt
  omega
end

/-! shifts -/
theorem shl_nat (k x n : Nat) : (x * 2 ^ (min n k)) % 2 ^ k = (x <<< n) % 2 ^ k := by
  rw [Nat.shiftLeft_eq]
  rcases Nat.le_total n k with h | h
  · rw [Nat.min_eq_left h]
  · rw [Nat.min_eq_right h, Nat.mul_mod_left]
    obtain ⟨d, rfl⟩ := Nat.exists_eq_add_of_le h
    rw [Nat.pow_add, ← Nat.mul_assoc, Nat.mul_right_comm, Nat.mul_mod_left]
theorem shr_nat (k x n : Nat) (hx : x < 2 ^ k) : x / 2 ^ (min n k) = x >>> n := by
  rw [Nat.shiftRight_eq_div_pow]
  rcases Nat.le_total n k with h | h
  · rw [Nat.min_eq_left h]
  · rw [Nat.min_eq_right h, Nat.div_eq_of_lt hx, Nat.div_eq_of_lt (Nat.lt_of_lt_of_le hx (Nat.pow_le_pow_right (by omega) h))]

theorem shl_int (x k m : Nat) : (((x : Nat) : Int) * 2 ^ k) % ((m : Nat) : Int) = ((x * 2 ^ k % m : Nat) : Int) := by norm_cast
theorem shr_int (x k : Nat) : ((x : Nat) : Int).fdiv (2 ^ k) = ((x / 2 ^ k : Nat) : Int) := by
  rw [Int.fdiv_eq_ediv_of_nonneg _ (Int.le_of_lt (Int.pow_pos (by omega)))]
  norm_cast
theorem emod_mul_left (c x m : Int) : (c % m * x) % m = (c * x) % m := by
  rw [Int.mul_emod, Int.emod_emod_of_dvd _ (Int.dvd_refl m), ← Int.mul_emod]
section
variable (t : TypeId) (yk : IntKind)
theorem u32_shl_n (x : BitVec 32) (n : Nat) : binOp .shl t (.int .u32 (nb32 x)) (.int yk (n : Int)) = pure (.int .u32 (nb32 (x <<< n))) := by
  have h := shl_nat 32 x.toNat n
  have hn : ¬ ((n : Int) < 0) := by omega
  rw [binOp_shl]; unfold Op.shift; rw [if_neg hn, Int.toNat_natCast]
  show pure (Value.int .u32 (IntKind.u32.wrap (nb32 x * 2 ^ (min n 32)))) = _
  congr 2
  rw [IntKind.wrap_u32', show nb32 (x <<< n) = ((x.toNat <<< n % 2 ^ 32 : Nat) : Int) from by simp only [nb32, BitVec.toNat_shiftLeft], ← h]
  exact shl_int x.toNat (min n 32) _
theorem u64_shl_n (x : BitVec 64) (n : Nat) : binOp .shl t (.int .u64 (nb64 x)) (.int yk (n : Int)) = pure (.int .u64 (nb64 (x <<< n))) := by
  have h := shl_nat 64 x.toNat n
  have hn : ¬ ((n : Int) < 0) := by omega
  rw [binOp_shl]; unfold Op.shift; rw [if_neg hn, Int.toNat_natCast]
  show pure (Value.int .u64 (IntKind.u64.wrap (nb64 x * 2 ^ (min n 64)))) = _
  congr 2
  rw [IntKind.wrap_u64, show nb64 (x <<< n) = ((x.toNat <<< n % 2 ^ 64 : Nat) : Int) from by simp only [nb64, BitVec.toNat_shiftLeft], ← h]
  exact shl_int x.toNat (min n 64) _
theorem u32_shr_n (x : BitVec 32) (n : Nat) : binOp .shr t (.int .u32 (nb32 x)) (.int yk (n : Int)) = pure (.int .u32 (nb32 (x >>> n))) := by
  have h := shr_nat 32 x.toNat n x.isLt
  have hn : ¬ ((n : Int) < 0) := by omega
  rw [binOp_shr]; unfold Op.shift; rw [if_neg hn, Int.toNat_natCast]
  show pure (Value.int .u32 ((nb32 x).fdiv (2 ^ (min n 32)))) = _
  congr 2
  rw [show nb32 (x >>> n) = ((x.toNat >>> n : Nat) : Int) from by simp only [nb32, BitVec.toNat_ushiftRight], ← h]
  exact shr_int x.toNat (min n 32)
theorem u64_shr_n (x : BitVec 64) (n : Nat) : binOp .shr t (.int .u64 (nb64 x)) (.int yk (n : Int)) = pure (.int .u64 (nb64 (x >>> n))) := by
  have h := shr_nat 64 x.toNat n x.isLt
  have hn : ¬ ((n : Int) < 0) := by omega
  rw [binOp_shr]; unfold Op.shift; rw [if_neg hn, Int.toNat_natCast]
  show pure (Value.int .u64 ((nb64 x).fdiv (2 ^ (min n 64)))) = _
  congr 2
  rw [show nb64 (x >>> n) = ((x.toNat >>> n : Nat) : Int) from by simp only [nb64, BitVec.toNat_ushiftRight], ← h]
  exact shr_int x.toNat (min n 64)
attribute [go_sem high] u32_shl_n u64_shl_n u32_shr_n u64_shr_n
@[go_sem high] theorem u32_shl_l (x : BitVec 32) (n : Nat) : binOp .shl t (.int .u32 (nb32 x)) (.int yk (no_index (OfNat.ofNat n))) = pure (.int .u32 (nb32 (x <<< n))) := u32_shl_n t yk x n
@[go_sem high] theorem u64_shl_l (x : BitVec 64) (n : Nat) : binOp .shl t (.int .u64 (nb64 x)) (.int yk (no_index (OfNat.ofNat n))) = pure (.int .u64 (nb64 (x <<< n))) := u64_shl_n t yk x n
@[go_sem high] theorem u32_shr_l (x : BitVec 32) (n : Nat) : binOp .shr t (.int .u32 (nb32 x)) (.int yk (no_index (OfNat.ofNat n))) = pure (.int .u32 (nb32 (x >>> n))) := u32_shr_n t yk x n
@[go_sem high] theorem u64_shr_l (x : BitVec 64) (n : Nat) : binOp .shr t (.int .u64 (nb64 x)) (.int yk (no_index (OfNat.ofNat n))) = pure (.int .u64 (nb64 (x >>> n))) := u64_shr_n t yk x n

@[go_sem high] theorem u64_shl_cn (c n : Nat) : binOp .shl t (.int .u64 (no_index (OfNat.ofNat c))) (.int yk (n : Int)) = pure (.int .u64 (nb64 (BitVec.ofNat 64 c <<< n))) := by
  have hn : ¬ ((n : Int) < 0) := by omega
  rw [← u64_shl_n t yk (BitVec.ofNat 64 c) n, binOp_shl, binOp_shl]; unfold Op.shift; rw [if_neg hn, if_neg hn]
  show pure (Value.int .u64 (IntKind.u64.wrap (((c : Nat) : Int) * 2 ^ (min (n : Int).toNat 64)))) = pure (Value.int .u64 (IntKind.u64.wrap (nb64 (BitVec.ofNat 64 c) * 2 ^ (min (n : Int).toNat 64))))
  rw [IntKind.wrap_u64, IntKind.wrap_u64]
  simp only [nb64, BitVec.toNat_ofNat]
  congr 2
  rw [Int.natCast_emod]
  exact (emod_mul_left _ _ _).symm
@[go_sem high] theorem u32_shl_cn (c n : Nat) : binOp .shl t (.int .u32 (no_index (OfNat.ofNat c))) (.int yk (n : Int)) = pure (.int .u32 (nb32 (BitVec.ofNat 32 c <<< n))) := by
  have hn : ¬ ((n : Int) < 0) := by omega
  rw [← u32_shl_n t yk (BitVec.ofNat 32 c) n, binOp_shl, binOp_shl]; unfold Op.shift; rw [if_neg hn, if_neg hn]
  show pure (Value.int .u32 (IntKind.u32.wrap (((c : Nat) : Int) * 2 ^ (min (n : Int).toNat 32)))) = pure (Value.int .u32 (IntKind.u32.wrap (nb32 (BitVec.ofNat 32 c) * 2 ^ (min (n : Int).toNat 32))))
  rw [IntKind.wrap_u32', IntKind.wrap_u32']
  simp only [nb32, BitVec.toNat_ofNat]
  congr 2
  rw [Int.natCast_emod]
  exact (emod_mul_left _ _ _).symm
theorem rem_nat (k : IntKind) (a b : Nat) (hb : b ≠ 0) : Op.intDiv .rem k (a : Int) (b : Int) = pure (.int k ((a % b : Nat) : Int)) := by
  unfold Op.intDiv
  rw [if_neg (by omega)]
  rfl
theorem quo_nat (k : IntKind) (a b : Nat) (hb : b ≠ 0) : Op.intDiv .quo k (a : Int) (b : Int) = pure (.int k (k.wrap ((a / b : Nat) : Int))) := by
  unfold Op.intDiv
  rw [if_neg (by omega)]
  rfl
@[go_sem high] theorem u32_rem_l (x : BitVec 32) (n : Nat) (h0 : n ≠ 0) (h : n < 4294967296) : binOp .rem t (.int .u32 (nb32 x)) (.int .u32 (no_index (OfNat.ofNat n))) = pure (.int .u32 (nb32 (x % BitVec.ofNat 32 n))) := by
  rw [binOp_rem]
  refine (rem_nat _ x.toNat n h0).trans ?_
  congr 2
  simp only [nb32, BitVec.toNat_umod, BitVec.toNat_ofNat]
  rw [Nat.mod_eq_of_lt (a := n) (by omega)]
@[go_sem high] theorem u64_rem_l (x : BitVec 64) (n : Nat) (h0 : n ≠ 0) (h : n < 18446744073709551616) : binOp .rem t (.int .u64 (nb64 x)) (.int .u64 (no_index (OfNat.ofNat n))) = pure (.int .u64 (nb64 (x % BitVec.ofNat 64 n))) := by
  rw [binOp_rem]
  refine (rem_nat _ x.toNat n h0).trans ?_
  congr 2
  simp only [nb64, BitVec.toNat_umod, BitVec.toNat_ofNat]
  rw [Nat.mod_eq_of_lt (a := n) (by omega)]
@[go_sem high] theorem u64_quo_l (x : BitVec 64) (n : Nat) (h0 : n ≠ 0) (h : n < 18446744073709551616) : binOp .quo t (.int .u64 (nb64 x)) (.int .u64 (no_index (OfNat.ofNat n))) = pure (.int .u64 (nb64 (x / BitVec.ofNat 64 n))) := by
  have hlt : x.toNat / n < 18446744073709551616 := Nat.lt_of_le_of_lt (Nat.div_le_self _ _) x.isLt
  rw [binOp_quo]
  refine (quo_nat _ x.toNat n h0).trans ?_
  congr 2
  rw [IntKind.wrap_u64]
  simp only [nb64, BitVec.toNat_udiv, BitVec.toNat_ofNat]
  rw [Nat.mod_eq_of_lt (a := n) (by omega)]
  generalize x.toNat / n = q at hlt ⊢
  omega
/-- bit k, as the rest of a shifted number by two -/
theorem u32_bit (x : BitVec 32) (k : Nat) : ((x >>> k) % 2#32 == 1#32) = x.getLsbD k := by
  have e : (x >>> k) % 2#32 = 1#32 ↔ x.toNat.testBit k = true := by
    rw [← BitVec.toNat_inj, BitVec.toNat_umod, BitVec.toNat_ushiftRight, Nat.testBit, Nat.and_comm, Nat.and_one_is_mod, bne_iff_ne]
    simp only [BitVec.toNat_ofNat, Nat.reducePow, Nat.reduceMod]
    omega
  rw [Bool.eq_iff_iff, beq_iff_eq, e]; rfl
theorem u64_bit (x : BitVec 64) (k : Nat) : ((x >>> k) % 2#64 == 1#64) = x.getLsbD k := by
  have e : (x >>> k) % 2#64 = 1#64 ↔ x.toNat.testBit k = true := by
    rw [← BitVec.toNat_inj, BitVec.toNat_umod, BitVec.toNat_ushiftRight, Nat.testBit, Nat.and_comm, Nat.and_one_is_mod, bne_iff_ne]
    simp only [BitVec.toNat_ofNat, Nat.reducePow, Nat.reduceMod]
    omega
  rw [Bool.eq_iff_iff, beq_iff_eq, e]; rfl
@[go_sem high] theorem u32_neg (x : BitVec 32) : Op.unary .neg (.int .u32 (nb32 x)) = pure (.int .u32 (nb32 (-x))) := by
  show pure (Value.int .u32 (IntKind.u32.wrap (0 - nb32 x))) = _
  congr 2
  rw [IntKind.wrap_u32']
  simp only [nb32, BitVec.toNat_neg]
  have := x.isLt
  omega
@[go_sem high] theorem u32_to_u64 (x : BitVec 32) : IntKind.u64.wrap (nb32 x) = nb64 (x.setWidth 64) := by
  rw [IntKind.wrap_u64]; simp only [nb32, nb64, BitVec.toNat_setWidth]; have := x.isLt; omega
@[go_sem high] theorem u64_to_u32 (x : BitVec 64) : IntKind.u32.wrap (nb64 x) = nb32 (x.setWidth 32) := by
  rw [IntKind.wrap_u32']; simp only [nb32, nb64, BitVec.toNat_setWidth]; omega
end
end Go.Proofs.Ytamigcbodplmcaa

/-! The field's functions as functions of bit vectors. Nothing of the program. -/
namespace Go.Proofs.Ytamigcbodplmcaa.Gf

/-- one fold of the modulus -/
def fold (p : BitVec 64) : BitVec 64 :=
  (p &&& 4294967295#64) ^^^ (p >>> 32) ^^^ (p >>> 32 <<< 2) ^^^ (p >>> 32 <<< 3) ^^^ (p >>> 32 <<< 7)
def reduce (p : BitVec 64) : BitVec 32 := (fold (fold p)).setWidth 32
def double (a : BitVec 32) : BitVec 32 := reduce (a.setWidth 64 <<< 1)
def mask (b : BitVec 32) (k : Nat) : BitVec 32 := -(b >>> k &&& 1#32)
/-- the product without the modulus, its first k rounds -/
def clm (a b : BitVec 32) : Nat → BitVec 64
  | 0 => 0
  | k + 1 => clm a b k ^^^ (((a &&& mask b k).setWidth 64) <<< k)
def mul (a b : BitVec 32) : BitVec 32 := reduce (clm a b 32)

def spread (a : BitVec 32) : BitVec 64 :=
  let p0 := a.setWidth 64
  let p1 := (p0 ||| p0 <<< 16) &&& 0x0000ffff0000ffff#64
  let p2 := (p1 ||| p1 <<< 8) &&& 0x00ff00ff00ff00ff#64
  let p3 := (p2 ||| p2 <<< 4) &&& 0x0f0f0f0f0f0f0f0f#64
  let p4 := (p3 ||| p3 <<< 2) &&& 0x3333333333333333#64
  (p4 ||| p4 <<< 1) &&& 0x5555555555555555#64
def square (a : BitVec 32) : BitVec 32 := reduce (spread a)
/-- the square, k times -/
def squares (a : BitVec 32) : Nat → BitVec 32
  | 0 => a
  | k + 1 => square (squares a k)
end Go.Proofs.Ytamigcbodplmcaa.Gf

/-! What the plain functions of package gf answer. -/
namespace Go.Proofs.Ytamigcbodplmcaa
open Go.RowKit
theorem ret_v {v v' : Value} (h : v = v') : Ending.returned v = Ending.returned v' := by rw [h]

theorem fold_any (x : BitVec 64) (w : World) :
    Calls Try.prog 70 #[.int .u64 (nb64 x)] w fun e w' => e = .returned (.int .u64 (nb64 (Gf.fold x))) ∧ w = w' := by
  go_enter Try.func70, Try.ntmps70
  go_wp2
  go_ret
  exact ⟨rfl, rfl⟩
theorem reduce_any (x : BitVec 64) (w : World) :
    Calls Try.prog 58 #[.int .u64 (nb64 x)] w fun e w' => e = .returned (.int .u32 (nb32 (Gf.reduce x))) ∧ w = w' := by
  go_enter Try.func58, Try.ntmps58
  go_wp2_with (go_at_call 70; refine (fold_any _ _).mono ?_; rintro e w' ⟨rfl, rfl⟩)
  go_ret
  exact ⟨rfl, rfl⟩
theorem double_any (x : BitVec 32) (w : World) :
    Calls Try.prog 69 #[.int .u32 (nb32 x)] w fun e w' => e = .returned (.int .u32 (nb32 (Gf.double x))) ∧ w = w' := by
  go_enter Try.func69, Try.ntmps69
  go_wp2_with (go_at_call 58; refine (reduce_any _ _).mono ?_; rintro e w' ⟨rfl, rfl⟩)
  go_ret
  exact ⟨rfl, rfl⟩
theorem spread_any (x : BitVec 32) (w : World) :
    Calls Try.prog 60 #[.int .u32 (nb32 x)] w fun e w' => e = .returned (.int .u64 (nb64 (Gf.spread x))) ∧ w = w' := by
  go_enter Try.func60, Try.ntmps60
  go_wp2
  go_ret
  exact ⟨rfl, rfl⟩
theorem square_any (x : BitVec 32) (w : World) :
    Calls Try.prog 48 #[.int .u32 (nb32 x)] w fun e w' => e = .returned (.int .u32 (nb32 (Gf.square x))) ∧ w = w' := by
  go_enter Try.func48, Try.ntmps48
  go_wp2_with (first
    | (go_at_call 58; refine (reduce_any _ _).mono ?_; rintro e w' ⟨rfl, rfl⟩)
    | (go_at_call 60; refine (spread_any _ _).mono ?_; rintro e w' ⟨rfl, rfl⟩))
  go_ret
  exact ⟨rfl, rfl⟩
theorem mul_any (a b : BitVec 32) (w : World) :
    Calls Try.prog 46 #[.int .u32 (nb32 a), .int .u32 (nb32 b)] w fun e w' => e = .returned (.int .u32 (nb32 (Gf.mul a b))) ∧ w = w' := by
  go_enter Try.func46, Try.ntmps46
  go_wp2
  go_loop [5, 8] (fun p i => ∃ k : Nat, k ≤ 32 ∧ i = .int .i64 k ∧ p = .int .u64 (nb64 (Gf.clm a b k))) (fun _ i => 32 - (intOf i).toNat)
  case atStart => exact ⟨0, Nat.zero_le _, rfl, rfl⟩
  case round =>
    obtain ⟨k, hk, rfl, rfl⟩ := hrel
    by_cases hlt : k < 32
    · go_wp2
      go_round
      case rel => exact ⟨k + 1, by omega, by go_num, rfl⟩
      case measure => simp [intOf]; omega
    · obtain rfl : k = 32 := by omega
      go_wp2_with (go_at_call 58; refine (reduce_any _ _).mono ?_; rintro e w' ⟨rfl, rfl⟩)
      go_ret
      exact ⟨rfl, rfl⟩
end Go.Proofs.Ytamigcbodplmcaa

/-! The field of 2^32 elements: products, squares, powers, inverses, traces, by linear maps. Nothing of the program. -/
namespace Go.Proofs.Ytamigcbodplmcaa.Gf

/-! ### linear maps -/
def Lin {n m : Nat} (f : BitVec n → BitVec m) : Prop := ∀ x y, f (x ^^^ y) = f x ^^^ f y
section
variable {n m k : Nat} {f g : BitVec n → BitVec m}
theorem Lin.zero (h : Lin f) : f 0 = 0 := by
  have := h 0 0
  simpa using this
theorem lin_ext (hf : Lin f) (hg : Lin g) (h : ∀ i, i < n → f (BitVec.twoPow n i) = g (BitVec.twoPow n i)) (x : BitVec n) : f x = g x := by
  have key : ∀ k, k ≤ n → ∀ x : BitVec n, (∀ i, k ≤ i → x.getLsbD i = false) → f x = g x := by
    intro k
    induction k with
    | zero =>
      intro _ x hx
      have : x = 0 := by
        apply BitVec.eq_of_getLsbD_eq
        intro i _
        simpa using hx i (Nat.zero_le _)
      rw [this, hf.zero, hg.zero]
    | succ k ih =>
      intro hk x hx
      cases hb : x.getLsbD k with
      | false =>
        refine ih (by omega) x (fun i hi => ?_)
        rcases Nat.lt_or_ge k i with h' | h'
        · exact hx i h'
        · obtain rfl : i = k := by omega
          exact hb
      | true =>
        have e : x = (x ^^^ BitVec.twoPow n k) ^^^ BitVec.twoPow n k := by rw [BitVec.xor_assoc, BitVec.xor_self, BitVec.xor_zero]
        rw [e, hf, hg, h k (by omega)]
        congr 1
        refine ih (by omega) _ (fun i hi => ?_)
        rw [BitVec.getLsbD_xor, BitVec.getLsbD_twoPow]
        rcases Nat.lt_or_ge k i with h' | h'
        · rw [hx i h']
          have : ¬ k = i := by omega
          simp [this]
        · obtain rfl : i = k := by omega
          have : i < n := by omega
          simp [hb, this]
  exact key n (Nat.le_refl _) x (fun i hi => BitVec.getLsbD_of_ge x i hi)
theorem Lin.comp {l : Nat} {g : BitVec m → BitVec l} (hg : Lin g) (hf : Lin f) : Lin (fun x => g (f x)) := fun x y => by
  show g (f (x ^^^ y)) = _
  rw [hf, hg]
theorem Lin.add (hf : Lin f) (hg : Lin g) : Lin (fun x => f x ^^^ g x) := fun x y => by
  show f (x ^^^ y) ^^^ g (x ^^^ y) = (f x ^^^ g x) ^^^ (f y ^^^ g y)
  rw [hf, hg]; ac_rfl
theorem Lin.id : Lin (fun x : BitVec n => x) := fun _ _ => rfl
theorem Lin.const0 : Lin (fun _ : BitVec n => (0 : BitVec m)) := fun _ _ => by simp
theorem lin_and (c : BitVec n) : Lin (fun x : BitVec n => x &&& c) := fun x y => by
  apply BitVec.eq_of_getLsbD_eq; intro i _; simp [Bool.and_xor_distrib_right]
theorem lin_shl (k : Nat) : Lin (fun x : BitVec n => x <<< k) := fun x y => BitVec.shiftLeft_xor_distrib x y k
theorem lin_shr (k : Nat) : Lin (fun x : BitVec n => x >>> k) := fun x y => BitVec.ushiftRight_xor_distrib x y k
theorem lin_setWidth (k : Nat) : Lin (fun x : BitVec n => x.setWidth k) := fun _ _ => BitVec.setWidth_xor
end

theorem xor_self_cancel (a b : BitVec 32) : a ^^^ b ^^^ b = a := by rw [BitVec.xor_assoc, BitVec.xor_self, BitVec.xor_zero]

/-! ### the modulus -/
theorem lin_fold : Lin fold :=
  ((((lin_and _).add (lin_shr 32)).add ((lin_shl 2).comp (lin_shr 32))).add ((lin_shl 3).comp (lin_shr 32))).add ((lin_shl 7).comp (lin_shr 32))
theorem lin_reduce : Lin reduce := (lin_setWidth 32).comp (lin_fold.comp lin_fold)
theorem lin_double : Lin double := lin_reduce.comp ((lin_shl 1).comp (lin_setWidth 64))
theorem reduce_shift (y : BitVec 64) (h : y &&& 0x7fffffffffffffff#64 = y) : reduce (y <<< 1) = double (reduce y) := by
  have e := lin_ext (f := fun y => reduce ((y &&& 0x7fffffffffffffff#64) <<< 1)) (g := fun y => double (reduce (y &&& 0x7fffffffffffffff#64)))
    (lin_reduce.comp ((lin_shl 1).comp (lin_and _))) (lin_double.comp (lin_reduce.comp (lin_and _))) (by decide +kernel) y
  simpa only [h] using e
/-- doubled k times -/
def dbl (a : BitVec 32) : Nat → BitVec 32
  | 0 => a
  | k + 1 => double (dbl a k)
theorem lin_dbl (k : Nat) : Lin (fun a => dbl a k) := by
  induction k with
  | zero => exact Lin.id
  | succ k ih => exact lin_double.comp ih
theorem dbl_double (a : BitVec 32) (k : Nat) : dbl (double a) k = double (dbl a k) := by
  induction k with
  | zero => rfl
  | succ k ih => simp only [dbl, ih]
theorem dbl_add (a : BitVec 32) (j k : Nat) : dbl (dbl a j) k = dbl a (j + k) := by
  induction k with
  | zero => rfl
  | succ k ih => rw [dbl, ih]; rfl
theorem reduce_at (a : BitVec 32) : ∀ k, k < 32 → reduce (a.setWidth 64 <<< k) = dbl a k
  | 0, _ => by
    have e := lin_ext (f := fun a : BitVec 32 => reduce (a.setWidth 64 <<< 0)) (g := fun a => a)
      (lin_reduce.comp ((lin_shl 0).comp (lin_setWidth 64))) Lin.id (by decide +kernel) a
    exact e
  | k + 1, h => by
    rw [BitVec.shiftLeft_add, dbl, ← reduce_at a k (by omega)]
    refine reduce_shift _ ?_
    apply BitVec.eq_of_getLsbD_eq
    intro i hi
    rw [BitVec.getLsbD_and]
    rcases Nat.lt_or_ge i 63 with h' | h'
    · have : (0x7fffffffffffffff#64).getLsbD i = true := by
        have : ∀ i, i < 63 → (0x7fffffffffffffff#64).getLsbD i = true := by decide +kernel
        exact this i h'
      rw [this, Bool.and_true]
    · have : (a.setWidth 64 <<< k).getLsbD i = false := by
        rw [BitVec.getLsbD_shiftLeft]
        have : ¬ i - k < 32 := by omega
        simp only [BitVec.getLsbD_setWidth]
        rw [BitVec.getLsbD_of_ge a (i - k) (by omega)]
        simp
      rw [this, Bool.false_and]

/-! ### the product -/
/-- what one bit gives -/
def part (c : Bool) (x : BitVec 32) : BitVec 32 := if c then x else 0
/-- the product by the first k bits -/
def mulS (a b : BitVec 32) : Nat → BitVec 32
  | 0 => 0
  | k + 1 => mulS a b k ^^^ part (b.getLsbD k) (dbl a k)
theorem mask_eq (b : BitVec 32) (k : Nat) : mask b k = if b.getLsbD k then BitVec.allOnes 32 else 0 := by
  have e : b >>> k &&& 1#32 = if b.getLsbD k then 1#32 else 0#32 := by
    apply BitVec.eq_of_getLsbD_eq
    intro i hi
    rw [BitVec.getLsbD_and, BitVec.getLsbD_ushiftRight]
    rcases Nat.eq_zero_or_pos i with rfl | h0
    · cases b.getLsbD k <;> simp
    · have : (1#32).getLsbD i = false := by
        rw [BitVec.getLsbD_one]
        have : ¬ i = 0 := by omega
        simp [this]
      rw [this, Bool.and_false]
      cases b.getLsbD k <;> simp [this]
  unfold mask
  rw [e]
  cases b.getLsbD k <;> simp
theorem reduce_clm (a b : BitVec 32) : ∀ k, k ≤ 32 → reduce (clm a b k) = mulS a b k
  | 0, _ => lin_reduce.zero
  | k + 1, h => by
    rw [clm, lin_reduce, reduce_clm a b k (by omega), mulS]
    congr 1
    rw [mask_eq, part]
    cases b.getLsbD k with
    | false =>
      have : (a &&& (if false = true then BitVec.allOnes 32 else 0)).setWidth 64 <<< k = (0 : BitVec 64) := by simp
      rw [this]; exact lin_reduce.zero
    | true =>
      have : a &&& (if true = true then BitVec.allOnes 32 else 0) = a := by rw [if_pos rfl, BitVec.and_allOnes]
      rw [this, reduce_at a k (by omega)]; rfl
theorem mul_eq (a b : BitVec 32) : mul a b = mulS a b 32 := reduce_clm a b 32 (Nat.le_refl _)
theorem part_xor (c : Bool) (x y : BitVec 32) : part c (x ^^^ y) = part c x ^^^ part c y := by cases c <;> simp [part]
theorem part_xor' (c d : Bool) (x : BitVec 32) : part (c ^^ d) x = part c x ^^^ part d x := by cases c <;> cases d <;> simp [part]
theorem lin_mulS_left (b : BitVec 32) : ∀ k, Lin (fun a => mulS a b k)
  | 0 => Lin.const0
  | k + 1 => (lin_mulS_left b k).add fun x y => by
    show part _ (dbl (x ^^^ y) k) = _
    rw [show dbl (x ^^^ y) k = dbl x k ^^^ dbl y k from lin_dbl k x y, part_xor]
theorem lin_mulS_right (a : BitVec 32) : ∀ k, Lin (fun b => mulS a b k)
  | 0 => Lin.const0
  | k + 1 => (lin_mulS_right a k).add fun x y => by
    show part ((x ^^^ y).getLsbD k) _ = _
    rw [BitVec.getLsbD_xor, part_xor']
theorem lin_mul_left (b : BitVec 32) : Lin (fun a => mul a b) := fun x y => by simp only [mul_eq]; exact lin_mulS_left b 32 x y
theorem lin_mul_right (a : BitVec 32) : Lin (fun b => mul a b) := fun x y => by simp only [mul_eq]; exact lin_mulS_right a 32 x y
theorem part_zero (c : Bool) : part c 0 = 0 := by cases c <;> rfl
theorem double_part (c : Bool) (x : BitVec 32) : double (part c x) = part c (double x) := by
  cases c
  · exact lin_double.zero
  · rfl
theorem mulS_double (a b : BitVec 32) : ∀ k, mulS (double a) b k = double (mulS a b k)
  | 0 => lin_double.zero.symm
  | k + 1 => by rw [mulS, mulS, mulS_double a b k, lin_double, double_part, dbl_double]
theorem mul_double (a b : BitVec 32) : mul (double a) b = double (mul a b) := by rw [mul_eq, mul_eq, mulS_double]
theorem mulS_twoPow (a : BitVec 32) (j : Nat) (hj : j < 32) : ∀ k, mulS a (BitVec.twoPow 32 j) k = if j < k then dbl a j else 0
  | 0 => by simp [mulS]
  | k + 1 => by
    rw [mulS, mulS_twoPow a j hj k, BitVec.getLsbD_twoPow]
    rcases Nat.lt_trichotomy j k with h | h | h
    · have h1 : j < k + 1 := by omega
      have h2 : ¬ j = k := by omega
      simp [h, h1, h2, part]
    · subst h
      simp [hj, part]
    · have h1 : ¬ j < k + 1 := by omega
      have h2 : ¬ j = k := by omega
      have h3 : ¬ j < k := by omega
      simp [h1, h2, h3, part]
theorem mul_twoPow (a : BitVec 32) (j : Nat) (hj : j < 32) : mul a (BitVec.twoPow 32 j) = dbl a j := by
  rw [mul_eq, mulS_twoPow a j hj, if_pos hj]
theorem mul_one (a : BitVec 32) : mul a 1 = a := mul_twoPow a 0 (by omega)
theorem twoPow_dbl : ∀ j, j < 32 → BitVec.twoPow 32 j = dbl 1 j := by decide +kernel
theorem one_mul (b : BitVec 32) : mul 1 b = b :=
  lin_ext (lin_mul_right 1) Lin.id (fun j hj => by rw [mul_twoPow 1 j hj, twoPow_dbl j hj]) b
theorem mul_8d (a : BitVec 32) : mul a 0x8d#32 = dbl a 32 :=
  lin_ext (lin_mul_left _) (lin_dbl 32) (by decide +kernel) a
theorem mul_double' (a b : BitVec 32) : mul a (double b) = double (mul a b) := by
  refine lin_ext (f := fun b => mul a (double b)) (g := fun b => double (mul a b)) ((lin_mul_right a).comp lin_double) (lin_double.comp (lin_mul_right a)) (fun j hj => ?_) b
  show mul a (double (BitVec.twoPow 32 j)) = double (mul a (BitVec.twoPow 32 j))
  rw [mul_twoPow a j hj]
  rcases Nat.lt_or_ge j 31 with h | h
  · have e : ∀ j, j < 31 → double (BitVec.twoPow 32 j) = BitVec.twoPow 32 (j + 1) := by decide +kernel
    rw [e j h, mul_twoPow a (j + 1) (by omega)]; rfl
  · obtain rfl : j = 31 := by omega
    have e : double (BitVec.twoPow 32 31) = 0x8d#32 := by decide +kernel
    rw [e, mul_8d]; rfl
theorem mul_dbl (a b : BitVec 32) (k : Nat) : mul a (dbl b k) = dbl (mul a b) k := by
  induction k with
  | zero => rfl
  | succ k ih => rw [dbl, mul_double', ih]; rfl
theorem dbl_mul (a b : BitVec 32) (k : Nat) : mul (dbl a k) b = dbl (mul a b) k := by
  induction k with
  | zero => rfl
  | succ k ih => rw [dbl, mul_double, ih]; rfl
theorem mul_comm (a b : BitVec 32) : mul a b = mul b a :=
  lin_ext (f := fun a => mul a b) (g := fun a => mul b a) (lin_mul_left b) (lin_mul_right b) (fun j hj => by
    show mul (BitVec.twoPow 32 j) b = mul b (BitVec.twoPow 32 j)
    rw [twoPow_dbl j hj, dbl_mul, one_mul, mul_dbl, mul_one]) a
theorem mul_assoc (a b c : BitVec 32) : mul (mul a b) c = mul a (mul b c) :=
  lin_ext (f := fun c => mul (mul a b) c) (g := fun c => mul a (mul b c)) (lin_mul_right _) ((lin_mul_right a).comp (lin_mul_right b)) (fun j hj => by
    show mul (mul a b) (BitVec.twoPow 32 j) = mul a (mul b (BitVec.twoPow 32 j))
    rw [mul_twoPow _ j hj, mul_twoPow _ j hj, mul_dbl]) c
theorem mul_zero (a : BitVec 32) : mul a 0 = 0 := (lin_mul_right a).zero
theorem zero_mul (a : BitVec 32) : mul 0 a = 0 := (lin_mul_left a).zero
theorem mul_xor (a b c : BitVec 32) : mul a (b ^^^ c) = mul a b ^^^ mul a c := lin_mul_right a b c
theorem xor_mul (a b c : BitVec 32) : mul (a ^^^ b) c = mul a c ^^^ mul b c := lin_mul_left c a b

/-! ### squares -/
theorem or_step {p m m' : BitVec 64} (s : Nat) (hp : p &&& m = p) (hm : m &&& (m <<< s) &&& m' = 0) : (p ||| p <<< s) &&& m' = (p ^^^ p <<< s) &&& m' := by
  apply BitVec.eq_of_getLsbD_eq
  intro i hi
  have h1 : (p &&& m).getLsbD i = p.getLsbD i := by rw [hp]
  have h2 : (m &&& (m <<< s) &&& m').getLsbD i = false := by rw [hm]; simp
  have h3 : ((p &&& m) <<< s).getLsbD i = (p <<< s).getLsbD i := by rw [hp]
  simp only [BitVec.getLsbD_and, BitVec.getLsbD_shiftLeft, BitVec.getLsbD_or, BitVec.getLsbD_xor] at h1 h2 h3 ⊢
  revert h1 h2 h3
  cases p.getLsbD i <;> cases m.getLsbD i <;> cases m'.getLsbD i <;> cases p.getLsbD (i - s) <;> cases m.getLsbD (i - s) <;> cases decide (i < 64) <;> cases decide (i < s) <;> simp
theorem and_and_self (x m : BitVec 64) : x &&& m &&& m = x &&& m := by rw [BitVec.and_assoc, BitVec.and_self]
/-- the spreading with xor -/
def spread' (a : BitVec 32) : BitVec 64 :=
  let p0 := a.setWidth 64
  let p1 := (p0 ^^^ p0 <<< 16) &&& 0x0000ffff0000ffff#64
  let p2 := (p1 ^^^ p1 <<< 8) &&& 0x00ff00ff00ff00ff#64
  let p3 := (p2 ^^^ p2 <<< 4) &&& 0x0f0f0f0f0f0f0f0f#64
  let p4 := (p3 ^^^ p3 <<< 2) &&& 0x3333333333333333#64
  (p4 ^^^ p4 <<< 1) &&& 0x5555555555555555#64
theorem low_self (a : BitVec 32) : a.setWidth 64 &&& 0xffffffff#64 = a.setWidth 64 :=
  lin_ext (f := fun a : BitVec 32 => a.setWidth 64 &&& 0xffffffff#64) (g := fun a : BitVec 32 => a.setWidth 64) ((lin_and _).comp (lin_setWidth 64)) (lin_setWidth 64) (by decide +kernel) a
theorem spread_eq (a : BitVec 32) : spread a = spread' a := by
  unfold spread spread'
  simp only
  rw [or_step (m := 0xffffffff#64) 16 (low_self a) (by decide +kernel), or_step 8 (and_and_self _ _) (by decide +kernel), or_step 4 (and_and_self _ _) (by decide +kernel),
    or_step 2 (and_and_self _ _) (by decide +kernel), or_step 1 (and_and_self _ _) (by decide +kernel)]
theorem lin_step (s : Nat) (m : BitVec 64) : Lin (fun p : BitVec 64 => (p ^^^ p <<< s) &&& m) := (lin_and m).comp (Lin.id.add (lin_shl s))
theorem lin_spread' : Lin spread' :=
  (lin_step 1 _).comp ((lin_step 2 _).comp ((lin_step 4 _).comp ((lin_step 8 _).comp ((lin_step 16 _).comp (lin_setWidth 64)))))
theorem lin_square : Lin square := by
  intro x y
  unfold square
  rw [spread_eq, spread_eq, spread_eq, lin_spread', lin_reduce]
theorem square_eq (a : BitVec 32) : square a = mul a a := by
  refine lin_ext (f := square) (g := fun a => mul a a) lin_square (fun x y => ?_) (by decide +kernel) a
  show mul (x ^^^ y) (x ^^^ y) = mul x x ^^^ mul y y
  rw [xor_mul, mul_xor, mul_xor, mul_comm y x, BitVec.xor_assoc, ← BitVec.xor_assoc (mul x y), BitVec.xor_self, BitVec.zero_xor]
theorem lin_squares : ∀ k, Lin (fun a => squares a k)
  | 0 => Lin.id
  | k + 1 => lin_square.comp (lin_squares k)
theorem squares_succ (a : BitVec 32) (k : Nat) : squares (square a) k = squares a (k + 1) := by
  induction k with
  | zero => rfl
  | succ k ih => rw [squares, ih]; rfl
theorem squares_32 (a : BitVec 32) : squares a 32 = a := lin_ext (lin_squares 32) Lin.id (by decide +kernel) a
theorem square_mul (a b : BitVec 32) : square (mul a b) = mul (square a) (square b) := by
  rw [square_eq, square_eq, square_eq, mul_assoc, mul_assoc, ← mul_assoc b a b, mul_comm b a, mul_assoc a b b]

/-! ### powers -/
/-- n factors -/
def pow (a : BitVec 32) : Nat → BitVec 32
  | 0 => 1
  | n + 1 => mul (pow a n) a
theorem pow_add (a : BitVec 32) (n m : Nat) : pow a (n + m) = mul (pow a n) (pow a m) := by
  induction m with
  | zero => exact (mul_one _).symm
  | succ m ih => rw [Nat.add_succ, pow, ih, pow, mul_assoc]
theorem pow_square (a : BitVec 32) (n : Nat) : pow (square a) n = pow a (2 * n) := by
  induction n with
  | zero => rfl
  | succ n ih => rw [pow, ih, show 2 * (n + 1) = 2 * n + 1 + 1 from rfl, pow, pow, mul_assoc, square_eq]
theorem pow_one (a : BitVec 32) : pow a 1 = a := one_mul a
theorem squares_pow (a : BitVec 32) (k : Nat) : squares a k = pow a (2 ^ k) := by
  induction k with
  | zero => exact (pow_one a).symm
  | succ k ih => rw [squares, ih, square_eq, ← pow_add]; congr 1; omega
theorem pow_32 (a : BitVec 32) : pow a 4294967296 = a := by rw [show 4294967296 = 2 ^ 32 from rfl, ← squares_pow, squares_32]

/-! ### traces -/
def trace (a : BitVec 32) : Nat → BitVec 32
  | 0 => 0
  | k + 1 => trace a k ^^^ squares a k
theorem lin_trace : ∀ k, Lin (fun a => trace a k)
  | 0 => Lin.const0
  | k + 1 => (lin_trace k).add (lin_squares k)
theorem bit_of_and {x : BitVec 32} (h : x &&& 0xfffffffe#32 = 0) : x = 0 ∨ x = 1 := by
  have e : x.toNat &&& 0xfffffffe = 0 := by
    have := congrArg BitVec.toNat h
    simpa using this
  have e1 : x.toNat < 2 := by
    rcases Nat.lt_or_ge x.toNat 2 with h | h
    · exact h
    · exfalso
      have hx := x.isLt
      have h2 : x.toNat / 2 = 0 := by
        apply Nat.eq_of_testBit_eq
        intro i
        rw [Nat.testBit_div_two, Nat.zero_testBit]
        rcases Nat.lt_or_ge i 31 with hi | hi
        · have := congrArg (fun n => n.testBit (i + 1)) e
          simp only [Nat.testBit_and, Nat.zero_testBit] at this
          have hb : ∀ i, i < 31 → Nat.testBit 0xfffffffe (i + 1) = true := by decide +kernel
          rw [hb i hi, Bool.and_true] at this
          exact this
        · exact Nat.testBit_lt_two_pow (Nat.lt_of_lt_of_le hx (Nat.pow_le_pow_right (by omega) (by omega)))
      omega
  rcases Nat.lt_or_ge x.toNat 1 with h | h
  · left; apply BitVec.eq_of_toNat_eq; show _ = 0; omega
  · right; apply BitVec.eq_of_toNat_eq; show _ = 1; omega
theorem trace_bit (a : BitVec 32) : trace a 32 = 0 ∨ trace a 32 = 1 :=
  bit_of_and (lin_ext (f := fun a => trace a 32 &&& 0xfffffffe#32) (g := fun _ => 0) ((lin_and _).comp (lin_trace 32)) Lin.const0 (by decide +kernel) a)
theorem trace_square (a : BitVec 32) : trace (square a) 32 = trace a 32 :=
  lin_ext (f := fun a => trace (square a) 32) (g := fun a => trace a 32) ((lin_trace 32).comp lin_square) (lin_trace 32) (by decide +kernel) a

/-! ### the equation y^2 + y = c -/
def traced : BitVec 32 := 33554432#32
/-- halve's three variables behind k rounds: y and t -/
def tsum : Nat → BitVec 32
  | 0 => 0
  | k + 1 => tsum k ^^^ squares traced k
def half (c : BitVec 32) : Nat → BitVec 32
  | 0 => 0
  | k + 1 => half c k ^^^ mul (tsum (k + 1)) (squares c k)
theorem lin_half : ∀ k, Lin (fun c => half c k)
  | 0 => Lin.const0
  | k + 1 => (lin_half k).add ((lin_mul_right _).comp (lin_squares k))
theorem half_solves (c : BitVec 32) : square (half c 32) ^^^ half c 32 = c ^^^ mul traced (trace c 32) :=
  lin_ext (f := fun c => square (half c 32) ^^^ half c 32) (g := fun c => c ^^^ mul traced (trace c 32))
    ((lin_square.comp (lin_half 32)).add (lin_half 32)) (Lin.id.add ((lin_mul_right _).comp (lin_trace 32))) (by decide +kernel) c
theorem half_back (y : BitVec 32) : half (square y ^^^ y) 32 = y ^^^ trace (mul traced y) 32 :=
  lin_ext (f := fun y => half (square y ^^^ y) 32) (g := fun y => y ^^^ trace (mul traced y) 32)
    ((lin_half 32).comp (lin_square.add Lin.id)) (Lin.id.add ((lin_trace 32).comp (lin_mul_right _))) (by decide +kernel) y
theorem zero_or_one {y : BitVec 32} (h : square y = y) : y = 0 ∨ y = 1 := by
  have e := half_back y
  rw [h, BitVec.xor_self, show half (0#32) 32 = 0 from (lin_half 32).zero] at e
  have e2 : y = trace (mul traced y) 32 := by
    have := congrArg (fun x => x ^^^ trace (mul traced y) 32) e
    simp only [BitVec.xor_assoc, BitVec.xor_self, BitVec.xor_zero] at this
    simpa using this.symm
  rw [e2]
  exact trace_bit _

/-! ### inverses -/
def inv (a : BitVec 32) : BitVec 32 := pow a 4294967294
theorem inv_zero : inv 0 = 0 := by
  show mul (pow 0 4294967293) 0 = 0
  exact mul_zero _
theorem mul_inv {a : BitVec 32} (h : a ≠ 0) : mul a (inv a) = 1 := by
  have e0 : mul a (inv a) = pow a 4294967295 := by
    rw [mul_comm]; rfl
  have e1 : mul (pow a 4294967295) a = a := by
    have : pow a 4294967296 = mul (pow a 4294967295) a := rfl
    rw [← this, pow_32]
  have e2 : square (pow a 4294967295) = pow a 4294967295 := by
    rw [square_eq, ← pow_add, show 4294967295 + 4294967295 = 4294967296 + 4294967294 from rfl, pow_add, pow_32, ← e0]; rfl
  rw [e0]
  rcases zero_or_one e2 with h0 | h1
  · rw [h0, zero_mul] at e1
    exact absurd e1.symm h
  · exact h1
theorem no_divisors {a b : BitVec 32} (h : mul a b = 0) : a = 0 ∨ b = 0 := by
  by_cases ha : a = 0
  · exact .inl ha
  · right
    rw [← one_mul b, ← mul_inv ha, mul_comm a, mul_assoc, h, mul_zero]
end Go.Proofs.Ytamigcbodplmcaa.Gf

/-! Powers, inverses, roots, traces and solutions of package gf. -/
namespace Go.Proofs.Ytamigcbodplmcaa
open Go.RowKit
theorem u64_halves (n : BitVec 64) : n.toNat = 2 * (n >>> 1).toNat + (if n &&& 1#64 == 1#64 then 1 else 0) := by
  have e : n &&& 1#64 = 1#64 ↔ n.toNat % 2 = 1 := by
    rw [← BitVec.toNat_inj, BitVec.toNat_and]
    simp only [BitVec.toNat_ofNat, Nat.reducePow, Nat.reduceMod, Nat.and_one_is_mod]
  rw [BitVec.toNat_ushiftRight, Nat.shiftRight_eq_div_pow]
  by_cases h : n &&& 1#64 = 1#64
  · simp only [h, beq_self_eq_true, if_true]
    have := e.1 h
    omega
  · have : ¬ n.toNat % 2 = 1 := fun hh => h (e.2 hh)
    simp only [beq_iff_eq, h, if_false]
    omega
theorem power_round (p a : BitVec 32) (n : BitVec 64) (r : BitVec 32) (h : Gf.mul p (Gf.pow a n.toNat) = r) :
    Gf.mul (if n &&& 1#64 == 1#64 then Gf.mul p a else p) (Gf.pow (Gf.square a) (n >>> 1).toNat) = r := by
  rw [← h, Gf.pow_square]
  have := u64_halves n
  by_cases hc : (n &&& 1#64 == 1#64) = true
  · rw [if_pos hc] at this ⊢
    rw [this, Gf.pow, Gf.mul_assoc, Gf.mul_comm a]
  · rw [if_neg hc] at this ⊢
    rw [this]; rfl
def PowRel (a0 : BitVec 32) (n0 : BitVec 64) (p a : BitVec 32) (n : BitVec 64) : Prop := Gf.mul p (Gf.pow a n.toNat) = Gf.pow a0 n0.toNat
set_option maxHeartbeats 400000 in
theorem power_any (a : BitVec 32) (n : BitVec 64) (w : World) :
    Calls Try.prog 59 #[.int .u32 (nb32 a), .int .u64 (nb64 n)] w fun e w' => e = .returned (.int .u32 (nb32 (Gf.pow a n.toNat))) ∧ w = w' := by
  go_enter Try.func59, Try.ntmps59
  go_wp2
  go_loop [0, 1, 5] (fun x y z => ∃ (p b : BitVec 32) (m : BitVec 64), x = .int .u32 (nb32 b) ∧ y = .int .u64 (nb64 m) ∧ z = .int .u32 (nb32 p) ∧ PowRel a n p b m) (fun _ y _ => (intOf y).toNat)
  case atStart => exact ⟨1, a, n, rfl, rfl, rfl, Gf.one_mul _⟩
  case round =>
    obtain ⟨p, b, m, rfl, rfl, rfl, hr⟩ := hrel
    by_cases hm : m = 0#64
    · subst hm
      go_wp2
      go_ret
      refine ⟨ret_v ?_, rfl⟩
      have : Gf.mul p 1 = Gf.pow a n.toNat := hr
      rw [← this, Gf.mul_one]
      rfl
    · have hlt : (m >>> 1).toNat < m.toNat := by
        have h0 : m.toNat ≠ 0 := fun h => hm (BitVec.eq_of_toNat_eq h)
        rw [BitVec.toNat_ushiftRight, Nat.shiftRight_eq_div_pow]
        omega
      have hs := power_round p b m _ hr
      have HS := Lib.hid hs
      clear hs hr
      by_cases hb : (m &&& 1#64 == 1#64) = true
      · go_wp2_with (first
          | (go_at_call 46; refine (mul_any _ _ _).mono ?_; rintro e w' ⟨rfl, rfl⟩)
          | (go_at_call 48; refine (square_any _ _).mono ?_; rintro e w' ⟨rfl, rfl⟩))
        go_round
        case rel => exact ⟨Gf.mul p b, Gf.square b, m >>> 1, rfl, rfl, rfl, by have := HS.out; rwa [if_pos hb] at this⟩
        case measure => exact hlt
      · have hb' : (m &&& 1#64 == 1#64) = false := by simpa using hb
        go_wp2_with (go_at_call 48; refine (square_any _ _).mono ?_; rintro e w' ⟨rfl, rfl⟩)
        go_round
        case rel => exact ⟨p, Gf.square b, m >>> 1, rfl, rfl, rfl, by have := HS.out; rwa [if_neg hb] at this⟩
        case measure => exact hlt
theorem power_inv (a : BitVec 32) (w : World) :
    Calls Try.prog 59 #[.int .u32 (nb32 a), .int .u64 4294967294] w fun e w' => e = .returned (.int .u32 (nb32 (Gf.inv a))) ∧ w = w' :=
  power_any a 4294967294#64 w
theorem inverse_any (a : BitVec 32) (w : World) :
    Calls Try.prog 47 #[.int .u32 (nb32 a)] w fun e w' => e = .returned (.int .u32 (nb32 (Gf.inv a))) ∧ w = w' := by
  go_enter Try.func47, Try.ntmps47
  go_wp2_with (go_at_call 59; refine (power_inv _ _).mono ?_; rintro e w' ⟨rfl, rfl⟩)
  go_ret
  exact ⟨rfl, rfl⟩
/-- Solve's two answers -/
def solveY (c : BitVec 32) : BitVec 32 := if Gf.trace c 32 = 0 then Gf.half c 32 &&& ~~~1#32 else 0
def solveB (c : BitVec 32) : Bool := Gf.trace c 32 == 0
end Go.Proofs.Ytamigcbodplmcaa

/-! Tables and sums of package gf. -/
namespace Go.Proofs.Ytamigcbodplmcaa
open Go.RowKit
namespace Gf
/-- the product with one digit -/
def dig (a : BitVec 32) (d : Nat) : BitVec 32 :=
  part (d.testBit 0) a ^^^ part (d.testBit 1) (dbl a 1) ^^^ part (d.testBit 2) (dbl a 2) ^^^ part (d.testBit 3) (dbl a 3)
theorem dig_zero (a : BitVec 32) : dig a 0 = 0 := by simp [dig, part]
theorem dig_even (a : BitVec 32) (d : Nat) (hd : d < 16) (h : d % 2 = 0) : dig a d = double (dig a (d / 2)) := by
  have : ∀ d, d < 16 → d % 2 = 0 → (d.testBit 0 = false ∧ (d / 2).testBit 0 = d.testBit 1 ∧ (d / 2).testBit 1 = d.testBit 2 ∧ (d / 2).testBit 2 = d.testBit 3 ∧ (d / 2).testBit 3 = false) := by decide +kernel
  obtain ⟨h0, h1, h2, h3, h4⟩ := this d hd h
  unfold dig
  rw [h0, h1, h2, h3, h4]
  simp only [lin_double _ _, double_part]
  simp [part, dbl]
theorem dig_odd (a : BitVec 32) (d : Nat) (hd : d < 16) (h : d % 2 = 1) : dig a d = double (dig a (d / 2)) ^^^ a := by
  have : ∀ d, d < 16 → d % 2 = 1 → (d.testBit 0 = true ∧ (d / 2).testBit 0 = d.testBit 1 ∧ (d / 2).testBit 1 = d.testBit 2 ∧ (d / 2).testBit 2 = d.testBit 3 ∧ (d / 2).testBit 3 = false) := by decide +kernel
  obtain ⟨h0, h1, h2, h3, h4⟩ := this d hd h
  unfold dig
  rw [h0, h1, h2, h3, h4]
  simp only [lin_double _ _, double_part]
  simp [part, dbl]
  ac_rfl
end Gf
/-- a row of sixteen products, the first k of them reckoned -/
def rowF (a : BitVec 32) (k : Nat) (j : Nat) : Value := if j < k then .int .u32 (nb32 (Gf.dig a j)) else .int .u32 0
theorem multiples_any (a : BitVec 32) (w : World) :
    Calls Try.prog 68 #[.int .u32 (nb32 a)] w fun e w' => e = .returned (.agg (cellsOf 16 (rowF a 16))) ∧ Below w.heap.size w w' := by
  go_enter Try.func68, Try.ntmps68
  go_wp2
  go_loopw [5] (fun i w' => ∃ k : Nat, k ≤ 16 ∧ i = .int .i64 k ∧ Below w.heap.size w w' ∧ Has w' w.heap.size 96 (cellsOf 16 fun _ => .int .u32 0) ∧ Has w' (w.heap.size + 1) 96 (cellsOf 16 (rowF a k))) (fun i _ => 16 - (intOf i).toNat)
  case atStart =>
    refine ⟨0, by omega, rfl, (((Below.refl _ _).alloc (Nat.le_refl _) _).alloc (by simp) _), ?_, ?_⟩
    · exact (Has.fresh w _ _).past _
    · exact Has.fresh_at _ _ _ (by simp)
  case round =>
    obtain ⟨k, hk, rfl, hb, hh0, hh⟩ := hrel
    have hsz := hh.lt
    by_cases hlt : k < 16
    · have hrow : ∀ j, j < 16 → wr.cell? ⟨w.heap.size + 1, j, none⟩ = some (rowF a k j) := fun j hj => hh.cell_at (cellsOf_at _ hj)
      have hfz : ∀ j, wr.frozen? ⟨w.heap.size + 1, j, none⟩ = false := fun j => hh.loose j
      have hv : rowF a k (k / 2) = .int .u32 (nb32 (Gf.dig a (k / 2))) := by
        unfold rowF
        split
        · rfl
        · have : k = 0 := by omega
          subst this
          rw [show Gf.dig a (0 / 2) = 0#32 from Gf.dig_zero a]
          rfl
      have hr2 := hrow (k / 2) (by omega)
      rw [hv] at hr2
      have hrk := hrow k hlt
      have hf2 := hfz k
      have hodd : (bits BinOp.and IntKind.i64 (k : Int) 1 == 1) = decide (k % 2 = 1) := by
        have : ∀ k : Nat, k < 16 → (bits BinOp.and IntKind.i64 (k : Int) 1 == 1) = decide (k % 2 = 1) := by decide +kernel
        exact this k hlt
      clear hv hrow hfz
      by_cases hp : k % 2 = 1
      · have hodd' : (bits BinOp.and IntKind.i64 (k : Int) 1 == 1) = true := by rw [hodd]; exact decide_eq_true hp
        have hput : ((cellsOf 16 (rowF a k)).setIfInBounds k (.int .u32 (nb32 (Gf.double (Gf.dig a (k / 2)))))).setIfInBounds k (.int .u32 (nb32 (Gf.double (Gf.dig a (k / 2)) ^^^ a))) = cellsOf 16 (rowF a (k + 1)) := by
          rw [cellsOf_put (rowF a k) (fun j => if j = k then .int .u32 (nb32 (Gf.double (Gf.dig a (k / 2)))) else rowF a k j) k _ (by simp) (fun j _ h => by simp [h])]
          refine cellsOf_put _ _ k _ ?_ (fun j _ h => ?_)
          · rw [← Gf.dig_odd a k hlt hp]; unfold rowF; rw [if_pos (by omega)]
          · unfold rowF
            simp only [h, if_false]
            by_cases hj : j < k
            · rw [if_pos hj, if_pos (by omega)]
            · rw [if_neg hj, if_neg (by omega)]
        have HP := Lib.hid hput
        clear hput hodd hp
        go_wp2_with (go_at_call 69; refine (double_any _ _).mono ?_; rintro e w' ⟨rfl, rfl⟩)
        go_roundw
        case rel =>
          refine ⟨k + 1, by omega, by go_num, (hb.setCell (by simp) _).setCell (by simp) _, (hh0.aside (by simp) _).aside (by simp) _, ?_⟩
          have := (hh.put k (.int .u32 (nb32 (Gf.double (Gf.dig a (k / 2)))))).put k (.int .u32 (nb32 (Gf.double (Gf.dig a (k / 2)) ^^^ a)))
          rwa [HP.out] at this
        case measure => simp [intOf]; omega
      · have hodd' : (bits BinOp.and IntKind.i64 (k : Int) 1 == 1) = false := by rw [hodd]; exact decide_eq_false hp
        have hput : (cellsOf 16 (rowF a k)).setIfInBounds k (.int .u32 (nb32 (Gf.double (Gf.dig a (k / 2))))) = cellsOf 16 (rowF a (k + 1)) := by
          refine cellsOf_put _ _ k _ ?_ (fun j _ h => ?_)
          · rw [← Gf.dig_even a k hlt (by omega)]; unfold rowF; rw [if_pos (by omega)]
          · unfold rowF
            by_cases hj : j < k
            · rw [if_pos hj, if_pos (by omega)]
            · rw [if_neg hj, if_neg (by omega)]
        have HP := Lib.hid hput
        clear hput hodd hp
        go_wp2_with (go_at_call 69; refine (double_any _ _).mono ?_; rintro e w' ⟨rfl, rfl⟩)
        go_roundw
        case rel =>
          refine ⟨k + 1, by omega, by go_num, hb.setCell (by simp) _, hh0.aside (by simp) _, ?_⟩
          have := hh.put k (.int .u32 (nb32 (Gf.double (Gf.dig a (k / 2)))))
          rwa [HP.out] at this
        case measure => simp [intOf]; omega
    · obtain rfl : k = 16 := by omega
      have hload := hh.range
      have hthere := hh0.there 0 16 (by rw [cellsOf_size]; omega)
      have hi : (Try.prog.info? 96).map (·.size) = some 16 := by kernel_rfl
      have hone : (cellsOf 16 (rowF a 16)).all (·.oneCell') = true := by
        apply all_oneCell_toArray
        intro v hv
        obtain ⟨j, _, rfl⟩ := List.mem_map.1 hv
        unfold rowF
        split <;> rfl
      have HI := Lib.hid hi
      have HO := Lib.hid hone
      clear hi hone
      go_wp2_with (first
        | (refine wpList_load_mid rfl 96 (.tmp 3) rfl (w.heap.size + 1) 0 rfl _ _ hload Try.underlying96 rfl HI.out ?_)
        | (refine wpList_store_mid rfl 96 (.tmp 2) (.tmp 25) rfl w.heap.size 0 (cellsOf 16 (rowF a 16)) rfl rfl hthere HI.out HO.out ?_))
      have hh1 := hh0.putAll (cellsOf 16 (rowF a 16)).toList 0
      rw [putAll_cellsOf (rowF a 16) _ 0 _ (fun i v hv => by
        rw [Array.getElem?_toList] at hv
        have hi := (Array.getElem?_eq_some_iff.1 hv).1
        rw [cellsOf_size] at hi
        rw [cellsOf_at _ hi] at hv
        rw [Nat.zero_add]
        exact Option.some.inj hv) (fun j hj h => by simp [cellsOf] at h; omega)] at hh1
      refine bodyPost_ret (v := .agg (cellsOf 16 (rowF a 16))) (results_one_cell rfl _ _ w.heap.size rfl _ (run_loadVar_mid _ _ 0 96 _ _ hh1.range Try.underlying96 rfl HI.out)) rfl ⟨rfl, below_setAll (Nat.le_refl _) _ 0 hb⟩
/-- the table's cells, the first n of them reckoned -/
def tabF (a : BitVec 32) (n : Nat) (j : Nat) : Value := if j < n then .int .u32 (nb32 (Gf.dig (Gf.dbl a (4 * (j / 16))) (j % 16))) else .int .u32 0
def tab (a : BitVec 32) : Array Value := cellsOf 128 (tabF a 128)
def rowL (a : BitVec 32) : List Value := (List.range 16).map (rowF a 16)
theorem rowL_len (a : BitVec 32) : (rowL a).length = 16 := by simp [rowL]
theorem rowL_one (a : BitVec 32) : ∀ v ∈ rowL a, v.oneCell' = true := by
  intro v hv
  obtain ⟨j, _, rfl⟩ := List.mem_map.1 hv
  unfold rowF
  split <;> rfl
theorem multiples_list (a : BitVec 32) (w : World) :
    Calls Try.prog 68 #[.int .u32 (nb32 a)] w fun e w' => e = .returned (.agg (rowL a).toArray) ∧ Below w.heap.size w w' := multiples_any a w
theorem tab_step (a : BitVec 32) (k : Nat) : putAll (cellsOf 128 (tabF a (16 * k))) (k * 16) (rowL (Gf.dbl a (4 * k))) = cellsOf 128 (tabF a (16 * (k + 1))) := by
  refine putAll_cellsOf _ _ _ _ (fun i v hv => ?_) (fun j hj h => ?_)
  · have hi := (List.getElem?_eq_some_iff.1 hv).1
    rw [rowL_len] at hi
    rw [rowL, List.getElem?_map, List.getElem?_range hi] at hv
    rw [← Option.some.inj hv]
    unfold tabF rowF
    rw [if_pos (by omega), if_pos hi, show (k * 16 + i) / 16 = k from by omega, show (k * 16 + i) % 16 = i from by omega]
  · rw [rowL_len] at h
    unfold tabF
    by_cases hj : j < 16 * k
    · rw [if_pos hj, if_pos (by omega)]
    · rw [if_neg hj, if_neg (by omega)]
attribute [irreducible] rowL
def tab0 : Array Value := cellsOf 128 fun _ => .int .u32 0
theorem tab0_ne : ¬ tab0 = #[] := cellsOf_ne (by omega) _
theorem tab0_run : ∀ w, (zeroValue 99).run Try.prog w = .ok (.agg tab0) w := run_zero (by kernel_rfl)
set_option maxRecDepth 100000 in
theorem by_any (a : BitVec 32) (w : World) :
    Calls Try.prog 54 #[.int .u32 (nb32 a)] w fun e w' => e = .returned (.pointer (some ⟨w.heap.size, 0, none⟩)) ∧ Below w.heap.size w w' ∧ Has w' w.heap.size 99 (tab a) := by
  have HI := Lib.hid (show (Try.prog.info? 96).map (·.size) = some 16 by kernel_rfl)
  go_enter Try.func54, Try.ntmps54
  have hz := tab0_run
  have hz' := tab0_ne
  go_wp2
  clear hz hz'
  go_loopw [0, 6] (fun x i w' => ∃ k : Nat, k ≤ 8 ∧ i = .int .i64 k ∧ x = .int .u32 (nb32 (Gf.dbl a (4 * k))) ∧ Below w.heap.size w w' ∧ Has w' w.heap.size 99 (cellsOf 128 (tabF a (16 * k)))) (fun _ i _ => 8 - (intOf i).toNat)
  case atStart =>
    exact ⟨0, by omega, rfl, rfl, (Below.refl _ _).alloc (Nat.le_refl _) _, Has.fresh_at _ _ _ rfl⟩
  case round =>
    obtain ⟨k, hk, rfl, rfl, hb, hh⟩ := hrel
    have hsz := hh.lt
    by_cases hlt : k < 8
    · go_wp2_with fail
      have hth : wr.there w.heap.size (k * 16) 16 := hh.there _ _ (by rw [cellsOf_size]; omega)
      have hi := HI.out
      have h16 := rowL_len (Gf.dbl a (4 * k))
      have h1c := rowL_one (Gf.dbl a (4 * k))
      have hi2 : (Try.prog.info? 96).map (·.size) = some (rowL (Gf.dbl a (4 * k))).length := by rw [h16]; exact hi
      clear hi
      go_region_held3 (fun w' => w'.there w.heap.size (k * 16) 16) (first
        | exact hth
        | exact World.there_setCells ((hh.draw.under hb1 hsz).there _ _ (by rw [cellsOf_size]; omega)) _ _ _
        | exact (hh.draw.under hb1 hsz).there _ _ (by rw [cellsOf_size]; omega))
        (first | (go_at_call 68; refine (multiples_list _ _).mono ?_; rintro e w1 ⟨rfl, hb1⟩))
      have hh1 := (hh.draw.under hb1 hsz).putAll (rowL (Gf.dbl a (4 * k))) (k * 16)
      rw [tab_step] at hh1
      have hb2 := below_setAll (Nat.le_refl _) (rowL (Gf.dbl a (4 * k))) (k * 16) (hb.drew.trans (hb1.mono (Nat.le_of_lt hsz)))
      generalize w1.setCells w.heap.size (k * 16) (rowL (Gf.dbl a (4 * k))) = w2 at hh1 hb2 ⊢
      clear hth h16 h1c hi2
      go_wp2
      go_loop [0, 16] (fun x j => ∃ m : Nat, m ≤ 4 ∧ j = .int .i64 m ∧ x = .int .u32 (nb32 (Gf.dbl a (4 * k + m)))) (fun _ j => 4 - (intOf j).toNat)
      case atStart => exact ⟨0, by omega, rfl, rfl⟩
      case round =>
        obtain ⟨m, hm, rfl, rfl⟩ := hrel
        by_cases hlt2 : m < 4
        · go_wp2_with (go_at_call 69; refine (double_any _ _).mono ?_; rintro e w' ⟨rfl, rfl⟩)
          go_round
          case rel => exact ⟨m + 1, by omega, by go_num, rfl⟩
          case measure => simp [intOf]; omega
        · obtain rfl : m = 4 := by omega
          go_wp2
          go_roundw
          case rel => exact ⟨k + 1, by omega, by go_num, rfl, hb2, hh1⟩
          case measure => simp [intOf]; omega
    · obtain rfl : k = 8 := by omega
      go_wp2
      go_ret
      exact ⟨rfl, hb, hh⟩
namespace Gf
/-- the product by the table's first i digits -/
def tm (a b : BitVec 32) : Nat → BitVec 32
  | 0 => 0
  | i + 1 => tm a b i ^^^ dig (dbl a (4 * i)) (b >>> (4 * i) &&& 15#32).toNat
theorem nib_bit (b : BitVec 32) (i j : Nat) (hj : j < 4) : (b >>> (4 * i) &&& 15#32).toNat.testBit j = b.getLsbD (4 * i + j) := by
  have h15 : ∀ j, j < 4 → (15#32).getLsbD j = true := by decide +kernel
  have : (b >>> (4 * i) &&& 15#32).getLsbD j = b.getLsbD (4 * i + j) := by
    rw [BitVec.getLsbD_and, BitVec.getLsbD_ushiftRight, h15 j hj, Bool.and_true]
  exact this
theorem nib_lt (b : BitVec 32) (i : Nat) : (b >>> (4 * i) &&& 15#32).toNat < 16 := by
  rw [BitVec.toNat_and]
  exact Nat.lt_of_le_of_lt Nat.and_le_right (by decide)
theorem tm_eq (a b : BitVec 32) : ∀ i, tm a b i = mulS a b (4 * i)
  | 0 => rfl
  | i + 1 => by
    rw [tm, tm_eq a b i, dig, nib_bit b i 0 (by omega), nib_bit b i 1 (by omega), nib_bit b i 2 (by omega), nib_bit b i 3 (by omega)]
    rw [show 4 * (i + 1) = 4 * i + 1 + 1 + 1 + 1 from by omega, mulS, mulS, mulS, mulS, dbl_add, dbl_add, dbl_add]
    simp only [Nat.add_zero]
    ac_rfl
end Gf
theorem tab_at (a b : BitVec 32) (k : Nat) (hk : k < 8) : (tab a)[k * 16 + (b >>> (4 * k) &&& 15#32).toNat]? = some (.int .u32 (nb32 (Gf.dig (Gf.dbl a (4 * k)) (b >>> (4 * k) &&& 15#32).toNat))) := by
  have h := Gf.nib_lt b k
  generalize (b >>> (4 * k) &&& 15#32).toNat = n at h ⊢
  rw [tab, cellsOf_at _ (by omega), tabF, if_pos (by omega), show (k * 16 + n) / 16 = k from by omega, show (k * 16 + n) % 16 = n from by omega]
theorem tmul_any (a b : BitVec 32) (g : Nat) (w : World) (hg : Has w g 99 (tab a)) :
    Calls Try.prog 55 #[.pointer (some ⟨g, 0, none⟩), .int .u32 (nb32 b)] w fun e w' => e = .returned (.int .u32 (nb32 (Gf.mul a b))) ∧ Drawn w w' := by
  go_enter Try.func55, Try.ntmps55
  go_wp2
  go_loopw [5, 9] (fun p i w' => ∃ k : Nat, k ≤ 8 ∧ i = .int .i64 k ∧ p = .int .u32 (nb32 (Gf.tm a b k)) ∧ Drawn w w') (fun _ i _ => 8 - (intOf i).toNat)
  case atStart => exact ⟨0, Nat.zero_le _, rfl, rfl, Drawn.refl w⟩
  case round =>
    obtain ⟨k, hk, rfl, rfl, hd⟩ := hrel
    by_cases hlt : k < 8
    · have hc := (hg.drawn hd).cell_at (tab_at a b k hlt)
      have h0 : (0 : Int) ≤ nb32 (b >>> (4 * k) &&& 15#32) := u32_nonneg _
      have h1 : nb32 (b >>> (4 * k) &&& 15#32) < 16 := by have := Gf.nib_lt b k; unfold nb32; omega
      have h2 : IntKind.i64.wrap (4 * (k : Int)) = ((4 * k : Nat) : Int) := by rw [IntWalk.i64_in _ (by omega)]; omega
      have hn : (b >>> (4 * k) &&& 15#32).toNat = b.toNat >>> (4 * k) &&& 15 := by simp
      rw [hn] at hc
      have hs : Gf.tm a b k ^^^ Gf.dig (Gf.dbl a (4 * k)) (b.toNat >>> (4 * k) &&& 15) = Gf.tm a b (k + 1) := by rw [← hn]; rfl
      clear hn
      generalize hm : 4 * k = m at hc h0 h1 h2 hs
      have HS := Lib.hid hs
      clear hs hm
      go_wp2_with fail
      go_quiet (fail)
      go_wp2
      go_roundw
      case rel => exact ⟨k + 1, by omega, by go_num, by rw [HS.out], hd.draws _⟩
      case measure => simp [intOf]; omega
    · obtain rfl : k = 8 := by omega
      go_wp2
      go_ret
      exact ⟨ret_v (by rw [Gf.tm_eq, ← Gf.mul_eq]; rfl), hd⟩
end Go.Proofs.Ytamigcbodplmcaa

/-! Slices of integers that came in. Nothing of the program. -/
namespace Go.Proofs.Ytamigcbodplmcaa
open Go Go.RowKit Go.ChangeShapes Go.WideShapes

/-- a slice of integers: nil, or a row of 'cap' cells that hold the numbers 'zs', of which the first 'len' are the slice's -/
def IsRow (k : IntKind) (w : World) (a : Option Addr) (len cap : Nat) (zs : List Int) : Prop :=
  (a = none ∧ len = 0 ∧ cap = 0 ∧ zs = []) ∨
  ∃ x, a = some x ∧ len ≤ cap ∧ cap ≤ maxLen ∧ zs.length = cap ∧ (∀ i, i < zs.length → w.cell? (x.add i) = some (.int k (zs.getD i 0))) ∧ ∀ n ∈ zs, (Lit.int k n).wf = true

theorem u32_of_wf {a : Int} (h : (Lit.int .u32 a).wf = true) : ∃ x : BitVec 32, a = nb32 x := by
  have := bounds_u32 h
  exact u32_of_bounds this.1 (by omega)
theorem u32_list : ∀ {zs : List Int}, (∀ n ∈ zs, (Lit.int .u32 n).wf = true) → ∃ l : List (BitVec 32), zs = l.map nb32
  | [], _ => ⟨[], rfl⟩
  | z :: zs, h => by
    obtain ⟨x, rfl⟩ := u32_of_wf (h z (by simp))
    obtain ⟨l, rfl⟩ := u32_list (zs := zs) (fun n hn => h n (by simp [hn]))
    exact ⟨x :: l, rfl⟩
/-- a slice of 32-bit words: its elements l, readable where there are any -/
def Words32 (w : World) (a : Option Addr) (n : Nat) (l : List (BitVec 32)) : Prop :=
  l.length = n ∧ n ≤ maxLen ∧ ∀ i, i < n → ∃ x, a = some x ∧ w.cell? (x.add i) = some (.int .u32 (nb32 (l.getD i 0)))
theorem words_of_row {w : World} {a : Option Addr} {len cap : Nat} {zs : List Int} (h : IsRow .u32 w a len cap zs) : ∃ l, Words32 w a len l := by
  rcases h with ⟨rfl, rfl, rfl, rfl⟩ | ⟨x, rfl, hl, hm, hz, hc, hw⟩
  · exact ⟨[], rfl, by unfold maxLen; omega, fun i hi => by omega⟩
  · obtain ⟨l, rfl⟩ := u32_list hw
    rw [List.length_map] at hz
    refine ⟨l.take len, by simp; omega, by omega, fun i hi => ⟨x, rfl, ?_⟩⟩
    rw [hc i (by rw [List.length_map]; omega)]
    congr 2
    rw [List.getD_eq_getElem?_getD, List.getD_eq_getElem?_getD, List.getElem?_map, List.getElem?_take, if_pos hi]
    have : i < l.length := by omega
    rw [List.getElem?_eq_getElem this]
    rfl
theorem Words32.keep {w w' : World} {a : Option Addr} {n : Nat} {l : List (BitVec 32)} (h : Words32 w a n l) (hk : ∀ p : Addr, (w.cell? p).isSome = true → w'.cell? p = w.cell? p) : Words32 w' a n l := by
  refine ⟨h.1, h.2.1, fun i hi => ?_⟩
  obtain ⟨x, rfl, hx⟩ := h.2.2 i hi
  exact ⟨x, rfl, by rw [hk _ (by rw [hx]; rfl)]; exact hx⟩
theorem isSome_lt {w : World} {p : Addr} (h : (w.cell? p).isSome = true) : p.block < w.heap.size := by
  rcases Nat.lt_or_ge p.block w.heap.size with hlt | hge
  · exact hlt
  · have : w.heap[p.block]? = none := Array.getElem?_eq_none hge
    unfold World.cell? at h
    rw [this] at h
    simp at h
theorem Words32.below {w w' : World} {a : Option Addr} {n : Nat} {l : List (BitVec 32)} (h : Words32 w a n l) (hb : Below w.heap.size w w') : Words32 w' a n l :=
  h.keep fun _ hp => hb.cell (isSome_lt hp)
section
variable {H : Type} {enc : TypeId × Value → H} {P : Program} {W : World} {base : Nat} {v : Value} {d : DataW H} {p : List MemPlace}
theorem arg_u32 {t : TypeId} (ht : P.underlying t = some (.int .u32)) (o : Value.okWide P W .any base t v) (h : DataW.Trod enc P W 0 (fun _ => true) true t v d p) : ∃ x : BitVec 32, v = .int .u32 (nb32 x) := by
  obtain ⟨a, rfl, rfl, rfl, wa⟩ := open_int ht o h
  obtain ⟨x, rfl⟩ := u32_of_wf wa
  exact ⟨x, rfl⟩
theorem arg_u64 {t : TypeId} (ht : P.underlying t = some (.int .u64)) (o : Value.okWide P W .any base t v) (h : DataW.Trod enc P W 0 (fun _ => true) true t v d p) : ∃ x : BitVec 64, v = .int .u64 (nb64 x) := by
  obtain ⟨a, rfl, rfl, rfl, wa⟩ := open_int ht o h
  have := bounds_u64 wa
  obtain ⟨x, rfl⟩ := u64_of_bounds this.1 (by omega)
  exact ⟨x, rfl⟩
theorem arg_words {t e : TypeId} (ht : P.underlying t = some (.slice e)) (he : P.underlying e = some (.int .u32)) (hc : P.cellsOf e = 1) (o : Value.okWide P W .any base t v) (h : DataW.Trod enc P W 0 (fun _ => true) true t v d p) :
    ∃ (a : Option Addr) (n c : Nat) (l : List (BitVec 32)), v = .slice a n c ∧ Words32 W a n l := by
  obtain ⟨a, n, c, rfl⟩ := okWide_slice ht o
  obtain ⟨fuel, hf⟩ := h
  refine ⟨a, n, c, ?_⟩
  rcases open_ints ht he hc hf with ⟨hcs, _⟩ | ⟨x, l, cp, zs, hcs, _, hl, hm, hz, _, hcell, hwz⟩
  · simp [Value.cells] at hcs
    obtain ⟨rfl, rfl, rfl⟩ := hcs
    obtain ⟨l, hl⟩ := words_of_row (w := W) (.inl ⟨rfl, rfl, rfl, rfl⟩)
    exact ⟨l, rfl, hl⟩
  · simp [Value.cells] at hcs
    obtain ⟨rfl, rfl, rfl⟩ := hcs
    obtain ⟨l, hl⟩ := words_of_row (w := W) (.inr ⟨_, rfl, hl, hm, by simpa using hz, hcell, hwz⟩)
    exact ⟨l, rfl, hl⟩
theorem arg_wordsc {t e : TypeId} (ht : P.underlying t = some (.slice e)) (he : P.underlying e = some (.int .u32)) (hc : P.cellsOf e = 1) (o : Value.okWide P W .any base t v) (h : DataW.Trod enc P W 0 (fun _ => true) true t v d p) :
    ∃ (a : Option Addr) (n c : Nat) (l : List (BitVec 32)), v = .slice a n c ∧ Words32 W a n l ∧ n ≤ c ∧ (a = none → c = 0) := by
  obtain ⟨a, n, c, rfl⟩ := okWide_slice ht o
  obtain ⟨fuel, hf⟩ := h
  refine ⟨a, n, c, ?_⟩
  rcases open_ints ht he hc hf with ⟨hcs, _⟩ | ⟨x, l, cp, zs, hcs, _, hl, hm, hz, _, hcell, hwz⟩
  · simp [Value.cells] at hcs
    obtain ⟨rfl, rfl, rfl⟩ := hcs
    obtain ⟨l, hl⟩ := words_of_row (w := W) (.inl ⟨rfl, rfl, rfl, rfl⟩)
    exact ⟨l, rfl, hl, Nat.le_refl _, fun _ => rfl⟩
  · simp [Value.cells] at hcs
    obtain ⟨rfl, rfl, rfl⟩ := hcs
    obtain ⟨l, hw⟩ := words_of_row (w := W) (.inr ⟨_, rfl, hl, hm, by simpa using hz, hcell, hwz⟩)
    exact ⟨l, rfl, hw, hl, fun e => by cases e⟩
end
/-- the exclusive or of all -/
def xors (l : List (BitVec 32)) : BitVec 32 := l.foldl (· ^^^ ·) 0
theorem xors_take (l : List (BitVec 32)) (k : Nat) (h : k < l.length) : xors (l.take (k + 1)) = xors (l.take k) ^^^ l.getD k 0 := by
  rw [List.take_succ_eq_append_getElem h, xors, List.foldl_append, List.getD_eq_getElem?_getD, List.getElem?_eq_getElem h]
  rfl
end Go.Proofs.Ytamigcbodplmcaa

/-! The reference's product, and sums. -/
namespace Go.Proofs.Ytamigcbodplmcaa
open Go.RowKit
namespace Gf
/-- one step of the reference's rest -/
def restStep (p : BitVec 64) (i : Nat) : BitVec 64 := if p.getLsbD i then p ^^^ (4294967437#64 <<< (i - 32)) else p
/-- the bits from 63 down to n -/
def restDown (p : BitVec 64) : Nat → BitVec 64
  | 0 => p
  | k + 1 => restStep (restDown p k) (63 - k)
theorem lin_restStep (i : Nat) : Lin (fun p => restStep p i) := fun x y => by
  show restStep (x ^^^ y) i = restStep x i ^^^ restStep y i
  unfold restStep
  rw [BitVec.getLsbD_xor]
  generalize 4294967437#64 <<< (i - 32) = c
  have e : ∀ a b c : BitVec 64, a ^^^ c ^^^ (b ^^^ c) = a ^^^ b ^^^ (c ^^^ c) := fun a b c => by ac_rfl
  cases x.getLsbD i <;> cases y.getLsbD i <;> simp
  · ac_rfl
  · ac_rfl
  · rw [e, BitVec.xor_self, BitVec.xor_zero]
theorem lin_restDown : ∀ k, Lin (fun p => restDown p k)
  | 0 => Lin.id
  | k + 1 => (lin_restStep _).comp (lin_restDown k)
theorem rest_reduce (p : BitVec 64) (h : p &&& 0x7fffffffffffffff#64 = p) : (restDown p 32).setWidth 32 = reduce p := by
  have := lin_ext (f := fun p => (restDown (p &&& 0x7fffffffffffffff#64) 32).setWidth 32) (g := fun p => reduce (p &&& 0x7fffffffffffffff#64))
    ((lin_setWidth 32).comp ((lin_restDown 32).comp (lin_and _))) (lin_reduce.comp (lin_and _)) (by decide +kernel) p
  simpa only [h] using this
theorem clm_low (a b : BitVec 32) : ∀ k, k ≤ 32 → clm a b k &&& 0x7fffffffffffffff#64 = clm a b k
  | 0, _ => by simp [clm]
  | k + 1, h => by
    rw [clm, show ∀ p q m : BitVec 64, (p ^^^ q) &&& m = (p &&& m) ^^^ (q &&& m) from fun p q m => lin_and m p q, clm_low a b k (by omega)]
    congr 1
    generalize a &&& mask b k = x
    exact lin_ext (f := fun x : BitVec 32 => x.setWidth 64 <<< k &&& 0x7fffffffffffffff#64) (g := fun x : BitVec 32 => x.setWidth 64 <<< k)
      ((lin_and _).comp ((lin_shl k).comp (lin_setWidth 64))) ((lin_shl k).comp (lin_setWidth 64)) (by
        have : ∀ k, k < 32 → ∀ i, i < 32 → (BitVec.twoPow 32 i).setWidth 64 <<< k &&& 0x7fffffffffffffff#64 = (BitVec.twoPow 32 i).setWidth 64 <<< k := by decide +kernel
        exact this k (by omega)) x
theorem clm_bit (a b : BitVec 32) (k : Nat) : clm a b (k + 1) = if b.getLsbD k then clm a b k ^^^ (a.setWidth 64 <<< k) else clm a b k := by
  rw [clm, mask_eq]
  cases b.getLsbD k
  · simp
  · rw [if_pos rfl, if_pos rfl, BitVec.and_allOnes]
end Gf
theorem rest_any (p : BitVec 64) (w : World) :
    Calls Try.prog 57 #[.int .u64 (nb64 p)] w fun e w' => e = .returned (.int .u32 (nb32 ((Gf.restDown p 32).setWidth 32))) ∧ w = w' := by
  go_enter Try.func57, Try.ntmps57
  go_wp2
  go_loop [0, 3] (fun x i => ∃ k : Nat, k ≤ 32 ∧ i = .int .i64 ((63 - k : Nat) : Int) ∧ x = .int .u64 (nb64 (Gf.restDown p k))) (fun _ i => (intOf i).toNat)
  case atStart => exact ⟨0, Nat.zero_le _, rfl, rfl⟩
  case round =>
    obtain ⟨k, hk, rfl, rfl⟩ := hrel
    by_cases hlt : k < 32
    · obtain ⟨n, hn, hn1, hn2⟩ : ∃ n, n = 63 - k ∧ 32 ≤ n ∧ n ≤ 63 := ⟨63 - k, rfl, by omega, by omega⟩
      have hs : Gf.restStep (Gf.restDown p k) n = Gf.restDown p (k + 1) := by rw [hn]; rfl
      have hm : n - 1 = 63 - (k + 1) := by omega
      rw [← hn]
      have HS := Lib.hid hs
      have HM := Lib.hid hm
      have HN := Lib.hid hn
      have h1 : IntKind.u64.wrap ((n : Int) - 32) = ((n - 32 : Nat) : Int) := by rw [IntKind.wrap_u64]; omega
      have hbit := u64_bit (Gf.restDown p k) n
      clear hs hm hn
      cases hb : (Gf.restDown p k).getLsbD n
      · have HS2 : Hid (Gf.restDown p k = Gf.restDown p (k + 1)) := by have := HS.out; rw [Gf.restStep, hb] at this; exact this
        rw [hb] at hbit
        clear hb
        go_wp2
        go_round
        case rel => exact ⟨k + 1, by omega, by rw [← HM.out]; congr 1; omega, by rw [HS2.out]⟩
        case measure => simp [intOf]; omega
      · have HS2 : Hid (Gf.restDown p k ^^^ (4294967437#64 <<< (n - 32)) = Gf.restDown p (k + 1)) := by have := HS.out; rw [Gf.restStep, hb] at this; exact this
        rw [hb] at hbit
        clear hb
        go_wp2
        go_round
        case rel => exact ⟨k + 1, by omega, by rw [← HM.out]; congr 1; omega, by rw [HS2.out]⟩
        case measure => simp [intOf]; omega
    · obtain rfl : k = 32 := by omega
      go_wp2
      go_ret
      exact ⟨rfl, rfl⟩
theorem rmul_any (a b : BitVec 32) (w : World) :
    Calls Try.prog 43 #[.int .u32 (nb32 a), .int .u32 (nb32 b)] w fun e w' => e = .returned (.int .u32 (nb32 (Gf.mul a b))) ∧ w = w' := by
  have hfin : (Gf.restDown (Gf.clm a b 32) 32).setWidth 32 = Gf.mul a b := Gf.rest_reduce _ (Gf.clm_low a b 32 (Nat.le_refl _))
  have HF := Lib.hid hfin
  clear hfin
  go_enter Try.func43, Try.ntmps43
  go_wp2
  go_loop [5, 6] (fun p i => ∃ k : Nat, k ≤ 32 ∧ i = .int .i64 k ∧ p = .int .u64 (nb64 (Gf.clm a b k))) (fun _ i => 32 - (intOf i).toNat)
  case atStart => exact ⟨0, Nat.zero_le _, rfl, rfl⟩
  case round =>
    obtain ⟨k, hk, rfl, rfl⟩ := hrel
    by_cases hlt : k < 32
    · have hs := Gf.clm_bit a b k
      have hbit := u32_bit b k
      cases hb : b.getLsbD k
      · rw [hb] at hbit hs
        have HS := Lib.hid hs
        clear hb hs
        go_wp2
        go_round
        case rel => exact ⟨k + 1, by omega, by go_num, by rw [HS.out]; rfl⟩
        case measure => simp [intOf]; omega
      · rw [hb] at hbit hs
        have HS := Lib.hid hs
        clear hb hs
        go_wp2
        go_round
        case rel => exact ⟨k + 1, by omega, by go_num, by rw [HS.out]; rfl⟩
        case measure => simp [intOf]; omega
    · obtain rfl : k = 32 := by omega
      go_wp2_with (go_at_call 57; refine (rest_any _ _).mono ?_; rintro e w' ⟨rfl, rfl⟩)
      go_ret
      exact ⟨ret_v (by rw [← HF.out]; rfl), rfl⟩
theorem sum_any (a : Option Addr) (n c : Nat) (l : List (BitVec 32)) (w : World) (h : Words32 w a n l) :
    Calls Try.prog 32 #[.slice a n c] w fun e w' => e = .returned (.int .u32 (nb32 (xors l))) ∧ w = w' := by
  obtain ⟨hl, hm, hc⟩ := h
  unfold maxLen at hm
  go_enter Try.func32, Try.ntmps32
  go_wp2
  go_loop [3, 8] (fun s i => ∃ k : Nat, k ≤ n ∧ i = .int .i64 k ∧ s = .int .u32 (nb32 (xors (l.take k)))) (fun _ i => n - (intOf i).toNat)
  case atStart => exact ⟨0, Nat.zero_le _, rfl, rfl⟩
  case round =>
    obtain ⟨k, hk, rfl, rfl⟩ := hrel
    by_cases hlt : k < n
    · obtain ⟨x, rfl, hx⟩ := hc k hlt
      have hs := xors_take l k (by omega)
      have HS := Lib.hid hs
      clear hs hc hl
      go_wp2
      go_round
      case rel => exact ⟨k + 1, by omega, by go_num, by rw [HS.out, List.getD_eq_getElem?_getD]; rfl⟩
      case measure => simp [intOf]; omega
    · obtain rfl : k = n := by omega
      have ht : l.take k = l := List.take_of_length_le (by omega)
      have HT := Lib.hid ht
      clear ht hl hc
      go_wp2
      go_ret
      exact ⟨ret_v (by rw [HT.out]; rfl), rfl⟩
end Go.Proofs.Ytamigcbodplmcaa

/-! Euclid's way to an inverse: what it keeps. Nothing of the program but the reference's rest as a function. -/
namespace Go.Proofs.Ytamigcbodplmcaa.Gf

/-- the rest of a polynomial of up to 64 bits -/
def rst (p : BitVec 64) : BitVec 32 := (restDown p 32).setWidth 32
theorem lin_rst : Lin rst := (lin_setWidth 32).comp (lin_restDown 32)
theorem rst_low (a : BitVec 32) : rst (a.setWidth 64) = a :=
  lin_ext (f := fun a : BitVec 32 => rst (a.setWidth 64)) (g := fun a => a) (lin_rst.comp (lin_setWidth 64)) Lin.id (by decide +kernel) a
theorem rst_shift (y : BitVec 64) (h : y &&& 0x7fffffffffffffff#64 = y) : rst (y <<< 1) = double (rst y) := by
  have e := lin_ext (f := fun y => rst ((y &&& 0x7fffffffffffffff#64) <<< 1)) (g := fun y => double (rst (y &&& 0x7fffffffffffffff#64)))
    (lin_rst.comp ((lin_shl 1).comp (lin_and _))) (lin_double.comp (lin_rst.comp (lin_and _))) (by decide +kernel) y
  simpa only [h] using e
theorem top_clear (y : BitVec 64) (h : y.toNat < 9223372036854775808) : y &&& 0x7fffffffffffffff#64 = y := by
  apply BitVec.eq_of_getLsbD_eq
  intro i hi
  rw [BitVec.getLsbD_and]
  rcases Nat.lt_or_ge i 63 with h' | h'
  · have : ∀ i, i < 63 → (0x7fffffffffffffff#64).getLsbD i = true := by decide +kernel
    rw [this i h', Bool.and_true]
  · have : y.getLsbD i = false := Nat.testBit_lt_two_pow (Nat.lt_of_lt_of_le h (Nat.pow_le_pow_right (n := 2) (by omega) h'))
    rw [this, Bool.false_and]
theorem shl_toNat (y : BitVec 64) (k : Nat) (h : y.toNat * 2 ^ k < 18446744073709551616) : (y <<< k).toNat = y.toNat * 2 ^ k := by
  rw [BitVec.toNat_shiftLeft, Nat.shiftLeft_eq]
  exact Nat.mod_eq_of_lt h
theorem rst_shl (y : BitVec 64) : ∀ k, y.toNat * 2 ^ k < 18446744073709551616 → rst (y <<< k) = dbl (rst y) k
  | 0, _ => by rw [BitVec.shiftLeft_zero]; rfl
  | k + 1, h => by
    have h1 : y.toNat * 2 ^ k < 9223372036854775808 := by
      rw [Nat.pow_succ, ← Nat.mul_assoc] at h; omega
    have h2 : y.toNat * 2 ^ k < 18446744073709551616 := by omega
    rw [BitVec.shiftLeft_add, rst_shift _ (top_clear _ (by rw [shl_toNat y k h2]; exact h1)), rst_shl y k h2]
    rfl
def modulus : BitVec 64 := 4294967437#64
theorem rst_modulus : rst modulus = 0 := by decide +kernel

/-! ### products of polynomials, modulo x^64 -/
def pt (c : Bool) (x : BitVec 64) : BitVec 64 := if c then x else 0
def cl (p q : BitVec 64) : Nat → BitVec 64
  | 0 => 0
  | k + 1 => cl p q k ^^^ pt (q.getLsbD k) (p <<< k)
theorem pt_xor (c : Bool) (x y : BitVec 64) : pt c (x ^^^ y) = pt c x ^^^ pt c y := by cases c <;> simp [pt]
theorem pt_xor' (c d : Bool) (x : BitVec 64) : pt (c ^^ d) x = pt c x ^^^ pt d x := by cases c <;> cases d <;> simp [pt]
theorem lin_cl_left (q : BitVec 64) : ∀ k, Lin (fun p => cl p q k)
  | 0 => Lin.const0
  | k + 1 => (lin_cl_left q k).add fun x y => by
    show pt _ ((x ^^^ y) <<< k) = _
    rw [show (x ^^^ y) <<< k = x <<< k ^^^ y <<< k from lin_shl k x y, pt_xor]
theorem lin_cl_right (p : BitVec 64) : ∀ k, Lin (fun q => cl p q k)
  | 0 => Lin.const0
  | k + 1 => (lin_cl_right p k).add fun x y => by
    show pt ((x ^^^ y).getLsbD k) _ = _
    rw [BitVec.getLsbD_xor, pt_xor']
theorem cl_twoPow (p : BitVec 64) (j : Nat) (hj : j < 64) : ∀ k, cl p (BitVec.twoPow 64 j) k = if j < k then p <<< j else 0
  | 0 => by simp [cl]
  | k + 1 => by
    rw [cl, cl_twoPow p j hj k, BitVec.getLsbD_twoPow]
    rcases Nat.lt_trichotomy j k with h | h | h
    · have h1 : j < k + 1 := by omega
      have h2 : ¬ j = k := by omega
      simp [h, h1, h2, pt]
    · subst h
      simp [hj, pt]
    · have h1 : ¬ j < k + 1 := by omega
      have h2 : ¬ j = k := by omega
      have h3 : ¬ j < k := by omega
      simp [h1, h2, h3, pt]
theorem shl_big (x : BitVec 64) (k : Nat) (h : 64 ≤ k) : x <<< k = 0 := by
  apply BitVec.eq_of_toNat_eq
  rw [BitVec.toNat_shiftLeft, Nat.shiftLeft_eq]
  obtain ⟨d, rfl⟩ := Nat.exists_eq_add_of_le h
  rw [Nat.pow_add, ← Nat.mul_assoc, Nat.mul_right_comm]
  exact Nat.mul_mod_left _ _
theorem twoPow_shl (j k : Nat) (h : j + k < 64) : BitVec.twoPow 64 j <<< k = BitVec.twoPow 64 (j + k) := by
  apply BitVec.eq_of_getLsbD_eq
  intro i hi
  rw [BitVec.getLsbD_shiftLeft, BitVec.getLsbD_twoPow, BitVec.getLsbD_twoPow]
  have h1 : j < 64 := by omega
  by_cases hik : i < k
  · have : ¬ j + k = i := by omega
    simp [hik, this]
  · by_cases e : j + k = i
    · subst e
      have h3 : j + k - k = j := by omega
      simp [h3, h1, h]
    · have : ¬ j = i - k := by omega
      simp [e, this]
theorem cl_shl (p q : BitVec 64) (k : Nat) : cl (p <<< k) q 64 = cl p (q <<< k) 64 := by
  refine lin_ext (f := fun q => cl (p <<< k) q 64) (g := fun q => cl p (q <<< k) 64) (lin_cl_right _ 64) ((lin_cl_right p 64).comp (lin_shl k)) (fun j hj => ?_) q
  show cl (p <<< k) (BitVec.twoPow 64 j) 64 = cl p (BitVec.twoPow 64 j <<< k) 64
  rw [cl_twoPow _ j hj, if_pos hj, ← BitVec.shiftLeft_add]
  rcases Nat.lt_or_ge (j + k) 64 with h | h
  · rw [twoPow_shl j k h, cl_twoPow _ (j + k) h, if_pos h, Nat.add_comm]
  · have e : BitVec.twoPow 64 j <<< k = 0 := by
      apply BitVec.eq_of_toNat_eq
      rw [BitVec.toNat_shiftLeft, Nat.shiftLeft_eq, BitVec.toNat_twoPow]
      rw [Nat.mod_eq_of_lt (Nat.pow_lt_pow_right (by omega) hj), ← Nat.pow_add]
      obtain ⟨d, hd⟩ := Nat.exists_eq_add_of_le h
      rw [hd, Nat.pow_add]
      exact Nat.mul_mod_right _ _
    rw [e, shl_big _ _ (by omega)]
    exact ((lin_cl_right p 64).zero).symm
theorem cl_clm (a b : BitVec 32) : ∀ k, cl (a.setWidth 64) (b.setWidth 64) k = clm a b k
  | 0 => rfl
  | k + 1 => by
    rw [cl, cl_clm a b k, clm_bit]
    have : (b.setWidth 64).getLsbD k = b.getLsbD k := by
      rw [BitVec.getLsbD_setWidth]
      rcases Nat.lt_or_ge k 64 with h | h
      · simp [h]
      · rw [BitVec.getLsbD_of_ge b k (by omega), Bool.and_false]
    rw [this]
    cases b.getLsbD k
    · simp [pt]
    · simp [pt]
theorem clm_stop (a b : BitVec 32) : ∀ d, clm a b (32 + d) = clm a b 32
  | 0 => rfl
  | d + 1 => by
    rw [show 32 + (d + 1) = 32 + d + 1 from rfl, clm_bit, BitVec.getLsbD_of_ge b (32 + d) (by omega), clm_stop a b d]
    rfl
theorem rst_cl (a b : BitVec 32) : rst (cl (a.setWidth 64) (b.setWidth 64) 64) = mul a b := by
  rw [cl_clm, show (64 : Nat) = 32 + 32 from rfl, clm_stop a b 32]
  exact rest_reduce _ (clm_low a b 32 (Nat.le_refl _))
theorem back32 (p : BitVec 64) (h : p.toNat < 4294967296) : (p.setWidth 32).setWidth 64 = p := by
  apply BitVec.eq_of_toNat_eq
  rw [BitVec.toNat_setWidth, BitVec.toNat_setWidth]
  omega

/-! ### degrees -/
theorem bits_of {n a : Nat} (h1 : 2 ^ n ≤ a) (h2 : a < 2 ^ (n + 1)) : a.testBit n = true := by
  have e : a / 2 ^ n = 1 := by
    rw [Nat.pow_succ] at h2
    have hp : 0 < 2 ^ n := Nat.pow_pos (by omega)
    apply Nat.le_antisymm
    · exact Nat.le_of_lt_succ ((Nat.div_lt_iff_lt_mul hp).2 (by omega))
    · exact (Nat.le_div_iff_mul_le hp).2 (by omega)
  rw [Nat.testBit, Nat.shiftRight_eq_div_pow, e]
  rfl
theorem xor_top {n a b : Nat} (h1 : 2 ^ n ≤ a) (h2 : a < 2 ^ (n + 1)) (h3 : 2 ^ n ≤ b) (h4 : b < 2 ^ (n + 1)) : a ^^^ b < 2 ^ n := by
  apply Nat.lt_pow_two_of_testBit
  intro i hi
  rw [Nat.testBit_xor]
  rcases Nat.eq_or_lt_of_le hi with e | e
  · rw [← e, bits_of h1 h2, bits_of h3 h4]; rfl
  · rw [Nat.testBit_lt_two_pow (Nat.lt_of_lt_of_le h2 (Nat.pow_le_pow_right (by omega) e)), Nat.testBit_lt_two_pow (Nat.lt_of_lt_of_le h4 (Nat.pow_le_pow_right (by omega) e))]; rfl
theorem log_le {n : Nat} (h : n ≠ 0) : 2 ^ n.log2 ≤ n := Nat.log2_self_le h
theorem lt_log (n : Nat) : n < 2 ^ (n.log2 + 1) := Nat.lt_log2_self
/-- what a round of Euclid's way finds and leaves -/
structure Euc (a : BitVec 32) (u v x y : BitVec 64) : Prop where
  u0 : u ≠ 0
  v1 : 2 ≤ v.toNat
  u33 : u.toNat < 8589934592
  v33 : v.toNat < 8589934592
  one : u.toNat < 4294967296 ∨ v.toNat < 4294967296
  xb : x.toNat * 2 ^ v.toNat.log2 < 8589934592
  yb : y.toNat * 2 ^ u.toNat.log2 < 8589934592
  whole : cl x v 64 ^^^ cl y u 64 = modulus
  ru : rst u = mul a (rst x)
  rv : rst v = mul a (rst y)
theorem Euc.swap {a : BitVec 32} {u v x y : BitVec 64} (h : Euc a u v x y) (hu : 2 ≤ u.toNat) : Euc a v u y x :=
  ⟨fun e => by have := h.v1; rw [e] at this; simp at this, hu, h.v33, h.u33, h.one.symm, h.yb, h.xb, by rw [BitVec.xor_comm]; exact h.whole, h.rv, h.ru⟩
theorem Euc.start {a : BitVec 32} (ha : a ≠ 0) : Euc a (a.setWidth 64) modulus 1 0 := by
  have hlt := a.isLt
  have e : (a.setWidth 64).toNat = a.toNat := by rw [BitVec.toNat_setWidth]; omega
  have e1 : (1 : BitVec 64).toNat = 1 := rfl
  have hm : modulus.toNat = 4294967437 := rfl
  have hl : (4294967437 : Nat).log2 = 32 := by decide +kernel
  refine ⟨fun h => ha ?_, by rw [hm]; omega, by omega, by rw [hm]; omega, .inl (by omega), ?_, ?_, ?_, ?_, ?_⟩
  · apply BitVec.eq_of_toNat_eq
    rw [← e, h]
    rfl
  · rw [hm, hl, e1]; decide
  · show 0 * _ < _
    rw [Nat.zero_mul]; decide
  · have h1 : cl 1 modulus 64 = modulus := by decide +kernel
    have h2 : cl 0 (a.setWidth 64) 64 = 0 := (lin_cl_left (a.setWidth 64) 64).zero
    rw [h1, h2]
    exact BitVec.xor_zero
  · have h1 : rst 1 = 1 := by decide +kernel
    rw [h1, mul_one]
    exact rst_low a
  · rw [lin_rst.zero, mul_zero]
    exact rst_modulus
theorem Euc.step {a : BitVec 32} {u v x y : BitVec 64} (h : Euc a u v x y) (hd : v.toNat.log2 ≤ u.toNat.log2) :
    Euc a (u ^^^ v <<< (u.toNat.log2 - v.toNat.log2)) v (x ^^^ y <<< (u.toNat.log2 - v.toNat.log2)) y ∧ (u ^^^ v <<< (u.toNat.log2 - v.toNat.log2)).toNat < u.toNat := by
  obtain ⟨u0, v1, u33, v33, one, xb, yb, whole, ru, rv⟩ := h
  have hu0 : u.toNat ≠ 0 := fun e => u0 (BitVec.eq_of_toNat_eq e)
  have hv0 : v.toNat ≠ 0 := by omega
  generalize hk : u.toNat.log2 - v.toNat.log2 = k
  generalize hdu : u.toNat.log2 = du at *
  generalize hdv : v.toNat.log2 = dv at *
  have hle : du = dv + k := by omega
  have lu1 := log_le hu0
  have lu2 := lt_log u.toNat
  have lv1 := log_le hv0
  have lv2 := lt_log v.toNat
  rw [hdu] at lu1 lu2
  rw [hdv] at lv1 lv2
  have hdu33 : du < 33 := by
    rcases Nat.lt_or_ge du 33 with h | h
    · exact h
    · have := Nat.pow_le_pow_right (n := 2) (by omega) h
      have e : (2 : Nat) ^ 33 = 8589934592 := by decide
      omega
  have hdv1 : 1 ≤ dv := by
    rcases Nat.eq_zero_or_pos dv with h | h
    · rw [h] at lv2; simp at lv2; omega
    · exact h
  have p33 : 2 ^ (du + 1) ≤ 8589934592 := by
    have := Nat.pow_le_pow_right (n := 2) (by omega) (show du + 1 ≤ 33 by omega)
    have e : (2 : Nat) ^ 33 = 8589934592 := by decide
    omega
  have hvk1 : 2 ^ du ≤ v.toNat * 2 ^ k := by rw [hle, Nat.pow_add]; exact Nat.mul_le_mul_right _ lv1
  have hvk2 : v.toNat * 2 ^ k < 2 ^ (du + 1) := by
    rw [show du + 1 = (dv + 1) + k from by omega, Nat.pow_add]
    exact Nat.mul_lt_mul_of_pos_right lv2 (Nat.pow_pos (by omega))
  have hvs := shl_toNat v k (by omega)
  have hyk : y.toNat * 2 ^ k * 2 ^ dv < 8589934592 := by
    rw [Nat.mul_assoc, ← Nat.pow_add, Nat.add_comm k, ← hle]; exact yb
  have hpd : 0 < 2 ^ dv := Nat.pow_pos (by omega)
  have hyk' : y.toNat * 2 ^ k < 8589934592 := Nat.lt_of_le_of_lt (Nat.le_mul_of_pos_right _ hpd) hyk
  have hys := shl_toNat y k (by omega)
  have hlt : (u ^^^ v <<< k).toNat < 2 ^ du := by
    rw [BitVec.toNat_xor, hvs]
    exact xor_top lu1 lu2 hvk1 hvk2
  have hdv33 : dv ≤ 33 := by omega
  have e33 : ∀ z : Nat, z * 2 ^ dv < 8589934592 ↔ z < 2 ^ (33 - dv) := fun z => by
    have : (8589934592 : Nat) = 2 ^ (33 - dv) * 2 ^ dv := by rw [← Nat.pow_add, show 33 - dv + dv = 33 from by omega]
    rw [this]
    exact Nat.mul_lt_mul_right hpd
  have hxb : (x ^^^ y <<< k).toNat * 2 ^ dv < 8589934592 := by
    rw [e33, BitVec.toNat_xor, hys]
    exact Nat.xor_lt_two_pow ((e33 _).1 xb) ((e33 _).1 hyk)
  have hwhole : cl (x ^^^ y <<< k) v 64 ^^^ cl y (u ^^^ v <<< k) 64 = modulus := by
    have h1 : cl (x ^^^ y <<< k) v 64 = cl x v 64 ^^^ cl (y <<< k) v 64 := lin_cl_left v 64 _ _
    have h2 : cl y (u ^^^ v <<< k) 64 = cl y u 64 ^^^ cl y (v <<< k) 64 := lin_cl_right y 64 _ _
    have e : ∀ p q r : BitVec 64, (p ^^^ q) ^^^ (r ^^^ q) = (p ^^^ r) ^^^ (q ^^^ q) := fun p q r => by ac_rfl
    rw [h1, h2, cl_shl, e, BitVec.xor_self, BitVec.xor_zero, whole]
  have hu1 : u ^^^ v <<< k ≠ 0 := by
    intro e
    rw [e] at hwhole
    have hz : cl y 0 64 = 0 := (lin_cl_right y 64).zero
    rw [hz, show cl (x ^^^ y <<< k) v 64 ^^^ (0 : BitVec 64) = cl (x ^^^ y <<< k) v 64 from BitVec.xor_zero] at hwhole
    have hdv31 : dv ≤ 31 := by
      rcases one with o | o
      · rcases Nat.lt_or_ge du 32 with h | h
        · omega
        · have := Nat.pow_le_pow_right (n := 2) (by omega) h
          have e : (2 : Nat) ^ 32 = 4294967296 := by decide
          omega
      · rcases Nat.lt_or_ge dv 32 with h | h
        · omega
        · have := Nat.pow_le_pow_right (n := 2) (by omega) h
          have e : (2 : Nat) ^ 32 = 4294967296 := by decide
          omega
    have hv32 : v.toNat < 4294967296 := by
      have := Nat.pow_le_pow_right (n := 2) (by omega) (show dv + 1 ≤ 32 by omega)
      have e : (2 : Nat) ^ 32 = 4294967296 := by decide
      omega
    have hx32 : (x ^^^ y <<< k).toNat < 4294967296 := by
      have h2 : 2 ^ 1 ≤ 2 ^ dv := Nat.pow_le_pow_right (by omega) hdv1
      have := Nat.mul_le_mul_left (x ^^^ y <<< k).toNat h2
      omega
    generalize x ^^^ y <<< k = z at hwhole hx32
    have hc := rst_cl (z.setWidth 32) (v.setWidth 32)
    rw [back32 z hx32, back32 v hv32, hwhole, rst_modulus] at hc
    rcases no_divisors hc.symm with h | h
    · have : z = 0 := by rw [← back32 z hx32, h]; rfl
      rw [this, show cl 0 v 64 = 0 from (lin_cl_left v 64).zero] at hwhole
      exact absurd hwhole (by decide +kernel)
    · have : v = 0 := by rw [← back32 v hv32, h]; rfl
      rw [this] at hv0
      exact hv0 rfl
  have hltu : (u ^^^ v <<< k).toNat < u.toNat := Nat.lt_of_lt_of_le hlt lu1
  refine ⟨⟨hu1, v1, by omega, v33, ?_, by rw [hdv]; exact hxb, ?_, hwhole, ?_, rv⟩, hltu⟩
  · rcases one with o | o
    · exact .inl (by omega)
    · exact .inr o
  · have hn0 : (u ^^^ v <<< k).toNat ≠ 0 := fun e => hu1 (BitVec.eq_of_toNat_eq e)
    have : (u ^^^ v <<< k).toNat.log2 ≤ du := by
      have := (Nat.log2_lt hn0).2 hlt
      omega
    exact Nat.lt_of_le_of_lt (Nat.mul_le_mul_left _ (Nat.pow_le_pow_right (by omega) this)) yb
  · rw [lin_rst, lin_rst, ru, rst_shl v k (by omega), rst_shl y k (by omega), mul_xor, mul_dbl, rv]
theorem Euc.ends {a : BitVec 32} {u v x y : BitVec 64} (h : Euc a u v x y) (ha : a ≠ 0) (hu : u.toNat < 2) : rst x = inv a := by
  have e : u = 1 := by
    apply BitVec.eq_of_toNat_eq
    have h0 : u.toNat ≠ 0 := fun e => h.u0 (BitVec.eq_of_toNat_eq e)
    show u.toNat = 1
    omega
  have hr := h.ru
  rw [e, show rst 1 = 1 from by decide +kernel] at hr
  rw [← one_mul (rst x), ← mul_inv ha, mul_comm a, mul_assoc, ← hr, mul_one]
end Go.Proofs.Ytamigcbodplmcaa.Gf

/-! The reference's powers and traces. -/
namespace Go.Proofs.Ytamigcbodplmcaa
open Go.RowKit
theorem u64_two (n : BitVec 64) : n.toNat = 2 * (n / 2#64).toNat + (if n % 2#64 == 1#64 then 1 else 0) := by
  have e : n % 2#64 = 1#64 ↔ n.toNat % 2 = 1 := by
    rw [← BitVec.toNat_inj, BitVec.toNat_umod]
    simp only [BitVec.toNat_ofNat, Nat.reducePow, Nat.reduceMod]
  have e2 : (n / 2#64).toNat = n.toNat / 2 := by rw [BitVec.toNat_udiv]; rfl
  rw [e2]
  by_cases h : n % 2#64 = 1#64
  · rw [if_pos (by rw [beq_iff_eq]; exact h)]
    have := e.1 h
    omega
  · rw [if_neg (by rw [beq_iff_eq]; exact h)]
    have : ¬ n.toNat % 2 = 1 := fun hh => h (e.2 hh)
    omega
theorem pow_even (a : BitVec 32) (n : BitVec 64) (h : (n % 2#64 == 1#64) = false) : Gf.mul (Gf.pow a (n / 2#64).toNat) (Gf.pow a (n / 2#64).toNat) = Gf.pow a n.toNat := by
  have := u64_two n
  rw [h] at this
  rw [this, ← Gf.pow_add]
  congr 1
  simp; omega
theorem pow_odd (a : BitVec 32) (n : BitVec 64) (h : (n % 2#64 == 1#64) = true) : Gf.mul (Gf.mul (Gf.pow a (n / 2#64).toNat) (Gf.pow a (n / 2#64).toNat)) a = Gf.pow a n.toNat := by
  have := u64_two n
  rw [h] at this
  rw [this, ← Gf.pow_add, if_pos rfl, show 2 * (n / 2#64).toNat = (n / 2#64).toNat + (n / 2#64).toNat from by omega]
  rfl
def powQ (a : BitVec 32) (n : BitVec 64) : BitVec 32 := Gf.pow a n.toNat
theorem rpower_any (a : BitVec 32) : ∀ (k : Nat) (n : BitVec 64), n.toNat ≤ k → ∀ w : World,
    Calls Try.prog 31 #[.int .u32 (nb32 a), .int .u64 (nb64 n)] w fun e w' => e = .returned (.int .u32 (nb32 (powQ a n))) ∧ w = w' := by
  intro k
  induction k with
  | zero =>
    intro n hn w
    obtain rfl : n = 0#64 := BitVec.eq_of_toNat_eq (by simpa using hn)
    go_enter Try.func31, Try.ntmps31
    go_wp2
    go_ret
    exact ⟨rfl, rfl⟩
  | succ k ih =>
    intro n hn w
    by_cases h0 : n = 0#64
    · subst h0
      clear ih hn
      go_enter Try.func31, Try.ntmps31
      go_wp2
      go_ret
      exact ⟨rfl, rfl⟩
    · have hz : (n == 0#64) = false := by rw [beq_eq_false_iff_ne]; exact h0
      have h0' : n.toNat ≠ 0 := fun h => h0 (BitVec.eq_of_toNat_eq h)
      have ih' := ih (n / 2#64) (by rw [BitVec.toNat_udiv]; show n.toNat / 2 ≤ k; omega)
      have IH : Hid (∀ w : World, Calls Try.prog 31 #[.int .u32 (nb32 a), .int .u64 (nb64 (n / 2#64))] w fun e w' => e = .returned (.int .u32 (nb32 (powQ a (n / 2#64)))) ∧ w = w') := ih'
      clear ih ih' hn h0 h0'
      cases hb : (n % 2#64 == 1#64)
      · have hf : Gf.mul (powQ a (n / 2#64)) (powQ a (n / 2#64)) = powQ a n := pow_even a n hb
        have HF := Lib.hid hf
        clear hf
        go_enter Try.func31, Try.ntmps31
        go_wp2_with (first
          | (go_at_call 31; refine (IH.out _).mono ?_; rintro e w' ⟨rfl, rfl⟩)
          | (go_at_call 43; refine (rmul_any _ _ _).mono ?_; rintro e w' ⟨rfl, rfl⟩))
        go_ret
        exact ⟨ret_v (by rw [← HF.out]; rfl), rfl⟩
      · have hf : Gf.mul (Gf.mul (powQ a (n / 2#64)) (powQ a (n / 2#64))) a = powQ a n := pow_odd a n hb
        have HF := Lib.hid hf
        clear hf
        go_enter Try.func31, Try.ntmps31
        go_wp2_with (first
          | (go_at_call 31; refine (IH.out _).mono ?_; rintro e w' ⟨rfl, rfl⟩)
          | (go_at_call 43; refine (rmul_any _ _ _).mono ?_; rintro e w' ⟨rfl, rfl⟩))
        go_ret
        exact ⟨ret_v (by rw [← HF.out]; rfl), rfl⟩
theorem rpow (a : BitVec 32) (n : BitVec 64) (w : World) :
    Calls Try.prog 31 #[.int .u32 (nb32 a), .int .u64 (nb64 n)] w fun e w' => e = .returned (.int .u32 (nb32 (powQ a n))) ∧ w = w' := rpower_any a n.toNat n (Nat.le_refl _) w
theorem powQ_two (a : BitVec 32) (k : Nat) (h : k < 32) : powQ a (1#64 <<< k) = Gf.squares a k := by
  unfold powQ
  rw [Gf.squares_pow]
  congr 1
  rw [BitVec.toNat_shiftLeft, Nat.shiftLeft_eq]
  simp only [BitVec.toNat_ofNat, Nat.reducePow, Nat.reduceMod, Nat.one_mul]
  exact Nat.mod_eq_of_lt (Nat.lt_of_lt_of_le (Nat.pow_lt_pow_right (by omega) h) (by decide))
end Go.Proofs.Ytamigcbodplmcaa

/-! The statements of layer 1 walked: that the elements are a field; squares, roots, powers; traces and solutions. -/
namespace Go.Proofs.Ytamigcbodplmcaa
open Go.ChangeShapes Go.WideShapes Go.ChangeAt Go.RowKit
theorem mul_ex (w : World) :
    Calls Try.prog 46 #[.int .u32 2, .int .u32 2147483648] w fun e w' => e = .returned (.int .u32 (nb32 0x8d#32)) ∧ w = w' := by
  have e : Gf.mul 2#32 2147483648#32 = 0x8d#32 := by decide +kernel
  rw [← e]
  exact mul_any 2#32 2147483648#32 w
theorem mul_1 (a : BitVec 32) (w : World) :
    Calls Try.prog 46 #[.int .u32 (nb32 a), .int .u32 1] w fun e w' => e = .returned (.int .u32 (nb32 a)) ∧ w = w' := by
  have := mul_any a 1#32 w
  rwa [show Gf.mul a 1#32 = a from Gf.mul_one a] at this
theorem mul_0 (a : BitVec 32) (w : World) :
    Calls Try.prog 46 #[.int .u32 (nb32 a), .int .u32 0] w fun e w' => e = .returned (.int .u32 (nb32 0#32)) ∧ w = w' := by
  have := mul_any a 0#32 w
  rwa [show Gf.mul a 0#32 = 0#32 from Gf.mul_zero a] at this
end Go.Proofs.Ytamigcbodplmcaa

/-! The reference's inverse walked; the statement GfPowers of layer 1. -/
namespace Go.Proofs.Ytamigcbodplmcaa
open Go.ChangeShapes Go.WideShapes Go.ChangeAt Go.RowKit
/-- the degree of a polynomial, -1 of 0 -/
def dg (n : Nat) : Int := if n = 0 then -1 else (n.log2 : Int)
theorem dg_half (n : Nat) (h : n ≠ 0) : dg n = dg (n / 2) + 1 := by
  unfold dg
  rw [if_neg h, Nat.log2_def]
  by_cases h2 : 2 ≤ n
  · rw [if_pos h2, if_neg (by omega)]; omega
  · have : n = 1 := by omega
    subst this
    rfl
theorem dg_bounds (x : BitVec 64) : -1 ≤ dg x.toNat ∧ dg x.toNat ≤ 63 := by
  unfold dg
  split
  · omega
  · rename_i h
    have := (Nat.log2_lt h).2 x.isLt
    omega
theorem euc_round (a : BitVec 32) (u v x y : BitVec 64) (hd : (dg v.toNat) ≤ dg u.toNat) (h : Gf.Euc a u v x y) : ∃ k : Nat, dg u.toNat - dg v.toNat = (k : Int) ∧ k ≤ 64 ∧ Gf.Euc a (u ^^^ v <<< k) v (x ^^^ y <<< k) y ∧ (u ^^^ v <<< k).toNat < u.toNat := by
  have hu0 : u.toNat ≠ 0 := fun e => h.u0 (BitVec.eq_of_toNat_eq e)
  have hv0 : v.toNat ≠ 0 := by have := h.v1; omega
  have eu : dg u.toNat = (u.toNat.log2 : Int) := if_neg hu0
  have ev : dg v.toNat = (v.toNat.log2 : Int) := if_neg hv0
  have bu := dg_bounds u
  rw [eu] at bu
  have hle : v.toNat.log2 ≤ u.toNat.log2 := by rw [eu, ev] at hd; omega
  refine ⟨u.toNat.log2 - v.toNat.log2, by rw [eu, ev]; omega, by omega, ?_⟩
  exact h.step hle
theorem dg_pos (u : BitVec 64) (h : u ≠ 0) : 0 < dg u.toNat ↔ 2 ≤ u.toNat := by
  have hu0 : u.toNat ≠ 0 := fun e => h (BitVec.eq_of_toNat_eq e)
  rw [show dg u.toNat = (u.toNat.log2 : Int) from if_neg hu0]
  constructor
  · intro hh
    rcases Nat.lt_or_ge u.toNat 2 with h2 | h2
    · have : u.toNat = 1 := by omega
      rw [this] at hh
      have e : (1 : Nat).log2 = 0 := by decide +kernel
      rw [e] at hh
      omega
    · exact h2
  · intro hh
    have : 1 ≤ u.toNat.log2 := (Nat.le_log2 hu0).2 hh
    omega
end Go.Proofs.Ytamigcbodplmcaa
