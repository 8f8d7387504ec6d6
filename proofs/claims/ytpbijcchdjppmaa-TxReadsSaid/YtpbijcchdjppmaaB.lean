/- Blocks of memory that are known whole. Nothing of the program. -/
import Derived.WalkKit
import Derived.Below
import Derived.Deep.Draws
import Derived.Deep.MidRow
namespace Go.Proofs.Ytpbijcchdjppmaa
open Go Go.RowKit

/-- block g consists of just these cells, of element type t, none of them frozen -/
def Has (w : World) (g : Nat) (t : TypeId) (cs : Array Value) : Prop := w.heap[g]? = some (.cells cs t (0, 0))
section
variable {w w' : World} {g : Nat} {t : TypeId} {cs : Array Value}
theorem Has.lt (h : Has w g t cs) : g < w.heap.size := (Array.getElem?_eq_some_iff.1 h).1
theorem Has.cell (h : Has w g t cs) (i : Nat) : w.cell? ⟨g, i, none⟩ = cs[i]? := cell_of_row w g i cs t (0, 0) h
theorem Has.cell_at (h : Has w g t cs) {i : Nat} {v : Value} (hv : cs[i]? = some v) : w.cell? ⟨g, i, none⟩ = some v := (h.cell i).trans hv
theorem Has.loose (h : Has w g t cs) (i : Nat) : w.frozen? ⟨g, i, none⟩ = false := by
  unfold Has at h; simp [World.frozen?, h]
theorem Has.fresh (w : World) (t : TypeId) (cs : Array Value) : Has (w.alloc (.cells cs t)) w.heap.size t cs := heap_alloc_new w _
theorem Has.fresh_at {n : Nat} (w : World) (t : TypeId) (cs : Array Value) (hn : n = w.heap.size) : Has (w.alloc (.cells cs t)) n t cs := by subst hn; exact Has.fresh w t cs
theorem Has.draw (h : Has w g t cs) : Has w.drew g t cs := h
theorem Has.draws (h : Has w g t cs) (n : Nat) : Has (w.drewN n) g t cs := h
theorem Has.past (h : Has w g t cs) (o : Obj) : Has (w.alloc o) g t cs := (Below.heap_alloc w o g h.lt).trans h
theorem Has.put (h : Has w g t cs) (i : Nat) (u : Value) : Has (w.setCell ⟨g, i, none⟩ u) g t (cs.setIfInBounds i u) := by
  unfold Has at h ⊢
  simp [World.setCell, Array.getElem?_modify, h]
theorem Has.aside (h : Has w g t cs) {p : Addr} (hp : g ≠ p.block) (u : Value) : Has (w.setCell p u) g t cs := (Below.heap_setCell w p u g hp).trans h
theorem Has.under {B : Nat} (h : Has w g t cs) (hb : Below B w w') (hg : g < B) : Has w' g t cs := (hb.block g hg).trans h
end
theorem below_draws {B : Nat} {a w : World} (h : Below B a w) (n : Nat) : Below B a (w.drewN n) := ⟨h.os, h.tape, h.output, h.size, h.block⟩
theorem below_cells {W w1 : World} (hb : Below W.heap.size W w1) : ∀ b o, b < W.heap.size → w1.cell? ⟨b, o, none⟩ = W.cell? ⟨b, o, none⟩ := fun b o h => hb.cell (p := ⟨b, o, none⟩) h
theorem below_loose {W w1 : World} (hb : Below W.heap.size W w1) : ∀ b o, b < W.heap.size → w1.frozen? ⟨b, o, none⟩ = W.frozen? ⟨b, o, none⟩ := fun b o h => hb.frozen (p := ⟨b, o, none⟩) h

/-- the world but for the draws of an order -/
def Drawn (w w' : World) : Prop := ∃ n, w' = w.drewN n
theorem Drawn.refl (w : World) : Drawn w w := ⟨0, rfl⟩
theorem Drawn.drew {w w' : World} (h : Drawn w w') : Drawn w w'.drew := by
  obtain ⟨n, rfl⟩ := h
  exact ⟨n + 1, (World.drewN_drewN w n 1).symm⟩
theorem Drawn.draws {w w' : World} (h : Drawn w w') (m : Nat) : Drawn w (w'.drewN m) := by
  obtain ⟨n, rfl⟩ := h
  exact ⟨n + m, World.drewN_drewN w n m⟩
theorem Drawn.trans {a b c : World} (h : Drawn a b) (k : Drawn b c) : Drawn a c := by
  obtain ⟨m, rfl⟩ := k
  exact h.draws m
theorem Drawn.below {w w' : World} (h : Drawn w w') (B : Nat) : Below B w w' := by
  obtain ⟨n, rfl⟩ := h
  exact below_draws (Below.refl _ _) n
theorem Has.drawn {w w' : World} {g : Nat} {t : TypeId} {cs : Array Value} (h : Has w g t cs) (hd : Drawn w w') : Has w' g t cs := by
  obtain ⟨n, rfl⟩ := hd
  exact h

/-- n cells, the j-th is f j -/
def cellsOf (n : Nat) (f : Nat → Value) : Array Value := ((List.range n).map f).toArray
theorem cellsOf_size (n : Nat) (f : Nat → Value) : (cellsOf n f).size = n := by simp [cellsOf]
theorem cellsOf_at {n : Nat} (f : Nat → Value) {i : Nat} (h : i < n) : (cellsOf n f)[i]? = some (f i) := by
  simp [cellsOf, h]
theorem cellsOf_put {n : Nat} (f g : Nat → Value) (i : Nat) (v : Value) (hi : g i = v) (hg : ∀ j, j < n → j ≠ i → g j = f j) : (cellsOf n f).setIfInBounds i v = cellsOf n g := by
  apply Array.ext_getElem?
  intro j
  rw [Array.getElem?_setIfInBounds, cellsOf_size]
  rcases Nat.lt_or_ge j n with h | h
  · rw [cellsOf_at f h, cellsOf_at g h]
    by_cases e : i = j
    · subst e
      simp [h, hi]
    · simp [e, hg j h (fun x => e x.symm)]
  · have e1 : (cellsOf n f)[j]? = none := Array.getElem?_eq_none (by rw [cellsOf_size]; exact h)
    have e2 : (cellsOf n g)[j]? = none := Array.getElem?_eq_none (by rw [cellsOf_size]; exact h)
    rw [e1, e2]
    by_cases e : i = j
    · subst e
      simp; omega
    · simp [e]
theorem cellsOf_congr {n : Nat} {f g : Nat → Value} (h : ∀ j, j < n → f j = g j) : cellsOf n f = cellsOf n g := by
  unfold cellsOf
  congr 1
  exact List.map_congr_left fun j hj => h j (List.mem_range.1 hj)
/-! whole arrays in a block -/
def putAll (cs : Array Value) (o : Nat) : List Value → Array Value
  | [] => cs
  | v :: r => putAll (cs.setIfInBounds o v) (o + 1) r
theorem Has.putAll {t : TypeId} {g : Nat} : ∀ (vs : List Value) {w : World} {cs : Array Value} (o : Nat), Has w g t cs → Has (w.setCells g o vs) g t (putAll cs o vs)
  | [], _, _, _, h => h
  | v :: r, _, _, o, h => Has.putAll r (o + 1) (h.put o v)
theorem Has.asideAll {t : TypeId} {g g' : Nat} (hg : g ≠ g') : ∀ (vs : List Value) {w : World} {cs : Array Value} (o : Nat), Has w g t cs → Has (w.setCells g' o vs) g t cs
  | [], _, _, _, h => h
  | v :: r, _, _, o, h => Has.asideAll hg r (o + 1) (h.aside (p := ⟨g', o, none⟩) hg v)
theorem below_setAll {B g : Nat} {a : World} (hg : B ≤ g) : ∀ (vs : List Value) {w : World} (o : Nat), Below B a w → Below B a (w.setCells g o vs)
  | [], _, _, h => h
  | v :: r, _, o, h => below_setAll hg r (o + 1) (h.setCell (p := ⟨g, o, none⟩) hg v)
theorem putAll_cellsOf {n : Nat} (g : Nat → Value) : ∀ (vs : List Value) (o : Nat) (f : Nat → Value), (∀ i v, vs[i]? = some v → g (o + i) = v) → (∀ j, j < n → (j < o ∨ o + vs.length ≤ j) → g j = f j) →
    putAll (cellsOf n f) o vs = cellsOf n g
  | [], o, f, _, h2 => cellsOf_congr fun j hj => (h2 j hj (by simp; omega)).symm
  | v :: r, o, f, h1, h2 => by
    have hv : g o = v := h1 0 v rfl
    rw [putAll, cellsOf_put f (fun j => if j = o then v else f j) o v (by simp) (fun j _ hne => by simp [hne])]
    refine putAll_cellsOf g r (o + 1) _ (fun i u hu => ?_) (fun j hj hh => ?_)
    · have := h1 (i + 1) u hu
      rwa [show o + 1 + i = o + (i + 1) from by omega]
    · by_cases e : j = o
      · subst e; simp [hv]
      · rw [if_neg e]
        refine h2 j hj ?_
        rcases hh with hh | hh
        · left; omega
        · right; simp only [List.length_cons]; omega
theorem Has.range {w : World} {g : Nat} {t : TypeId} {cs : Array Value} (h : Has w g t cs) : w.rangeAt g 0 cs.toList := fun j v hv => by
  rw [Nat.zero_add, h.cell j, ← hv, Array.getElem?_toList]
theorem Has.there {w : World} {g : Nat} {t : TypeId} {cs : Array Value} (h : Has w g t cs) (o n : Nat) (hn : o + n ≤ cs.size) : w.there g o n := fun j hj => by
  refine ⟨?_, h.loose _⟩
  rw [h.cell, Array.getElem?_eq_getElem (by omega)]
  rfl
theorem run_zero {P : Program} {t : TypeId} {z : Value} (h : (P.info? t).bind (·.zero) = some z) (w : World) : (zeroValue t).run P w = .ok z w := by
  cases hi : P.info? t with
  | none => rw [hi] at h; cases h
  | some i =>
    rw [hi] at h
    have hz : i.zero = some z := h
    simp [zeroValue, typeInfo, hi, hz]
theorem cellsOf_ne {n : Nat} (hn : 0 < n) (f : Nat → Value) : cellsOf n f ≠ #[] := by
  intro h
  have := cellsOf_size n f
  rw [h] at this
  simp at this
  omega
theorem results_one_cell {P : Program} {fn : Func} {p : Tmp} {ty : TypeId} (h : fn.results = #[.cell p ty]) (tmps : Array Value) (w : World) (g : Nat) (hp : tmps.getD p undef = .pointer (some ⟨g, 0, none⟩))
    (v : Value) (hv : (loadVar ty ⟨g, 0, none⟩).run P w = .ok v w) : (results fn tmps).run P w = .ok v w := by
  rw [Array.getD_eq_getD_getElem?] at hp
  simp only [results, h]
  simp [hp, hv, asAddr]
end Go.Proofs.Ytpbijcchdjppmaa
