/- a slice of slices of words, each row in a block of its own. Nothing of the program. -/
import Derived.Test.YtamigcbodplmcaaPz
namespace Go.Proofs.Ytamigcbodplmcaa
open Go Go.RowKit
/-- the header of row i -/
def rowv (K : Nat) (g cp : Nat → Nat) (i : Nat) : Value := .slice (some ⟨g i, 0, none⟩) K (cp i)
/-- block g begins with K words -/
def Row1 (u : TypeId) (w : World) (g K : Nat) (f : Nat → BitVec 32) : Prop := ∃ cs, Has w g u cs ∧ ∀ j, j < K → cs[j]? = some (.int .u32 (nb32 (f j)))
theorem Row1.lt {u : TypeId} {w : World} {g K : Nat} {f : Nat → BitVec 32} (h : Row1 u w g K f) : g < w.heap.size := by
  obtain ⟨cs, h1, _⟩ := h
  exact h1.lt
theorem Row1.keep {u : TypeId} {w w' : World} {g K : Nat} {f : Nat → BitVec 32} (h : Row1 u w g K f) (hb : w'.heap[g]? = w.heap[g]?) : Row1 u w' g K f := by
  obtain ⟨cs, h1, h2⟩ := h
  exact ⟨cs, hb.trans h1, h2⟩
theorem Row1.congr {u : TypeId} {w : World} {g K : Nat} {f f' : Nat → BitVec 32} (h : Row1 u w g K f) (hf : ∀ j, j < K → f j = f' j) : Row1 u w g K f' := by
  obtain ⟨cs, h1, h2⟩ := h
  exact ⟨cs, h1, fun j hj => by rw [h2 j hj, hf j hj]⟩
structure Rws (u : TypeId) (B : Nat) (w : World) (m K : Nat) (g cp : Nat → Nat) (R : Nat → Nat → BitVec 32) : Prop where
  row : ∀ i, i < m → Row1 u w (g i) K (R i)
  cap : ∀ i, i < m → K ≤ cp i
  low : ∀ i, i < m → B ≤ g i
  inj : ∀ i j, i < m → j < m → g i = g j → i = j
/-- while the rows are laid -/
structure Bld (t u : TypeId) (B : Nat) (w : World) (v : Value) (m K : Nat) (g cp : Nat → Nat) (R : Nat → Nat → BitVec 32) : Prop where
  own : w.ownsRow B t 1 v m ((List.range m).map (rowv K g cp))
  rws : Rws u B w m K g cp R
/-- when they are laid -/
structure Mat (t u : TypeId) (B : Nat) (w : World) (G m K : Nat) (g cp : Nat → Nat) (R : Nat → Nat → BitVec 32) : Prop where
  arr : ∃ cs, Has w G t cs ∧ ∀ i, i < m → cs[i]? = some (rowv K g cp i)
  rws : Rws u B w m K g cp R
  lowG : B ≤ G
section
variable {t u : TypeId} {B : Nat} {w w' : World} {v : Value} {G m K : Nat} {g cp : Nat → Nat} {R : Nat → Nat → BitVec 32}
theorem Rws.keep (h : Rws u B w m K g cp R) (hb : ∀ i, i < m → w'.heap[g i]? = w.heap[g i]?) : Rws u B w' m K g cp R :=
  ⟨fun i hi => (h.row i hi).keep (hb i hi), h.cap, h.low, h.inj⟩
theorem Rws.below (h : Rws u B w m K g cp R) (hb : Below w.heap.size w w') : Rws u B w' m K g cp R := h.keep fun i hi => hb.block _ (h.row i hi).lt
theorem Bld.nil (t u : TypeId) (B K : Nat) (w : World) (g cp : Nat → Nat) (R : Nat → Nat → BitVec 32) : Bld t u B w (.slice none 0 0) 0 K g cp R :=
  ⟨World.ownsRow_nil _ _ _ _, ⟨fun i hi => by omega, fun i hi => by omega, fun i hi => by omega, fun i j hi => by omega⟩⟩
theorem Bld.below (h : Bld t u B w v m K g cp R) (hb : Below w.heap.size w w') : Bld t u B w' v m K g cp R := by
  refine ⟨?_, h.rws.below hb⟩
  refine ⟨h.own.1, ?_⟩
  rcases h.own.2 with hn | ⟨G, cap, cur, rfl, h1, h2, rest⟩
  · exact .inl hn
  · exact .inr ⟨G, cap, cur, rfl, h1, (hb.block _ (Array.getElem?_eq_some_iff.1 h2).1).trans h2, rest⟩
theorem Has.types {w : World} {a : Nat} {t u : TypeId} {cs ds : Array Value} (h : Has w a t cs) (h' : Has w a u ds) : t = u := by
  have := h.symm.trans h'
  injection this with this
  injection this
/-- a row more -/
theorem Bld.snoc {lr : List (BitVec 32)} {rv v' : Value} {w0 : World} (htu : t ≠ u) (h : Bld t u B w v m K g cp R) (hr : OwnW u w0.heap.size w rv lr) (hB : B ≤ w0.heap.size) (hold : ∀ i, i < m → g i < w0.heap.size)
    (hl : lr.length = K) (hK : 0 < K) (hR : ∀ j, j < K → R m j = lr.getD j 0)
    (h1 : w'.ownsRow B t 1 v' (m + 1) ((List.range m).map (rowv K g cp) ++ [rv])) (h2 : w.grownBy w' v.ownBlock) :
    ∃ g' cp', Bld t u B w' v' (m + 1) K g' cp' R := by
  obtain ⟨hl2, ⟨_, h0⟩ | ⟨gr, cap, cur, rfl, hg, hh, hn, hm, hc, ht⟩⟩ := hr
  · omega
  have hrow : Row1 u w gr K (R m) := ⟨cur, hh, fun j hj => by
    rw [hR j hj, ← wlist_at lr j (by omega), ← ht, List.getElem?_take, if_pos (by omega), Array.getElem?_toList]⟩
  have hkeep : ∀ k, k < w.heap.size → (∃ cs, Has w k u cs) → w'.heap[k]? = w.heap[k]? := fun k hk ⟨cs, hcs⟩ => h2.block k hk fun e => by
    rcases h.own.2 with ⟨hn, _⟩ | ⟨G, cap, cur, rfl, _, h4, _⟩
    · rw [hn] at e; cases e
    · have : k = G := by simpa [Value.ownBlock] using e
      subst this
      exact htu (Has.types h4 hcs)
  refine ⟨fun i => if i = m then gr else g i, fun i => if i = m then cap else cp i, ⟨?_, ?_⟩⟩
  · have e1 : (List.range (m + 1)).map (rowv K (fun i => if i = m then gr else g i) (fun i => if i = m then cap else cp i)) = (List.range m).map (rowv K g cp) ++ [.slice (some ⟨gr, 0, none⟩) lr.length cap] := by
      rw [List.range_succ, List.map_append, List.map_singleton]
      congr 1
      · refine List.map_congr_left fun i hi => ?_
        have := List.mem_range.1 hi
        unfold rowv
        simp only [if_neg (show ¬ i = m by omega)]
      · unfold rowv
        simp only [if_pos, hl]
    rw [e1]
    exact h1
  · refine ⟨fun i hi => ?_, fun i hi => ?_, fun i hi => ?_, fun i j hi hj => ?_⟩
    · by_cases e : i = m
      · subst e
        simp only [if_pos]
        exact hrow.keep (hkeep _ hrow.lt ⟨_, hh⟩)
      · simp only [if_neg e]
        have hri := h.rws.row i (by omega)
        obtain ⟨cs, hcs, _⟩ := hri
        exact (h.rws.row i (by omega)).keep (hkeep _ hcs.lt ⟨_, hcs⟩)
    · by_cases e : i = m
      · simp only [if_pos e]; omega
      · simp only [if_neg e]; exact h.rws.cap i (by omega)
    · by_cases e : i = m
      · simp only [if_pos e]; omega
      · simp only [if_neg e]; exact h.rws.low i (by omega)
    · by_cases e : i = m
      · by_cases e2 : j = m
        · intro _; omega
        · simp only [if_pos e, if_neg e2]
          intro e3
          have := hold j (by omega)
          omega
      · by_cases e2 : j = m
        · simp only [if_pos e2, if_neg e]
          intro e3
          have := hold i (by omega)
          omega
        · simp only [if_neg e, if_neg e2]
          exact h.rws.inj i j (by omega) (by omega)
theorem Bld.mat (h : Bld t u B w v m K g cp R) (hm : 0 < m) : ∃ G C, v = .slice (some ⟨G, 0, none⟩) m C ∧ m ≤ C ∧ Mat t u B w G m K g cp R := by
  rcases h.own.2 with ⟨_, h0⟩ | ⟨G, cap, cur, rfl, h1, h2, h3, h4, h5, h6⟩
  · omega
  · refine ⟨G, cap, rfl, h3, ⟨⟨cur, h2, fun i hi => ?_⟩, h.rws, h1⟩⟩
    have e : ((List.range m).map (rowv K g cp))[i]? = some (rowv K g cp i) := by
      rw [List.getElem?_map, List.getElem?_range hi]
      rfl
    rw [← e, ← h6, List.getElem?_take, if_pos (by omega), Array.getElem?_toList]
theorem Mat.ne (htu : t ≠ u) (h : Mat t u B w G m K g cp R) {i : Nat} (hi : i < m) : g i ≠ G := fun e => by
  obtain ⟨cs, h1, _⟩ := h.arr
  obtain ⟨ds, h2, _⟩ := h.rws.row i hi
  rw [e] at h2
  exact htu (h1.types h2)
theorem Mat.below (h : Mat t u B w G m K g cp R) (hb : Below w.heap.size w w') : Mat t u B w' G m K g cp R := by
  obtain ⟨cs, h1, h2⟩ := h.arr
  exact ⟨⟨cs, h1.under hb h1.lt, h2⟩, h.rws.below hb, h.lowG⟩
theorem Mat.congr {R' : Nat → Nat → BitVec 32} (h : Mat t u B w G m K g cp R) (hR : ∀ i, i < m → ∀ j, j < K → R i j = R' i j) : Mat t u B w G m K g cp R' :=
  ⟨h.arr, ⟨fun i hi => (h.rws.row i hi).congr (hR i hi), h.rws.cap, h.rws.low, h.rws.inj⟩, h.lowG⟩
/-- the rows, if there are any -/
def MatO (t u : TypeId) (B : Nat) (w : World) (ra : Option Addr) (m K : Nat) (g cp : Nat → Nat) (R : Nat → Nat → BitVec 32) : Prop := 0 < m → ∃ G, ra = some ⟨G, 0, none⟩ ∧ Mat t u B w G m K g cp R
theorem Bld.matO (h : Bld t u B w v m K g cp R) : ∃ ra C, v = .slice ra m C ∧ m ≤ C ∧ MatO t u B w ra m K g cp R := by
  by_cases hm : 0 < m
  · obtain ⟨G, C, rfl, h1, h2⟩ := h.mat hm
    exact ⟨_, C, rfl, h1, fun _ => ⟨G, rfl, h2⟩⟩
  · obtain rfl : m = 0 := by omega
    rcases h.own.2 with ⟨rfl, _⟩ | ⟨G, cap, cur, rfl, _, _, h3, _⟩
    · exact ⟨none, 0, rfl, Nat.le_refl _, fun h => by omega⟩
    · exact ⟨_, cap, rfl, h3, fun h => by omega⟩
theorem Mat.drawn (h : Mat t u B w G m K g cp R) (hd : Drawn w w') : Mat t u B w' G m K g cp R := h.below (hd.below _)
theorem Mat.cellA (h : Mat t u B w G m K g cp R) {i : Nat} (hi : i < m) : w.cell? ⟨G, i, none⟩ = some (.slice (some ⟨g i, 0, none⟩) K (cp i)) := by
  obtain ⟨cs, h1, h2⟩ := h.arr
  exact h1.cell_at (h2 i hi)
theorem Mat.cellR (h : Mat t u B w G m K g cp R) {i j : Nat} (hi : i < m) (hj : j < K) : w.cell? ⟨g i, j, none⟩ = some (.int .u32 (nb32 (R i j))) := by
  obtain ⟨cs, h1, h2⟩ := h.rws.row i hi
  exact h1.cell_at (h2 j hj)
theorem Mat.looseA (h : Mat t u B w G m K g cp R) (i : Nat) : w.frozen? ⟨G, i, none⟩ = false := by
  obtain ⟨cs, h1, h2⟩ := h.arr
  exact h1.loose i
theorem Mat.looseR (h : Mat t u B w G m K g cp R) {i : Nat} (hi : i < m) (j : Nat) : w.frozen? ⟨g i, j, none⟩ = false := by
  obtain ⟨cs, h1, h2⟩ := h.rws.row i hi
  exact h1.loose j
theorem Mat.cellSet (h : Mat t u B w G m K g cp R) (a : Nat) (v : Value) {b : Nat} (hb : b < m) : ∃ x, (w.setCell ⟨G, a, none⟩ v).cell? ⟨G, b, none⟩ = some x := by
  obtain ⟨cs, h1, h2⟩ := h.arr
  have hlt := (Array.getElem?_eq_some_iff.1 (h2 b hb)).1
  exact ⟨(cs.setIfInBounds a v)[b]'(by simpa using hlt), (h1.put a v).cell_at (Array.getElem?_eq_getElem _)⟩
def setM (R : Nat → Nat → BitVec 32) (i j : Nat) (x : BitVec 32) : Nat → Nat → BitVec 32 := fun i' j' => if i' = i ∧ j' = j then x else R i' j'
theorem Mat.setR (htu : t ≠ u) (h : Mat t u B w G m K g cp R) {i : Nat} (hi : i < m) (j : Nat) (x : BitVec 32) : Mat t u B (w.setCell ⟨g i, j, none⟩ (.int .u32 (nb32 x))) G m K g cp (setM R i j x) := by
  have hne := h.ne htu hi
  obtain ⟨cs, h1, h2⟩ := h.arr
  refine ⟨⟨cs, h1.aside (fun e => hne e.symm) _, h2⟩, ⟨fun i' hi' => ?_, h.rws.cap, h.rws.low, h.rws.inj⟩, h.lowG⟩
  obtain ⟨ds, h3, h4⟩ := h.rws.row i' hi'
  by_cases e : i' = i
  · subst e
    refine ⟨_, h3.put j _, fun j' hj' => ?_⟩
    unfold setM
    rw [Array.getElem?_setIfInBounds]
    by_cases e2 : j = j'
    · subst e2
      have := (Array.getElem?_eq_some_iff.1 (h4 j hj')).1
      rw [if_pos rfl, if_pos this, if_pos ⟨rfl, rfl⟩]
    · rw [if_neg e2, if_neg (fun h => e2 h.2.symm)]
      exact h4 j' hj'
  · refine ⟨ds, h3.aside (fun e2 => e (h.rws.inj i' i hi' hi e2)) _, fun j' hj' => ?_⟩
    unfold setM
    rw [if_neg (fun h => e h.1)]
    exact h4 j' hj'
def swp (a b : Nat) (i : Nat) : Nat := if i = a then b else if i = b then a else i
theorem swp_lt {a b m : Nat} (ha : a < m) (hb : b < m) {i : Nat} (hi : i < m) : swp a b i < m := by
  unfold swp
  split
  · exact hb
  · split
    · exact ha
    · exact hi
theorem swp_inj {a b i j : Nat} (h : swp a b i = swp a b j) : i = j := by
  unfold swp at h
  split at h <;> split at h <;> (try split at h) <;> (try split at h) <;> omega
theorem Mat.swap (htu : t ≠ u) (h : Mat t u B w G m K g cp R) {a b : Nat} (ha : a < m) (hb : b < m) :
    Mat t u B ((w.setCell ⟨G, a, none⟩ (.slice (some ⟨g b, 0, none⟩) K (cp b))).setCell ⟨G, b, none⟩ (.slice (some ⟨g a, 0, none⟩) K (cp a))) G m K (fun i => g (swp a b i)) (fun i => cp (swp a b i)) (fun i => R (swp a b i)) := by
  obtain ⟨cs, h1, h2⟩ := h.arr
  refine ⟨⟨_, (h1.put a _).put b _, fun i hi => ?_⟩, ⟨fun i hi => ?_, fun i hi => h.rws.cap _ (swp_lt ha hb hi), fun i hi => h.rws.low _ (swp_lt ha hb hi), fun i j hi hj e => swp_inj (h.rws.inj _ _ (swp_lt ha hb hi) (swp_lt ha hb hj) e)⟩, h.lowG⟩
  · have ea := (Array.getElem?_eq_some_iff.1 (h2 a ha)).1
    have eb := (Array.getElem?_eq_some_iff.1 (h2 b hb)).1
    rw [Array.getElem?_setIfInBounds, Array.getElem?_setIfInBounds]
    unfold rowv swp
    by_cases e1 : b = i
    · subst e1
      rw [if_pos rfl, if_pos (by simpa using eb)]
      by_cases e2 : b = a
      · subst e2; simp
      · simp [e2]
    · rw [if_neg e1]
      by_cases e2 : a = i
      · subst e2
        rw [if_pos rfl, if_pos ea]
        simp
      · rw [if_neg e2, h2 i hi]
        unfold rowv
        simp [Ne.symm e1, Ne.symm e2]
  · obtain ⟨ds, h3, h4⟩ := h.rws.row _ (swp_lt ha hb hi)
    have hne := h.ne htu (swp_lt ha hb hi)
    exact ⟨ds, (h3.aside hne _).aside hne _, h4⟩
end
/-- append(rows, row) -/
theorem wpList_append_rowv {P : Program} {w : World} {ops : Array Oper} {rest : List Oper} {o : Oper} {a : Act} {Q : Exit → Act → World → Prop} (hgd : o.guard = none) (s x : Operand) (t : TypeId)
    (ho : o.op = .call { callee := .builtin .append, args := #[s, x], argTypes := #[t, t] })
    (T : TypeId) (ht : P.underlying t = some (.slice T)) (hinfo : (P.info? T).map (fun i => (i.zero, i.size, i.bytes)) = some (some (.slice none 0 0), 1, 24))
    (B : Nat) (v : Value) (n : Nat) (xs : List Value) (hs : a.eval s = v) (hown : w.ownsRow B T 1 v n xs) (rv : Value) (hrv : rv.oneCell' = true) (hx : a.eval x = .slice (some ⟨w.heap.size, 0, none⟩) 1 1)
    (h63 : n + 1 ≤ 1099511627776) (hbase : B ≤ w.heap.size)
    (h : ∀ v' w', w'.ownsRow B T 1 v' (n + 1) (xs ++ [rv]) → (w.alloc (.cells #[rv] T)).grownBy w' v.ownBlock → wpList P ops Q rest (a.put o.dst v') w') : wpList P ops Q (o :: rest) a (w.alloc (.cells #[rv] T)) := by
  obtain ⟨i0, hi, hz0, hz1, hz2⟩ := info_parts hinfo
  refine wpList_append_own (w.alloc (.cells #[rv] T)) hgd s x t ho B T i0 (.slice none 0 0) 1 24 ht hi hz0 hz1 hz2 rfl (by decide) v _ _ hs (World.ownsRow.alloc hown _) ⟨w.heap.size, 0, none⟩ 1 1 [rv] hx rfl (cell_one_new _ _ _) (by simp [hrv]) (by unfold maxLen; omega) (by omega) (by rw [World.size_alloc]; omega) ?_
  intro v' w' h1 h2 _
  exact h v' w' h1 h2
end Go.Proofs.Ytamigcbodplmcaa
