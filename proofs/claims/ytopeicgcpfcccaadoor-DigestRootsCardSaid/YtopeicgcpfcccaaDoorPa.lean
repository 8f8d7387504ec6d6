/- Slices of slices of bytes. Nothing of the program but its types. -/
import Derived.Test.YtopeicgcpfcccaaDoorBb
import Derived.Test.YtopeicgcpfcccaaDoorHe
import Derived.Test.YtopeicgcpfcccaaDoorRows
import Derived.Test.YtopeicgcpfcccaaDoorHa
import Derived.Deep.Slices
namespace Go.Proofs.YtopeicgcpfcccaaDoor
open Go Go.RowKit Go.ChangeShapes Go.WideShapes
/-- a slice of slices of bytes: readable where there are any -/
def Parts (w : World) (a : Option Addr) (n : Nat) (LL : List (List (BitVec 8))) : Prop :=
  LL.length = n ∧ n ≤ maxLen ∧ ∀ i, i < n → ∃ x ad m c, a = some x ∧ w.cell? (x.add i) = some (.slice ad m c) ∧ Bytes8 w ad m (LL.getD i []) ∧ m ≤ c ∧ (ad = none → c = 0)
theorem Parts.keep {w w' : World} {a : Option Addr} {n : Nat} {LL : List (List (BitVec 8))} (h : Parts w a n LL) (hk : ∀ p : Addr, (w.cell? p).isSome = true → w'.cell? p = w.cell? p) : Parts w' a n LL := by
  refine ⟨h.1, h.2.1, fun i hi => ?_⟩
  obtain ⟨x, ad, m, c, rfl, hx, hb, h1, h2⟩ := h.2.2 i hi
  exact ⟨x, ad, m, c, rfl, by rw [hk _ (by rw [hx]; rfl)]; exact hx, hb.keep hk, h1, h2⟩
theorem Parts.below {w w' : World} {a : Option Addr} {n : Nat} {LL : List (List (BitVec 8))} (h : Parts w a n LL) (hb : Below w.heap.size w w') : Parts w' a n LL := h.keep fun _ hp => hb.cell (isSome_lt hp)
theorem Parts.past {w : World} {a : Option Addr} {n : Nat} {LL : List (List (BitVec 8))} (h : Parts w a n LL) (o : Obj) : Parts (w.alloc o) a n LL := h.keep fun p hp => World.cell?_alloc_lt w o p (isSome_lt hp)
theorem Parts.draw {w : World} {a : Option Addr} {n : Nat} {LL : List (List (BitVec 8))} (h : Parts w a n LL) : Parts w.drew a n LL := h
theorem parts_one {w : World} {ad : Option Addr} {m c : Nat} {l : List (BitVec 8)} (T : TypeId) (h : Bytes8 w ad m l) (hc : m ≤ c) (h0 : ad = none → c = 0) : Parts (w.alloc (.cells #[.slice ad m c] T)) (some ⟨w.heap.size, 0, none⟩) 1 [l] :=
  ⟨rfl, by unfold maxLen; omega, fun i hi => by
    obtain rfl : i = 0 := by omega
    exact ⟨_, ad, m, c, rfl, by rw [Addr.add_mid, Nat.zero_add, (Has.fresh w T _).cell]; rfl, h.past _, hc, h0⟩⟩
theorem parts_two {w : World} {ad ad2 : Option Addr} {m c m2 c2 : Nat} {l l2 : List (BitVec 8)} (T : TypeId) (h : Bytes8 w ad m l) (hc : m ≤ c) (h0 : ad = none → c = 0) (h' : Bytes8 w ad2 m2 l2) (hc' : m2 ≤ c2) (h0' : ad2 = none → c2 = 0) :
    Parts (w.alloc (.cells #[.slice ad m c, .slice ad2 m2 c2] T)) (some ⟨w.heap.size, 0, none⟩) 2 [l, l2] :=
  ⟨rfl, by unfold maxLen; omega, fun i hi => by
    rcases i with _ | _ | i
    · exact ⟨_, ad, m, c, rfl, by rw [Addr.add_mid, Nat.zero_add, (Has.fresh w T _).cell]; rfl, h.past _, hc, h0⟩
    · exact ⟨_, ad2, m2, c2, rfl, by rw [Addr.add_mid, Nat.zero_add, (Has.fresh w T _).cell]; rfl, h'.past _, hc', h0'⟩
    · omega⟩
theorem bytes_new {n : Nat} {cs : Array Value} (w : World) (l : List (BitVec 8)) (t : TypeId) (hn : l.length = n) (hcs : cs = (blist l).toArray) (hs : n ≤ 1000000) : Bytes8 (w.alloc (.cells cs t)) (some ⟨w.heap.size, 0, none⟩) n l :=
  ⟨hn, by unfold maxLen; omega, fun i hi => ⟨_, rfl, by
    rw [Addr.add_mid, Nat.zero_add, (Has.fresh w t _).cell, hcs]
    rw [← Array.getElem?_toList]
    exact blist_at l i (by omega)⟩⟩
theorem freeze_new (w : World) (cs : Array Value) (t : TypeId) (n : Nat) : (w.alloc (.cells cs t)).freeze ⟨w.heap.size, n, none⟩ 1 = w.alloc (.cells cs t (n, n + 1)) := by
  have h : ∀ hp, (w.heap.push (Obj.cells cs t)).set w.heap.size (Obj.cells cs t (n, n + 1)) hp = w.heap.push (Obj.cells cs t (n, n + 1)) := fun hp => by
    apply Array.toList_inj.1
    simp
  unfold World.freeze World.alloc
  simp [Array.modify, Array.modifyM]
  rw [h]
  rfl
theorem shape_new (w : World) (cs : Array Value) (t : TypeId) : (w.alloc (.cells cs t)).shape? w.heap.size = some (t, cs.size) := by
  unfold World.shape?
  rw [show (w.alloc (.cells cs t)).heap[w.heap.size]? = some (.cells cs t (0, 0)) from Has.fresh w t cs]
/-- a conversion of a slice of bytes just made: its block is marked behind its end -/
theorem convert_new (w : World) (cs : Array Value) (n : Nat) (hn : cs.size = n) : (convert 22 22 (.slice (some ⟨w.heap.size, 0, none⟩) n n)).run Tryd.prog (w.alloc (.cells cs 5)) = .ok (.slice (some ⟨w.heap.size, 0, none⟩) n n) (w.alloc (.cells cs 5 (n, n + 1))) := by
  simp [convert, run_underlying Tryd.underlying22, markStringish, shape_new, freeze_new, hn]
  trace_state
theorem bytes_newf {n : Nat} {cs : Array Value} (w : World) (l : List (BitVec 8)) (t : TypeId) (fz : Nat × Nat) (hn : l.length = n) (hcs : cs = (blist l).toArray) (hs : n ≤ 1000000) : Bytes8 (w.alloc (.cells cs t fz)) (some ⟨w.heap.size, 0, none⟩) n l :=
  ⟨hn, by unfold maxLen; omega, fun i hi => ⟨_, rfl, by
    rw [Addr.add_mid, Nat.zero_add, cell_of_row _ _ i cs t fz (heap_alloc_new w _), hcs, ← Array.getElem?_toList]
    exact blist_at l i (by omega)⟩⟩
section
variable {H : Type} {enc : TypeId × Value → H} {P : Program} {W : World} {base : Nat} {v : Value} {d : DataW H} {p : List MemPlace}
theorem exists_parts (W : World) (x : Addr) : ∀ (n : Nat) (_ : ∀ i, i < n → ∃ ad m c l, W.cell? (x.add i) = some (.slice ad m c) ∧ Bytes8 W ad m l ∧ m ≤ c ∧ (ad = none → c = 0)),
    ∃ LL : List (List (BitVec 8)), LL.length = n ∧ ∀ i, i < n → ∃ ad m c, W.cell? (x.add i) = some (.slice ad m c) ∧ Bytes8 W ad m (LL.getD i []) ∧ m ≤ c ∧ (ad = none → c = 0)
  | 0, _ => ⟨[], rfl, fun i hi => by omega⟩
  | n + 1, h => by
    obtain ⟨LL, h1, h2⟩ := exists_parts W x n (fun i hi => h i (by omega))
    obtain ⟨ad, m, c, l, h3, h4, h5, h6⟩ := h n (by omega)
    refine ⟨LL ++ [l], by simp [h1], fun i hi => ?_⟩
    rcases Nat.lt_or_ge i n with hlt | hge
    · obtain ⟨ad', m', c', g1, g2, g3⟩ := h2 i hlt
      refine ⟨ad', m', c', g1, ?_, g3⟩
      rw [List.getD_eq_getElem?_getD, List.getElem?_append_left (by omega), ← List.getD_eq_getElem?_getD]
      exact g2
    · obtain rfl : i = n := by omega
      refine ⟨ad, m, c, h3, ?_, h5, h6⟩
      rw [List.getD_eq_getElem?_getD, List.getElem?_append_right (by omega), h1, Nat.sub_self]
      exact h4
/-- an argument that is a slice of slices of bytes -/
theorem arg_parts {t r e : TypeId} (ht : P.underlying t = some (.slice r)) (hr : P.underlying r = some (.slice e)) (he : P.underlying e = some (.int .u8)) (hc : P.cellsOf e = 1) (hC : P.cellsOf r = 1) (o : Value.okWide P W .any base t v) (h : DataW.Trod enc P W 0 (fun _ => true) true t v d p) :
    ∃ (a : Option Addr) (n c : Nat) (LL : List (List (BitVec 8))), v = .slice a n c ∧ Parts W a n LL ∧ n ≤ c ∧ (a = none → c = 0) := by
  obtain ⟨a, n, c, rfl⟩ := okWide_slice ht o
  obtain ⟨fuel, hf⟩ := h
  refine ⟨a, n, c, ?_⟩
  rcases Go.Deep.open_slice ht hf with ⟨hcs, _⟩ | ⟨x, len, cap, m, q, D, Pl, hcs, _, hl, hm, hmm, _, hcell⟩
  · simp [Value.cells] at hcs
    obtain ⟨rfl, rfl, rfl⟩ := hcs
    exact ⟨[], rfl, ⟨rfl, by unfold maxLen; omega, fun i hi => by omega⟩, Nat.le_refl _, fun _ => rfl⟩
  · simp [Value.cells] at hcs
    obtain ⟨rfl, rfl, rfl⟩ := hcs
    obtain ⟨LL, h1, h2⟩ := exists_parts W x n (fun i hi => by
      obtain ⟨cs, hcs, htr⟩ := hcell i (by split at hmm <;> omega)
      rw [hC] at hcs
      obtain ⟨_, hlen, hat⟩ := World.cells?_some hcs
      have h0 := hat 0 (by omega)
      rw [Addr.add_add, Nat.mul_one, Nat.add_zero] at h0
      rcases open_ints hr he hc htr with ⟨hcs2, _⟩ | ⟨x2, l2, cp2, zs, hcs2, _, hl2, hm2, hz2, _, hcell2, hwz2⟩
      · subst hcs2
        exact ⟨none, 0, 0, [], h0, bytes_none W, Nat.le_refl _, fun _ => rfl⟩
      · subst hcs2
        obtain ⟨l, hw⟩ := bytes_of_row (w := W) (.inr ⟨_, rfl, hl2, hm2, by simpa using hz2, hcell2, hwz2⟩)
        exact ⟨some x2, l2, cp2, l, h0, hw, hl2, fun e => by cases e⟩)
    exact ⟨LL, rfl, ⟨h1, by omega, fun i hi => by
      obtain ⟨ad, m', c', g1, g2, g3, g4⟩ := h2 i hi
      exact ⟨x, ad, m', c', rfl, g1, g2, g3, g4⟩⟩, hl, fun e => by cases e⟩
end
end Go.Proofs.YtopeicgcpfcccaaDoor
