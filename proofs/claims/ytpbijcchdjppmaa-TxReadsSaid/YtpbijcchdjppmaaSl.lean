/- Slices of words that a call has made. Nothing of the program. -/
import Derived.Test.YtpbijcchdjppmaaB
import Derived.Test.YtpbijcchdjppmaaRow
import Derived.Deep.OwnRows
import Derived.Laws.CopyOwn
import Derived.Laws.OwnMore
namespace Go.Proofs.Ytpbijcchdjppmaa
open Go Go.RowKit

/-- n cells of words -/
def wcells (n : Nat) (f : Nat → BitVec 32) : Array Value := cellsOf n fun j => .int .u32 (nb32 (f j))
theorem wcells_size (n : Nat) (f : Nat → BitVec 32) : (wcells n f).size = n := cellsOf_size _ _
theorem wcells_at {n : Nat} (f : Nat → BitVec 32) {i : Nat} (h : i < n) : (wcells n f)[i]? = some (.int .u32 (nb32 (f i))) := cellsOf_at _ h
theorem wcells_congr {n : Nat} {f g : Nat → BitVec 32} (h : ∀ i, i < n → f i = g i) : wcells n f = wcells n g := cellsOf_congr fun j hj => by rw [h j hj]
theorem wcells_put {n : Nat} (f g : Nat → BitVec 32) (i : Nat) (x : BitVec 32) (hi : g i = x) (hg : ∀ j, j < n → j ≠ i → g j = f j) : (wcells n f).setIfInBounds i (.int .u32 (nb32 x)) = wcells n g :=
  cellsOf_put _ _ i _ (by rw [hi]) (fun j hj hne => by rw [hg j hj hne])
theorem wcells_made (n : Nat) : madeCells #[.int .u32 0] n = wcells n fun _ => 0 := by
  apply Array.ext_getElem?
  intro j
  rw [← Array.getElem?_toList, toList_madeCells_one, List.getElem?_replicate]
  rcases Nat.lt_or_ge j n with h | h
  · rw [if_pos h, wcells_at _ h]; rfl
  · rw [if_neg (by omega), Array.getElem?_eq_none (by rw [wcells_size]; exact h)]

/-- the first elements of a list, in a block -/
def wlist (l : List (BitVec 32)) : List Value := l.map fun x => .int .u32 (nb32 x)
theorem wlist_at (l : List (BitVec 32)) (i : Nat) (h : i < l.length) : (wlist l)[i]? = some (.int .u32 (nb32 (l.getD i 0))) := by
  rw [wlist, List.getElem?_map, List.getD_eq_getElem?_getD, List.getElem?_eq_getElem h]; rfl
theorem wlist_one (l : List (BitVec 32)) : ∀ v ∈ wlist l, v.oneCell' = true := by
  intro v hv
  rw [wlist, List.mem_map] at hv
  obtain ⟨x, _, rfl⟩ := hv
  rfl
theorem wlist_length (l : List (BitVec 32)) : (wlist l).length = l.length := by simp [wlist]
theorem putAll_wlist (l : List (BitVec 32)) (f : Nat → BitVec 32) : putAll (wcells l.length f) 0 (wlist l) = wcells l.length (fun i => l.getD i 0) := by
  refine putAll_cellsOf _ (wlist l) 0 _ (fun i v hv => ?_) (fun j hj h => ?_)
  · rw [Nat.zero_add]
    have hi : i < l.length := by
      have := (List.getElem?_eq_some_iff.1 hv).1
      rwa [wlist_length] at this
    rw [wlist_at l i hi] at hv
    exact Option.some.inj hv
  · rw [wlist_length] at h
    omega

/-- v is a slice made since block B; l: its elements -/
def Fresh (T : TypeId) (B : Nat) (w : World) (v : Value) (l : List (BitVec 32)) : Prop :=
  ∃ a c, v = .slice a l.length c ∧ (l.length ≤ c ∧ (a = none → c = 0)) ∧ l.length ≤ maxLen ∧ (0 < l.length → ∃ g cs, a = some ⟨g, 0, none⟩ ∧ B ≤ g ∧ Has w g T cs ∧ ∀ i, i < l.length → cs[i]? = some (.int .u32 (nb32 (l.getD i 0))))
section
variable {T : TypeId} {B : Nat} {w w' : World} {v : Value} {l : List (BitVec 32)}
theorem Fresh.nil (T : TypeId) (B : Nat) (w : World) : Fresh T B w (.slice none 0 0) [] := ⟨none, 0, rfl, ⟨Nat.le_refl _, fun _ => rfl⟩, by simp [maxLen], fun h => absurd h (by simp)⟩
theorem Fresh.below (h : Fresh T B w v l) (hb : Below w.heap.size w w') : Fresh T B w' v l := by
  obtain ⟨a, c, rfl, h1, h2, h3⟩ := h
  refine ⟨a, c, rfl, h1, h2, fun h0 => ?_⟩
  obtain ⟨g, cs, rfl, hg, hh, hc⟩ := h3 h0
  exact ⟨g, cs, rfl, hg, hh.under hb hh.lt, hc⟩
theorem Fresh.carry (h : Fresh T B w v l) (hk : ∀ g t cs, B ≤ g → Has w g t cs → Has w' g t cs) : Fresh T B w' v l := by
  obtain ⟨a, c, rfl, h1, h2, h3⟩ := h
  refine ⟨a, c, rfl, h1, h2, fun h0 => ?_⟩
  obtain ⟨g, cs, rfl, hg, hh, hc⟩ := h3 h0
  exact ⟨g, cs, rfl, hg, hk _ _ _ hg hh, hc⟩
theorem Fresh.low {B' : Nat} (h : Fresh T B w v l) (hB : B' ≤ B) : Fresh T B' w v l := by
  obtain ⟨a, c, rfl, h1, h2, h3⟩ := h
  refine ⟨a, c, rfl, h1, h2, fun h0 => ?_⟩
  obtain ⟨g, cs, rfl, hg, hh, hc⟩ := h3 h0
  exact ⟨g, cs, rfl, by omega, hh, hc⟩
theorem Fresh.of_has {g n c : Nat} {f : Nat → BitVec 32} (hB : B ≤ g) (hh : Has w g T (wcells c f)) (hl : l.length = n) (hn : n ≤ c) (hm : n ≤ maxLen) (hf : ∀ i, i < n → f i = l.getD i 0) : Fresh T B w (.slice (some ⟨g, 0, none⟩) n c) l :=
  ⟨_, c, by rw [hl], ⟨by omega, fun e => by cases e⟩, by omega, fun _ => ⟨g, _, rfl, hB, hh, fun i hi => by rw [wcells_at _ (by omega), hf i (by omega)]⟩⟩
/-- to read it -/
theorem Fresh.words {a : Option Addr} {n c : Nat} (h : Fresh T B w (.slice a n c) l) : n = l.length ∧ n ≤ c ∧ Words32 w a n l := by
  obtain ⟨a', c', e, h1, h2, h3⟩ := h
  injection e with e1 e2 e3
  subst e1 e2 e3
  refine ⟨rfl, h1.1, rfl, h2, fun i hi => ?_⟩
  obtain ⟨g, cs, rfl, _, hh, hc⟩ := h3 (by omega)
  refine ⟨_, rfl, ?_⟩
  rw [Addr.add_mid, Nat.zero_add, hh.cell i]
  exact hc i hi
theorem Fresh.cap0 {a : Option Addr} {n c : Nat} (h : Fresh T B w (.slice a n c) l) : a = none → c = 0 := by
  obtain ⟨a', c', e, h1, _, _⟩ := h
  injection e with e1 e2 e3
  subst e1 e3
  exact h1.2
theorem Fresh.slice (h : Fresh T B w v l) : ∃ a c, v = .slice a l.length c ∧ l.length ≤ c ∧ Words32 w a l.length l := by
  obtain ⟨a, c, rfl, h'⟩ := id h
  obtain ⟨_, h1, h2⟩ := h.words
  exact ⟨a, c, rfl, h1, h2⟩
end
/-- a made slice that may be written -/
def Buf (T : TypeId) (B : Nat) (w : World) (a : Option Addr) (n : Nat) : Prop := n = 0 ∨ ∃ g cs, a = some ⟨g, 0, none⟩ ∧ B ≤ g ∧ Has w g T cs ∧ n ≤ cs.size
theorem Fresh.buf {T : TypeId} {B : Nat} {w : World} {l : List (BitVec 32)} {a : Option Addr} {n c : Nat} (h : Fresh T B w (.slice a n c) l) : Buf T B w a n := by
  obtain ⟨a', c', e, h1, h2, h3⟩ := h
  injection e with e1 e2 e3
  subst e1 e2 e3
  rcases Nat.eq_zero_or_pos l.length with h0 | h0
  · exact .inl h0
  · obtain ⟨g, cs, rfl, hg, hh, hc⟩ := h3 h0
    refine .inr ⟨g, cs, rfl, hg, hh, ?_⟩
    have := hc (l.length - 1) (by omega)
    have := (Array.getElem?_eq_some_iff.1 this).1
    omega
theorem Buf.below {T : TypeId} {B : Nat} {w w' : World} {a : Option Addr} {n : Nat} (h : Buf T B w a n) (hb : Below w.heap.size w w') : Buf T B w' a n := by
  rcases h with h | ⟨g, cs, e, hg, hh, hn⟩
  · exact .inl h
  · exact .inr ⟨g, cs, e, hg, hh.under hb hh.lt, hn⟩
theorem Buf.open {T : TypeId} {B : Nat} {w : World} {a : Option Addr} {n k : Nat} (h : Buf T B w a n) (hk : k < n) : ∃ g cs, a = some ⟨g, 0, none⟩ ∧ B ≤ g ∧ Has w g T cs ∧ n ≤ cs.size := by
  rcases h with h | h
  · omega
  · exact h
theorem Buf.put {T : TypeId} {B g n : Nat} {w : World} {cs : Array Value} (hg : B ≤ g) (hh : Has w g T cs) (hn : n ≤ cs.size) (i : Nat) (u : Value) : Buf T B (w.setCell ⟨g, i, none⟩ u) (some ⟨g, 0, none⟩) n :=
  .inr ⟨g, _, rfl, hg, hh.put i u, by rw [Array.size_setIfInBounds]; exact hn⟩
end Go.Proofs.Ytpbijcchdjppmaa
