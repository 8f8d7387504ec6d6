/- Slices of integers that came in. Nothing of the program. -/
import Derived.Test.YtpbijcchdjppmaaU
import Derived.WalkKit
import Derived.OpenShut
import Derived.ProofKit
namespace Go.Proofs.Ytpbijcchdjppmaa
open Go Go.RowKit Go.ChangeShapes Go.WideShapes

/-- a slice of integers: nil, or a row of 'cap' cells that hold the numbers 'zs', of which the first 'len' are the slice's -/
def IsRow (k : IntKind) (w : World) (a : Option Addr) (len cap : Nat) (zs : List Int) : Prop :=
  (a = none ∧ len = 0 ∧ cap = 0 ∧ zs = []) ∨
  ∃ x, a = some x ∧ len ≤ cap ∧ cap ≤ maxLen ∧ zs.length = cap ∧ (∀ i, i < zs.length → w.cell? (x.add i) = some (.int k (zs.getD i 0))) ∧ ∀ n ∈ zs, (Lit.int k n).wf = true

theorem u32_of_wf {a : Int} (h : (Lit.int .u32 a).wf = true) : ∃ x : BitVec 32, a = nb32 x := by
  have := bounds_u32 h
  exact u32_of_bounds this.1 (by omega)
theorem u32_list : ∀ {zs : List Int}, (∀ n ∈ zs, (Lit.int .u32 n).wf = true) → ∃ l : List (BitVec 32), zs = l.map nb32
  | [], _ => ⟨[], rfl⟩
  | z :: zs, h => by
    obtain ⟨x, rfl⟩ := u32_of_wf (h z (by simp))
    obtain ⟨l, rfl⟩ := u32_list (zs := zs) (fun n hn => h n (by simp [hn]))
    exact ⟨x :: l, rfl⟩
/-- a slice of 32-bit words: its elements l, readable where there are any -/
def Words32 (w : World) (a : Option Addr) (n : Nat) (l : List (BitVec 32)) : Prop :=
  l.length = n ∧ n ≤ maxLen ∧ ∀ i, i < n → ∃ x, a = some x ∧ w.cell? (x.add i) = some (.int .u32 (nb32 (l.getD i 0)))
theorem words_of_row {w : World} {a : Option Addr} {len cap : Nat} {zs : List Int} (h : IsRow .u32 w a len cap zs) : ∃ l, Words32 w a len l := by
  rcases h with ⟨rfl, rfl, rfl, rfl⟩ | ⟨x, rfl, hl, hm, hz, hc, hw⟩
  · exact ⟨[], rfl, by unfold maxLen; omega, fun i hi => by omega⟩
  · obtain ⟨l, rfl⟩ := u32_list hw
    rw [List.length_map] at hz
    refine ⟨l.take len, by simp; omega, by omega, fun i hi => ⟨x, rfl, ?_⟩⟩
    rw [hc i (by rw [List.length_map]; omega)]
    congr 2
    rw [List.getD_eq_getElem?_getD, List.getD_eq_getElem?_getD, List.getElem?_map, List.getElem?_take, if_pos hi]
    have : i < l.length := by omega
    rw [List.getElem?_eq_getElem this]
    rfl
theorem Words32.keep {w w' : World} {a : Option Addr} {n : Nat} {l : List (BitVec 32)} (h : Words32 w a n l) (hk : ∀ p : Addr, (w.cell? p).isSome = true → w'.cell? p = w.cell? p) : Words32 w' a n l := by
  refine ⟨h.1, h.2.1, fun i hi => ?_⟩
  obtain ⟨x, rfl, hx⟩ := h.2.2 i hi
  exact ⟨x, rfl, by rw [hk _ (by rw [hx]; rfl)]; exact hx⟩
theorem isSome_lt {w : World} {p : Addr} (h : (w.cell? p).isSome = true) : p.block < w.heap.size := by
  rcases Nat.lt_or_ge p.block w.heap.size with hlt | hge
  · exact hlt
  · have : w.heap[p.block]? = none := Array.getElem?_eq_none hge
    unfold World.cell? at h
    rw [this] at h
    simp at h
theorem Words32.below {w w' : World} {a : Option Addr} {n : Nat} {l : List (BitVec 32)} (h : Words32 w a n l) (hb : Below w.heap.size w w') : Words32 w' a n l :=
  h.keep fun _ hp => hb.cell (isSome_lt hp)
section
variable {H : Type} {enc : TypeId × Value → H} {P : Program} {W : World} {base : Nat} {v : Value} {d : DataW H} {p : List MemPlace}
theorem arg_u32 {t : TypeId} (ht : P.underlying t = some (.int .u32)) (o : Value.okWide P W .any base t v) (h : DataW.Trod enc P W 0 (fun _ => true) true t v d p) : ∃ x : BitVec 32, v = .int .u32 (nb32 x) := by
  obtain ⟨a, rfl, rfl, rfl, wa⟩ := open_int ht o h
  obtain ⟨x, rfl⟩ := u32_of_wf wa
  exact ⟨x, rfl⟩
theorem arg_u64 {t : TypeId} (ht : P.underlying t = some (.int .u64)) (o : Value.okWide P W .any base t v) (h : DataW.Trod enc P W 0 (fun _ => true) true t v d p) : ∃ x : BitVec 64, v = .int .u64 (nb64 x) := by
  obtain ⟨a, rfl, rfl, rfl, wa⟩ := open_int ht o h
  have := bounds_u64 wa
  obtain ⟨x, rfl⟩ := u64_of_bounds this.1 (by omega)
  exact ⟨x, rfl⟩
theorem arg_words {t e : TypeId} (ht : P.underlying t = some (.slice e)) (he : P.underlying e = some (.int .u32)) (hc : P.cellsOf e = 1) (o : Value.okWide P W .any base t v) (h : DataW.Trod enc P W 0 (fun _ => true) true t v d p) :
    ∃ (a : Option Addr) (n c : Nat) (l : List (BitVec 32)), v = .slice a n c ∧ Words32 W a n l := by
  obtain ⟨a, n, c, rfl⟩ := okWide_slice ht o
  obtain ⟨fuel, hf⟩ := h
  refine ⟨a, n, c, ?_⟩
  rcases open_ints ht he hc hf with ⟨hcs, _⟩ | ⟨x, l, cp, zs, hcs, _, hl, hm, hz, _, hcell, hwz⟩
  · simp [Value.cells] at hcs
    obtain ⟨rfl, rfl, rfl⟩ := hcs
    obtain ⟨l, hl⟩ := words_of_row (w := W) (.inl ⟨rfl, rfl, rfl, rfl⟩)
    exact ⟨l, rfl, hl⟩
  · simp [Value.cells] at hcs
    obtain ⟨rfl, rfl, rfl⟩ := hcs
    obtain ⟨l, hl⟩ := words_of_row (w := W) (.inr ⟨_, rfl, hl, hm, by simpa using hz, hcell, hwz⟩)
    exact ⟨l, rfl, hl⟩
theorem arg_wordsc {t e : TypeId} (ht : P.underlying t = some (.slice e)) (he : P.underlying e = some (.int .u32)) (hc : P.cellsOf e = 1) (o : Value.okWide P W .any base t v) (h : DataW.Trod enc P W 0 (fun _ => true) true t v d p) :
    ∃ (a : Option Addr) (n c : Nat) (l : List (BitVec 32)), v = .slice a n c ∧ Words32 W a n l ∧ n ≤ c ∧ (a = none → c = 0) := by
  obtain ⟨a, n, c, rfl⟩ := okWide_slice ht o
  obtain ⟨fuel, hf⟩ := h
  refine ⟨a, n, c, ?_⟩
  rcases open_ints ht he hc hf with ⟨hcs, _⟩ | ⟨x, l, cp, zs, hcs, _, hl, hm, hz, _, hcell, hwz⟩
  · simp [Value.cells] at hcs
    obtain ⟨rfl, rfl, rfl⟩ := hcs
    obtain ⟨l, hl⟩ := words_of_row (w := W) (.inl ⟨rfl, rfl, rfl, rfl⟩)
    exact ⟨l, rfl, hl, Nat.le_refl _, fun _ => rfl⟩
  · simp [Value.cells] at hcs
    obtain ⟨rfl, rfl, rfl⟩ := hcs
    obtain ⟨l, hw⟩ := words_of_row (w := W) (.inr ⟨_, rfl, hl, hm, by simpa using hz, hcell, hwz⟩)
    exact ⟨l, rfl, hw, hl, fun e => by cases e⟩
end
/-- the exclusive or of all -/
def xors (l : List (BitVec 32)) : BitVec 32 := l.foldl (· ^^^ ·) 0
theorem xors_take (l : List (BitVec 32)) (k : Nat) (h : k < l.length) : xors (l.take (k + 1)) = xors (l.take k) ^^^ l.getD k 0 := by
  rw [List.take_succ_eq_append_getElem h, xors, List.foldl_append, List.getD_eq_getElem?_getD, List.getElem?_eq_getElem h]
  rfl
end Go.Proofs.Ytpbijcchdjppmaa
