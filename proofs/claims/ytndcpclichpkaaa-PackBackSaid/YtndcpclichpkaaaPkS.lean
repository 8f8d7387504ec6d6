/- things: the law's own structs, as an argument and whole; the law's long -/
import Derived.Test.YtndcpclichpkaaaPkT
import Derived.Test.YtndcpclichpkaaaTe
import Derived.Test.YtndcpclichpkaaaAg
import Derived.Deep.Slices
namespace Go.Proofs.Ytndcpclichpkaaa
open Go Go.RowKit Go.ChangeShapes Go.WideShapes
structure Pk.Th where
  kind : Int
  size : Int
  n : BitVec 64
  s : List (BitVec 8)
  h : List (BitVec 8)
/-- what a thing's numbers are within -/
def Pk.ThOk (t : Pk.Th) : Prop := (-9223372036854775808 ≤ t.kind ∧ t.kind < 9223372036854775808) ∧ (-9223372036854775808 ≤ t.size ∧ t.size < 9223372036854775808) ∧ t.s.length ≤ maxLen ∧ t.h.length = 32
def thCells (t : Pk.Th) : List Value := [.int .i64 t.kind, .int .i64 t.size, .int .u64 (nb64 t.n), .string (strB t.s)] ++ blist t.h
theorem thCells_len {t : Pk.Th} (h : t.h.length = 32) : (thCells t).length = 36 := by simp [thCells, blist_length, h]
theorem thCells_one (t : Pk.Th) : (thCells t).toArray.all (·.oneCell') = true :=
  Array.all_eq_true_iff_forall_mem.2 fun v hv => by
    have hv' : v ∈ thCells t := by simpa using hv
    unfold thCells at hv'
    rcases List.mem_append.1 hv' with h | h
    · simp at h
      rcases h with rfl | rfl | rfl | rfl <;> rfl
    · exact blist_one _ v h
theorem size_thing {t : Pk.Th} (h : t.h.length = 32) : (Try.prog.info? 33).map (·.size) = some (thCells t).toArray.size := by
  rw [List.size_toArray, thCells_len h]
  kernel_rfl
section
variable {H : Type} {enc : TypeId × Value → H} {w : World} {base : Nat} {spare : Nat → Bool} {held : Bool}
theorem open_thing {fuel : Nat} {cs : List Value} {x : DataW H × List MemPlace} (h : DataW.trod enc Try.prog w base spare held fuel 33 cs = some x) : ∃ t : Pk.Th, cs = thCells t ∧ Pk.ThOk t := by
  obtain ⟨xs, m, _, _, hlen, hxl, hg⟩ := DataW.trod_struct Try.underlying33 h
  have hl : cs.length = 36 := hlen.trans (by kernel_rfl)
  have hx5 : xs.length = 5 := hxl
  have c1 : Try.prog.cellsOf 3 = 1 := by kernel_rfl
  have c2 : Try.prog.cellsOf 29 = 1 := by kernel_rfl
  have c3 : Try.prog.cellsOf 9 = 1 := by kernel_rfl
  have c4 : Try.prog.cellsOf 31 = 32 := by kernel_rfl
  have g0 : DataW.trod enc Try.prog w base spare held m 3 ((cs.drop 0).take (Try.prog.cellsOf 3)) = xs[0]? := hg 0 _ rfl
  have g1 : DataW.trod enc Try.prog w base spare held m 3 ((cs.drop 1).take (Try.prog.cellsOf 3)) = xs[1]? := hg 1 _ rfl
  have g2 : DataW.trod enc Try.prog w base spare held m 29 ((cs.drop 2).take (Try.prog.cellsOf 29)) = xs[2]? := hg 2 _ rfl
  have g3 : DataW.trod enc Try.prog w base spare held m 9 ((cs.drop 3).take (Try.prog.cellsOf 9)) = xs[3]? := hg 3 _ rfl
  have g4 : DataW.trod enc Try.prog w base spare held m 31 ((cs.drop 4).take (Try.prog.cellsOf 31)) = xs[4]? := hg 4 _ rfl
  rw [List.getElem?_eq_getElem (by omega)] at g0 g1 g2 g3 g4
  rw [c1] at g0 g1
  rw [c2] at g2
  rw [c3] at g3
  rw [c4] at g4
  obtain ⟨z0, e0, _, b0⟩ := DataW.trod_int Try.underlying3 g0
  obtain ⟨z1, e1, _, b1⟩ := DataW.trod_int Try.underlying3 g1
  obtain ⟨z2, e2, _, b2⟩ := DataW.trod_int Try.underlying29 g2
  obtain ⟨s, e3, _, b3⟩ := DataW.trod_string Try.underlying9 g3
  obtain ⟨hh, e4, l4⟩ := open_bytes32 Try.underlying31 Try.underlying5 (by kernel_rfl) c4 g4
  obtain ⟨x2, rfl⟩ := u64_of_bounds (bounds_u64 b2).1 (by have := (bounds_u64 b2).2; omega)
  obtain ⟨l, rfl⟩ := str_of s
  have k0 := bounds_i64 b0
  have k1 := bounds_i64 b1
  refine ⟨⟨z0, z1, x2, l, hh⟩, ?_, ⟨by dsimp only; omega, by dsimp only; omega, by rw [strB_size] at b3; exact b3, l4⟩⟩
  unfold thCells
  have at1 : ∀ (j : Nat) (v : Value), (cs.drop j).take 1 = [v] → cs[j]? = some v := fun j v e => by
    have := congrArg (fun l : List Value => l[0]?) e
    simpa [List.getElem?_take, List.getElem?_drop] using this
  have a0 := at1 0 _ e0
  have a1 := at1 1 _ e1
  have a2 := at1 2 _ e2
  have a3 := at1 3 _ e3
  apply List.ext_getElem?
  intro j
  match j with
  | 0 => exact a0
  | 1 => exact a1
  | 2 => exact a2
  | 3 => exact a3
  | j + 4 =>
    have := congrArg (fun l : List Value => l[j]?) e4
    rw [List.getElem?_append_right (by simp)]
    rw [show j + 4 - [Value.int .i64 z0, .int .i64 z1, .int .u64 (nb64 x2), .string (strB l)].length = j by simp, ← this, List.getElem?_take, List.getElem?_drop]
    by_cases hj : j < 32
    · rw [if_pos hj, Nat.add_comm]
    · rw [if_neg hj, List.getElem?_eq_none (by omega)]
end
/-- a slice of things: readable where there are any -/
def Things (w : World) (a : Option Addr) (n : Nat) (L : List Pk.Th) : Prop :=
  L.length = n ∧ n ≤ maxLen ∧ (∀ t, t ∈ L → Pk.ThOk t) ∧ ∀ (i : Nat) (t : Pk.Th), L[i]? = some t → ∃ x, a = some x ∧ ∀ (j : Nat) (v : Value), (thCells t)[j]? = some v → w.cell? (x.add (i * 36 + j)) = some v
theorem Things.keep {w w' : World} {a : Option Addr} {n : Nat} {L : List Pk.Th} (h : Things w a n L) (hk : ∀ p : Addr, (w.cell? p).isSome = true → w'.cell? p = w.cell? p) : Things w' a n L := by
  refine ⟨h.1, h.2.1, h.2.2.1, fun i t hi => ?_⟩
  obtain ⟨x, rfl, hx⟩ := h.2.2.2 i t hi
  exact ⟨x, rfl, fun j v hj => by rw [hk _ (by rw [hx j v hj]; rfl)]; exact hx j v hj⟩
theorem Things.below {w w' : World} {a : Option Addr} {n : Nat} {L : List Pk.Th} (h : Things w a n L) (hb : Below w.heap.size w w') : Things w' a n L := h.keep fun _ hp => hb.cell (isSome_lt hp)
theorem exists_things (W : World) (x : Addr) : ∀ (n : Nat) (_ : ∀ i, i < n → ∃ t : Pk.Th, Pk.ThOk t ∧ ∀ (j : Nat) (v : Value), (thCells t)[j]? = some v → W.cell? (x.add (i * 36 + j)) = some v),
    ∃ L : List Pk.Th, L.length = n ∧ (∀ t, t ∈ L → Pk.ThOk t) ∧ ∀ (i : Nat) (t : Pk.Th), L[i]? = some t → ∀ (j : Nat) (v : Value), (thCells t)[j]? = some v → W.cell? (x.add (i * 36 + j)) = some v
  | 0, _ => ⟨[], rfl, (fun _ hl => by cases hl), fun i t hi => by simp at hi⟩
  | n + 1, h => by
    obtain ⟨L, h1, h2, h3⟩ := exists_things W x n (fun i hi => h i (by omega))
    obtain ⟨t, h4, h5⟩ := h n (by omega)
    refine ⟨L ++ [t], by simp [h1], fun u hu => ?_, fun i u hi => ?_⟩
    · rcases List.mem_append.1 hu with h | h
      · exact h2 u h
      · rw [List.mem_singleton.1 h]; exact h4
    · rcases Nat.lt_or_ge i n with hlt | hge
      · rw [List.getElem?_append_left (by omega)] at hi
        exact h3 i u hi
      · rw [List.getElem?_append_right (by omega), h1] at hi
        have e : i = n := by
          rcases Nat.eq_or_lt_of_le hge with e | e
          · exact e.symm
          · rw [List.getElem?_eq_none (by simp; omega)] at hi; cases hi
        subst e
        rw [Nat.sub_self] at hi
        injection hi with hi
        subst hi
        exact h5
section
variable {H : Type} {enc : TypeId × Value → H} {W : World} {base : Nat} {v : Value} {d : DataW H} {p : List MemPlace}
theorem arg_things (o : Value.okWide Try.prog W .any base 22 v) (h : DataW.Trod enc Try.prog W 0 (fun _ => true) true 22 v d p) :
    ∃ (a : Option Addr) (n c : Nat) (L : List Pk.Th), v = .slice a n c ∧ Things W a n L ∧ n ≤ c ∧ (a = none → c = 0) := by
  have ht := Try.underlying22
  have hC : Try.prog.cellsOf 33 = 36 := by kernel_rfl
  obtain ⟨a, n, c, rfl⟩ := okWide_slice ht o
  obtain ⟨fuel, hf⟩ := h
  refine ⟨a, n, c, ?_⟩
  rcases Go.Deep.open_slice ht hf with ⟨hcs, _⟩ | ⟨x, len, cap, m, q, D, Pl, hcs, _, hl, hm, hmm, _, hcell⟩
  · simp [Value.cells] at hcs
    obtain ⟨rfl, rfl, rfl⟩ := hcs
    exact ⟨[], rfl, ⟨rfl, by unfold maxLen; omega, (fun l hl => by cases hl), fun i t hi => by simp at hi⟩, Nat.le_refl _, fun _ => rfl⟩
  · simp [Value.cells] at hcs
    obtain ⟨rfl, rfl, rfl⟩ := hcs
    obtain ⟨L, h1, h2, h3⟩ := exists_things W x n (fun i hi => by
      obtain ⟨cs, hcs, htr⟩ := hcell i (by split at hmm <;> omega)
      obtain ⟨t, rfl, hok⟩ := open_thing htr
      rw [hC] at hcs
      obtain ⟨_, hlen, hat⟩ := World.cells?_some hcs
      refine ⟨t, hok, fun j u hj => ?_⟩
      have hj36 : j < 36 := by
        have := (List.getElem?_eq_some_iff.1 hj).1
        rwa [thCells_len hok.2.2.2] at this
      rw [← Addr.add_add, hat j hj36, hj])
    exact ⟨L, rfl, ⟨h1, by omega, h2, fun i t hi => ⟨x, rfl, h3 i t hi⟩⟩, hl, fun e => by cases e⟩
end
/-- a thing is read whole -/
theorem Things.load {w : World} {a : Option Addr} {n i : Nat} {L : List Pk.Th} {t : Pk.Th} (h : Things w a n L) (hi : L[i]? = some t) :
    ∃ x, a = some x ∧ (Instr.loadAt 33 (.pointer (some (x.add (i * 36))))).run Try.prog w = .ok (.agg (thCells t).toArray) w := by
  obtain ⟨x, rfl, hx⟩ := h.2.2.2 i t hi
  refine ⟨x, rfl, ?_⟩
  have hok := h.2.2.1 t (List.mem_of_getElem? hi)
  have h1 := run_loadCells_list (P := Try.prog) w (x.add (i * 36)) (thCells t) (fun j v hj => by rw [Addr.add_add]; exact hx j v hj)
  rw [thCells_len hok.2.2.2] at h1
  have hs := size_thing hok.2.2.2
  rw [List.size_toArray, thCells_len hok.2.2.2] at hs
  cases hq : Try.prog.info? 33 with
  | none => simp [hq] at hs
  | some inf =>
    have hz : inf.size = 36 := by simpa [hq] using hs
    have hagg : (isAgg 33).run Try.prog w = .ok true w := by
      unfold isAgg
      rw [Sem.run_bind, run_underlying Try.underlying33 w]
      rfl
    simp [Instr.loadAt, Instr.sureAddr, loadVar, Sem.run_bind, hagg, sizeOf, typeInfo, hq, hz, h1]
/-- a new thing -/
abbrev zTh : Array Value := #[.int .i64 0, .int .i64 0, .int .u64 0, .string ⟨#[]⟩, .int .u8 0, .int .u8 0, .int .u8 0, .int .u8 0, .int .u8 0, .int .u8 0, .int .u8 0, .int .u8 0, .int .u8 0, .int .u8 0, .int .u8 0, .int .u8 0, .int .u8 0, .int .u8 0, .int .u8 0, .int .u8 0, .int .u8 0, .int .u8 0, .int .u8 0, .int .u8 0, .int .u8 0, .int .u8 0, .int .u8 0, .int .u8 0, .int .u8 0, .int .u8 0, .int .u8 0, .int .u8 0, .int .u8 0, .int .u8 0, .int .u8 0, .int .u8 0]
theorem there_thing (w : World) (T : TypeId) {t : Pk.Th} (hl : t.h.length = 32) : (w.alloc (.cells zTh T)).there w.heap.size 0 (thCells t).toArray.size :=
  (Has.fresh w T zTh).there 0 _ (by rw [List.size_toArray, thCells_len hl]; decide)
theorem thing_new {w w' : World} {T : TypeId} {t : Pk.Th} (hl : t.h.length = 32) (h : w' = (w.alloc (.cells zTh T)).setCells w.heap.size 0 (thCells t)) : Has w' w.heap.size T (thCells t).toArray ∧ Below w.heap.size w w' := by
  subst h
  refine ⟨?_, below_setAll (Nat.le_refl _) _ 0 ((Below.refl _ _).alloc (Nat.le_refl _) _)⟩
  have := (Has.fresh w T zTh).putAll (thCells t) 0
  rwa [putAll_to _ _ 0 (by rw [thCells_len hl]; rfl), List.take_zero, List.nil_append] at this
section
variable {w : World} {g : Nat} {T : TypeId} {t : Pk.Th}
theorem Has.kind (h : Has w g T (thCells t).toArray) : w.cell? ⟨g, 0, none⟩ = some (.int .i64 t.kind) := h.cell_at (by rw [List.getElem?_toArray]; rfl)
theorem Has.asize (h : Has w g T (thCells t).toArray) : w.cell? ⟨g, 1, none⟩ = some (.int .i64 t.size) := h.cell_at (by rw [List.getElem?_toArray]; rfl)
theorem Has.num (h : Has w g T (thCells t).toArray) : w.cell? ⟨g, 2, none⟩ = some (.int .u64 (nb64 t.n)) := h.cell_at (by rw [List.getElem?_toArray]; rfl)
theorem Has.str (h : Has w g T (thCells t).toArray) : w.cell? ⟨g, 3, none⟩ = some (.string (strB t.s)) := h.cell_at (by rw [List.getElem?_toArray]; rfl)
theorem Has.dig (h : Has w g T (thCells t).toArray) (hl : t.h.length = 32) : (Instr.loadAt 31 (.pointer (some ⟨g, 4, none⟩))).run Try.prog w = .ok (.agg (blist t.h).toArray) w :=
  run_load_bytes (P := Try.prog) Try.underlying31 (by kernel_rfl) hl fun j hj => by
    rw [Addr.add_mid]
    refine h.cell_at ?_
    rw [List.getElem?_toArray]
    unfold thCells
    rw [List.getElem?_append_right (by simp), show 4 + j - [Value.int .i64 t.kind, .int .i64 t.size, .int .u64 (nb64 t.n), .string (strB t.s)].length = j by simp]
    exact blist_at t.h j (by omega)
end
end Go.Proofs.Ytndcpclichpkaaa
