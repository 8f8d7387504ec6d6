/- A struct of one-cell fields that came in by value: the reading of each field. Nothing of the program. -/
import Derived.Test.YtpbijcchdjppmaaBb
import Derived.Deep.Fields
namespace Go.Proofs.Ytpbijcchdjppmaa
open Go Go.RowKit Go.ChangeShapes Go.WideShapes
section
variable {H : Type} {enc : TypeId × Value → H} {P : Program} {W : World} {base : Nat} {v : Value} {d : DataW H} {p : List MemPlace}
theorem arg_fields {t : TypeId} {fs : Array Field} (hs : P.underlying t = some (.struct fs)) (hone : Go.Deep.oneCellFields P fs = true) (hC : P.cellsOf t = fs.size) (o : Value.okWide P W .any base t v) (h : DataW.Trod enc P W 0 (fun _ => true) true t v d p) :
    ∃ cs : List Value, v = .agg cs.toArray ∧ cs.length = fs.size ∧ ∀ (j : Nat) (f : Field) (c : Value), fs[j]? = some f → cs[j]? = some c → ∃ n y, DataW.trod enc P W 0 (fun _ => true) true n f.type [c] = some y := by
  obtain ⟨cs, rfl, hsz⟩ := okWide_struct hs o
  obtain ⟨fuel, hf⟩ := h
  obtain ⟨xs, n, _, _, _, hlen, hg⟩ := DataW.trod_struct hs hf
  refine ⟨cs.toList, rfl, by rw [Array.length_toList, hsz, hC], fun j f c hj hc => ?_⟩
  obtain ⟨e1, e2⟩ := Go.Deep.hone_of hone j f hj
  have hx := hg j f hj
  have hone' : (((Value.agg cs).cells.toList.drop f.offset).take (P.cellsOf f.type)) = [c] := by
    rw [e1, e2]
    show (cs.toList.drop j).take 1 = [c]
    obtain ⟨hl, rfl⟩ := List.getElem?_eq_some_iff.1 hc
    rw [List.drop_eq_getElem_cons hl]
    rfl
  rw [hone'] at hx
  have hjl : j < xs.length := by
    have := (Array.getElem?_eq_some_iff.1 hj).1
    omega
  rw [List.getElem?_eq_getElem hjl] at hx
  exact ⟨n, _, hx⟩
theorem field_words {t e : TypeId} {n : Nat} {c : Value} {y : DataW H × List MemPlace} (ht : P.underlying t = some (.slice e)) (he : P.underlying e = some (.int .u32)) (hc : P.cellsOf e = 1) (h : DataW.trod enc P W 0 (fun _ => true) true n t [c] = some y) :
    ∃ (a : Option Addr) (k q : Nat) (l : List (BitVec 32)), c = .slice a k q ∧ Words32 W a k l ∧ k ≤ q ∧ (a = none → q = 0) := by
  rcases open_ints ht he hc h with ⟨hcs, _⟩ | ⟨x, l, cp, zs, hcs, _, hl, hm, hz, _, hcell, hwz⟩
  · obtain ⟨rfl, _⟩ := List.cons.inj hcs
    obtain ⟨l, hl⟩ := words_of_row (w := W) (.inl ⟨rfl, rfl, rfl, rfl⟩)
    exact ⟨_, _, _, l, rfl, hl, Nat.le_refl _, fun _ => rfl⟩
  · obtain ⟨rfl, _⟩ := List.cons.inj hcs
    obtain ⟨l, hw⟩ := words_of_row (w := W) (.inr ⟨_, rfl, hl, hm, by simpa using hz, hcell, hwz⟩)
    exact ⟨_, _, _, l, rfl, hw, hl, fun e => by cases e⟩
theorem field_int {t : TypeId} {n : Nat} {c : Value} {y : DataW H × List MemPlace} (ht : P.underlying t = some (.int .i64)) (h : DataW.trod enc P W 0 (fun _ => true) true n t [c] = some y) :
    ∃ z : Int, c = .int .i64 z ∧ (-9223372036854775808 ≤ z ∧ z < 9223372036854775808) := by
  obtain ⟨z, hcs, _, hw⟩ := DataW.trod_int ht h
  obtain ⟨rfl, _⟩ := List.cons.inj hcs
  have := bounds_i64 hw
  exact ⟨z, rfl, by omega⟩
theorem field_bytes {t e : TypeId} {n : Nat} {c : Value} {y : DataW H × List MemPlace} (ht : P.underlying t = some (.slice e)) (he : P.underlying e = some (.int .u8)) (hc : P.cellsOf e = 1) (h : DataW.trod enc P W 0 (fun _ => true) true n t [c] = some y) :
    ∃ (a : Option Addr) (k q : Nat) (l : List (BitVec 8)), c = .slice a k q ∧ Bytes8 W a k l ∧ k ≤ q ∧ (a = none → q = 0) := by
  rcases open_ints ht he hc h with ⟨hcs, _⟩ | ⟨x, l, cp, zs, hcs, _, hl, hm, hz, _, hcell, hwz⟩
  · obtain ⟨rfl, _⟩ := List.cons.inj hcs
    exact ⟨_, _, _, [], rfl, bytes_none W, Nat.le_refl _, fun _ => rfl⟩
  · obtain ⟨rfl, _⟩ := List.cons.inj hcs
    obtain ⟨l, hw⟩ := bytes_of_row (w := W) (.inr ⟨_, rfl, hl, hm, by simpa using hz, hcell, hwz⟩)
    exact ⟨_, _, _, l, rfl, hw, hl, fun e => by cases e⟩
theorem field_u64 {t : TypeId} {n : Nat} {c : Value} {y : DataW H × List MemPlace} (ht : P.underlying t = some (.int .u64)) (h : DataW.trod enc P W 0 (fun _ => true) true n t [c] = some y) :
    ∃ z : BitVec 64, c = .int .u64 (nb64 z) := by
  obtain ⟨z, hcs, _, hw⟩ := DataW.trod_int ht h
  obtain ⟨rfl, _⟩ := List.cons.inj hcs
  have := bounds_u64 hw
  obtain ⟨x, rfl⟩ := u64_of_bounds this.1 (by omega)
  exact ⟨x, rfl⟩
end
end Go.Proofs.Ytpbijcchdjppmaa
