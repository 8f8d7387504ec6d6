/- Slices of words that came in: how long they may be. Nothing of the program. -/
import Derived.Test.YtpemaglajhlghaaRow
import Derived.SizedLaws
namespace Go.Proofs.Ytpemaglajhlghaa
open Go Go.RowKit Go.ChangeShapes Go.WideShapes
section
variable {H : Type} {enc : TypeId × Value → H} {P : Program} {W : World} {base : Nat} {v : Value} {d : DataW H} {p : List MemPlace}
theorem arg_wordss {t e : TypeId} (ht : P.underlying t = some (.slice e)) (he : P.underlying e = some (.int .u32)) (hc : P.cellsOf e = 1) (o : Value.okWide P W .any base t v) (h : DataW.Trod enc P W 0 (fun _ => true) true t v d p) :
    ∃ (a : Option Addr) (n c : Nat) (l : List (BitVec 32)), v = .slice a n c ∧ Words32 W a n l ∧ n ≤ c ∧ (a = none → c = 0) ∧ (n = 0 ∨ ∃ es sp, d = .slice es sp ∧ es.length = n) := by
  obtain ⟨a, n, c, rfl⟩ := okWide_slice ht o
  obtain ⟨fuel, hf⟩ := h
  refine ⟨a, n, c, ?_⟩
  rcases open_ints ht he hc hf with ⟨hcs, _⟩ | ⟨x, l, cp, zs, hcs, _, hl, hm, hz, hx, hcell, hwz⟩
  · simp [Value.cells] at hcs
    obtain ⟨rfl, rfl, rfl⟩ := hcs
    obtain ⟨l, hl⟩ := words_of_row (w := W) (.inl ⟨rfl, rfl, rfl, rfl⟩)
    exact ⟨l, rfl, hl, Nat.le_refl _, fun _ => rfl, .inl rfl⟩
  · simp [Value.cells] at hcs
    obtain ⟨rfl, rfl, rfl⟩ := hcs
    have hz' : zs.length = c := by simpa using hz
    obtain ⟨l, hw⟩ := words_of_row (w := W) (.inr ⟨_, rfl, hl, hm, hz', hcell, hwz⟩)
    refine ⟨l, rfl, hw, hl, (fun e => by cases e), .inr ⟨_, _, (Prod.mk.inj hx).1, ?_⟩⟩
    simp [lits]; omega
theorem words_bound {ts : List TypeId} {ds : List (DataW H)} (sz : (DataW.weightsEach P ts ds).all (fun x => decide (x ≤ reachBytes)) = true) {j : Nat} {t e : TypeId} (ht : ts[j]? = some t) (hd : ds[j]? = some d) (hu : P.underlying t = some (.slice e)) (hb : P.bytesOf e = 4)
    {n : Nat} (hn : n = 0 ∨ ∃ es sp, d = .slice es sp ∧ es.length = n) : n ≤ 35184372087808 := by
  rcases hn with rfl | ⟨es, sp, rfl, rfl⟩
  · omega
  · have := sized_slice sz ht hd hu
    rw [hb] at this
    simp only [reachBytes] at this
    omega
end
end Go.Proofs.Ytpemaglajhlghaa
