/- slices of strings -/
import Derived.Test.YtcedecljbgailaaDoorTxM
namespace Go.Proofs.YtcedecljbgailaaDoor
open Go Go.RowKit Go.ChangeShapes Go.WideShapes
/-- a string as a record of one cell -/
def strRec : Rec (List (BitVec 8)) where
  k := 1
  cells l := [.string (strB l)]
  ok l := l.length ≤ maxLen
  pos := by omega
  len _ _ := rfl
  one l v hv := by
    simp at hv
    subst hv
    rfl
section
variable {H : Type} {enc : TypeId × Value → H} {w : World} {base : Nat} {spare : Nat → Bool} {held : Bool}
theorem open_str {fuel : Nat} {cs : List Value} {x : DataW H × List MemPlace} (h : DataW.trod enc Tryd.prog w base spare held fuel 9 cs = some x) : ∃ l : List (BitVec 8), cs = [.string (strB l)] ∧ l.length ≤ maxLen := by
  obtain ⟨s, e1, _, b1⟩ := DataW.trod_string Tryd.underlying9 h
  obtain ⟨l, rfl⟩ := str_of s
  exact ⟨l, e1, by rw [strB_size] at b1; exact b1⟩
end
theorem strs_at {w : World} {x : Addr} {n i : Nat} {L : List (List (BitVec 8))} {l : List (BitVec 8)} (h : Recs strRec w (some x) n L) (hi : L[i]? = some l) : w.cell? (x.add i) = some (.string (strB l)) := by
  have e := h.field (R := strRec) (j := 0) hi rfl
  have e2 : i * strRec.k + 0 = i := by show i * 1 + 0 = i; omega
  rwa [e2] at e
section
variable {H : Type} {enc : TypeId × Value → H} {W : World} {base : Nat} {v : Value} {d : DataW H} {p : List MemPlace}
theorem arg_strs (o : Value.okWide Tryd.prog W .any base 39 v) (h : DataW.Trod enc Tryd.prog W 0 (fun _ => true) true 39 v d p) :
    ∃ (a : Option Addr) (n c : Nat) (L : List (List (BitVec 8))), v = .slice a n c ∧ Recs strRec W a n L ∧ n ≤ c ∧ (a = none → c = 0) := by
  obtain ⟨a, n, c, rfl⟩ := okWide_slice Tryd.underlying39 o
  obtain ⟨fuel, hf⟩ := h
  obtain ⟨a', n', c', L, e, hL, hnc, h0⟩ := open_recs (R := strRec) Tryd.underlying39 (by kernel_rfl) open_str hf
  have e2 : Value.slice a n c = Value.slice a' n' c' := by
    have e3 : (Value.slice a n c).cells.toList = [Value.slice a n c] := rfl
    first
      | exact e
      | (rw [e3] at e; exact (List.cons.inj e).1)
  injection e2 with e4 e5 e6
  subst e4
  subst e5
  subst e6
  exact ⟨a, n, c, L, rfl, hL, hnc, h0⟩
/-- an argument that is a slice of coins -/
theorem arg_coins (o : Value.okWide Tryd.prog W .any base 36 v) (h : DataW.Trod enc Tryd.prog W 0 (fun _ => true) true 36 v d p) :
    ∃ (a : Option Addr) (n c : Nat) (L : List Tx.Co), v = .slice a n c ∧ Recs coRec W a n L ∧ n ≤ c ∧ (a = none → c = 0) := by
  obtain ⟨a, n, c, rfl⟩ := okWide_slice Tryd.underlying36 o
  obtain ⟨fuel, hf⟩ := h
  obtain ⟨a', n', c', L, e, hL, hnc, h0⟩ := open_recs (R := coRec) Tryd.underlying36 (by kernel_rfl) open_coin hf
  have e2 : Value.slice a n c = Value.slice a' n' c' := by
    have e3 : (Value.slice a n c).cells.toList = [Value.slice a n c] := rfl
    first
      | exact e
      | (rw [e3] at e; exact (List.cons.inj e).1)
  injection e2 with e4 e5 e6
  subst e4
  subst e5
  subst e6
  exact ⟨a, n, c, L, rfl, hL, hnc, h0⟩
end
end Go.Proofs.YtcedecljbgailaaDoor
