/- a reader and a buffer side by side; what nil ones answer -/
import Derived.Test.YtndcpclichpkaaaPkY
import Derived.Test.YtndcpclichpkaaaPkB1
import Derived.Test.YtndcpclichpkaaaPkZ
namespace Go.Proofs.Ytndcpclichpkaaa
open Go Go.RowKit Go.ChangeShapes Go.WideShapes
/-- a reader at gi (its bytes in r) and a buffer at g, made later -/
def Pair (w : World) (gi : Nat) (r : Option Nat) (g : Nat) (v : Value) (s : Pk.Rd) (l : List (BitVec 8)) : Prop :=
  InS w gi r s ∧ OutS g w g v l ∧ gi < g ∧ ∀ k, r = some k → k < gi
section
variable {w w1 w2 : World} {gi g : Nat} {r : Option Nat} {v v2 : Value} {s s2 : Pk.Rd} {l l2 : List (BitVec 8)}
theorem Pair.below (h : Pair w gi r g v s l) (hb : Below w.heap.size w w1) : Pair w1 gi r g v s l := ⟨h.1.below hb, h.2.1.below hb, h.2.2⟩
theorem Pair.read (h : Pair w gi r g v s l) (hi : InS w1 gi r s2) (hm : Moved (inF gi) w w1) : Pair w1 gi r g v s2 l :=
  ⟨hi, h.2.1.moved hm (fun e => by have e' : g = gi := e; have := h.2.2.1; omega) (fun k e e' => by have := (h.2.1.2.lt_size k e).1; have e2 : k = gi := e'; have := h.2.2.1; omega), h.2.2⟩
theorem Pair.wrote (h : Pair w gi r g v s l) (ho : OutS g w1 g v2 l2) (hm : Moved (outF g v) w w1) : Pair w1 gi r g v2 s l2 := by
  have hne : ∀ k, k ≤ gi → ¬ outF g v k := fun k hk hf => hf.elim (fun e => by have := h.2.2.1; omega) (fun e => by have := (h.2.1.2.lt_size k e).1; have := h.2.2.1; omega)
  exact ⟨h.1.moved hm (hne gi (Nat.le_refl _)) (fun k e => hne k (Nat.le_of_lt (h.2.2.2 k e))), ho, h.2.2⟩
end
/-- what is put again, with what is left, is what was there -/
def Goes (lb l : List (BitVec 8)) (s : Pk.Rd) : Prop := match s with
  | none => True
  | some B => l ++ B = lb
theorem Goes.num {lb l : List (BitVec 8)} {s : Pk.Rd} (h : Goes lb l s) (z : Int) : Goes lb (l ++ Pk.num (Pk.rdNum s z).2 z) (Pk.rdNum s z).1 := by
  cases s with
  | none => trivial
  | some B =>
    cases hc : (Pk.rdNum (some B) z).1 with
    | none => trivial
    | some C =>
      show l ++ _ ++ C = lb
      rw [List.append_assoc, Pk.num_again B z C hc]
      exact h
theorem Goes.count {lb l : List (BitVec 8)} {s : Pk.Rd} (h : Goes lb l s) (z : Int) : Goes lb (l ++ Pk.count (Pk.rdCount s z).2) (Pk.rdCount s z).1 := by
  cases s with
  | none => trivial
  | some B =>
    cases hc : (Pk.rdCount (some B) z).1 with
    | none => trivial
    | some C =>
      show l ++ _ ++ C = lb
      rw [List.append_assoc, Pk.count_again B z C hc]
      exact h
theorem Goes.text {lb l : List (BitVec 8)} {s : Pk.Rd} (h : Goes lb l s) (z : Int) : Goes lb (l ++ Pk.text (Pk.rdText s z).2) (Pk.rdText s z).1 := by
  cases s with
  | none => trivial
  | some B =>
    cases hc : (Pk.rdText (some B) z).1 with
    | none => trivial
    | some C =>
      show l ++ _ ++ C = lb
      rw [List.append_assoc, Pk.text_again B z C hc]
      exact h
theorem Goes.hash {lb l : List (BitVec 8)} {s : Pk.Rd} (h : Goes lb l s) : Goes lb (l ++ (Pk.rdHash s).2) (Pk.rdHash s).1 := by
  cases s with
  | none => trivial
  | some B =>
    cases hc : (Pk.rdHash (some B)).1 with
    | none => trivial
    | some C =>
      show l ++ _ ++ C = lb
      rw [List.append_assoc, Pk.hash_again B C hc]
      exact h
theorem Goes.ended {lb l : List (BitVec 8)} {s : Pk.Rd} (h : Goes lb l s) (he : Pk.atEnd s = true) : l = lb := by
  cases s with
  | none => cases he
  | some B =>
    cases B with
    | nil => have h' : l ++ [] = lb := h; simpa using h'
    | cons b B => cases he
theorem rdText_len (s : Pk.Rd) (z : Int) : (Pk.rdText s z).2.length ≤ (Pk.left s).length := by
  rw [rdText_eq]
  have h1 := left_rdCount s z
  refine Nat.le_trans ?_ h1
  generalize (Pk.rdCount s z).1 = t
  generalize (Pk.rdCount s z).2.toNat = n
  cases t with
  | none => exact Nat.zero_le _
  | some B =>
    show ((if n ≤ B.length then _ else _) : Pk.Rd × List (BitVec 8)).2.length ≤ B.length
    split
    · simp; omega
    · exact Nat.zero_le _
theorem inHash_none' (w : World) : Calls Try.prog 26 #[.pointer none] w fun e w' => e = .returned (.agg z32) ∧ Below w.heap.size w w' := by
  rw [z32_list]
  exact inHash_none w
theorem inText_none' (w : World) : Calls Try.prog 24 #[.pointer none, .int .i64 9] w fun e w' => e = .returned (.string ⟨#[]⟩) ∧ w = w' := inText_none w
theorem zero_eql (w : World) : (binOp .eql 31 (.agg z32) (.agg z32)).run Try.prog w = .ok (.bool true) w := by
  have h := run_eql_hash (P := Try.prog) (w := w) Try.underlying31 Try.underlying5 (by kernel_rfl) (List.replicate 32 0#8) (List.replicate 32 0#8) List.length_replicate List.length_replicate
  rw [decide_eq_true rfl] at h
  exact h
end Go.Proofs.Ytndcpclichpkaaa
