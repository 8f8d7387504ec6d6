/- amounts and fee-rates, pure · the reference: Good, Right, Need, Pays, With · the reference: With, Total, Compare · what package amount answers, as a premise; the example; AmountTotals over it · package amount: Good, Fee, Need, Pays, Total, as the premise asks (mkamc.py) -/
import Derived.Test.YtcedecljbgailaaDoorLz
import Derived.Test.YtcedecljbgailaaDoorRows
import Derived.Lib.Hide
import Derived.IntWalk
import Derived.OpenShut
import Derived.ProofKit
import Derived.Deep.Cut
import Derived.Deep.RegionHeld3
/-! amounts and fee-rates, pure -/
namespace Go.Proofs.YtcedecljbgailaaDoor.Am
def Good (z : Int) : Prop := 0 ≤ z ∧ z ≤ 2100000000000000
def Right (f w : Int) : Prop := Good f ∧ 1 ≤ w ∧ w ≤ 1099511627776
instance (z : Int) : Decidable (Good z) := inferInstanceAs (Decidable (_ ∧ _))
instance (f w : Int) : Decidable (Right f w) := inferInstanceAs (Decidable (_ ∧ _))
/-- how two fractions compare -/
def cmpN (x y u v : Nat) : Int := if x * v < u * y then -1 else if u * y < x * v then 1 else 0
def cmp (f w g v : Int) : Int := if Right f w ∧ Right g v then cmpN f.toNat w.toNat g.toNat v.toNat else 0
theorem cmpN_quo {x y u v : Nat} (hy : 0 < y) (hv : 0 < v) (h : x / y < u / v) : cmpN x y u v = -1 := by
  have h1 : x < (x / y + 1) * y := by rw [Nat.mul_comm]; exact Nat.lt_mul_div_succ x hy
  have h2 : u / v * v ≤ u := Nat.div_mul_le_self u v
  have h3 : (x / y + 1) * y * v ≤ u / v * y * v := Nat.mul_le_mul_right _ (Nat.mul_le_mul_right _ h)
  have h4 : x * v < (x / y + 1) * y * v := Nat.mul_lt_mul_of_pos_right h1 hv
  have h5 : u / v * y * v = u / v * v * y := Nat.mul_right_comm _ _ _
  have h6 : u / v * v * y ≤ u * y := Nat.mul_le_mul_right _ h2
  unfold cmpN
  rw [if_pos (by omega)]
theorem cmpN_neg (x y u v : Nat) : cmpN u v x y = -cmpN x y u v := by
  unfold cmpN
  by_cases h : x * v < u * y
  · rw [if_neg (by omega), if_pos h, if_pos h]; rfl
  · rw [if_neg h]
    by_cases g : u * y < x * v
    · rw [if_pos g, if_neg h, if_pos g]
    · rw [if_neg g, if_neg h, if_neg g]; rfl
theorem cmpN_quo' {x y u v : Nat} (hy : 0 < y) (hv : 0 < v) (h : u / v < x / y) : cmpN x y u v = 1 := by
  rw [cmpN_neg u v x y, cmpN_quo hv hy h]; rfl
theorem cmpN_mod {x y u v : Nat} (h : x / y = u / v) : cmpN x y u v = cmpN (x % y) y (u % v) v := by
  have e1 : x * v = x / y * y * v + x % y * v := by
    rw [← Nat.add_mul, Nat.mul_comm (x / y) y, Nat.div_add_mod]
  have e2 : u * y = x / y * y * v + u % v * y := by
    rw [h, Nat.mul_right_comm, ← Nat.add_mul, Nat.mul_comm (u / v) v, Nat.div_add_mod]
  unfold cmpN
  rw [e1, e2]
  generalize x / y * y * v = c
  generalize x % y * v = a
  generalize u % v * y = b
  by_cases h1 : a < b
  · rw [if_pos (by omega), if_pos h1]
  · rw [if_neg (by omega), if_neg h1]
    by_cases h2 : b < a
    · rw [if_pos (by omega), if_pos h2]
    · rw [if_neg (by omega), if_neg h2]
/-- of what is left the turned ones compare the other way round -/
theorem cmpN_turn (r y s v : Nat) : cmpN y r v s = -cmpN r y s v := by
  unfold cmpN
  rw [Nat.mul_comm v r, Nat.mul_comm y s]
  by_cases h : r * v < s * y
  · rw [if_neg (by omega), if_pos h, if_pos h]; rfl
  · rw [if_neg h]
    by_cases g : s * y < r * v
    · rw [if_pos g, if_neg h, if_pos g]
    · rw [if_neg g, if_neg h, if_neg g]; rfl
theorem cmpN_00 (y v : Nat) : cmpN 0 y 0 v = 0 := by unfold cmpN; simp
theorem cmpN_0 {y s v : Nat} (hy : 0 < y) (hs : 0 < s) : cmpN 0 y s v = -1 := by
  unfold cmpN
  rw [if_pos (by rw [Nat.zero_mul]; exact Nat.mul_pos hs hy)]
theorem cmpN_s0 {r y v : Nat} (hv : 0 < v) (hr : 0 < r) : cmpN r y 0 v = 1 := by
  unfold cmpN
  rw [if_neg (by rw [Nat.zero_mul]; exact Nat.not_lt_zero _), if_pos (by rw [Nat.zero_mul]; exact Nat.mul_pos hr hv)]
/-- a sum; what is wrong -/
def total : List Int → Int → Int × Int
  | [], s => (s, 0)
  | z :: l, s => if Good z then (if Good (s + z) then total l (s + z) else (0, 9)) else (0, 9)
def needs (w per : Int) : Prop := 1 ≤ w ∧ w ≤ 1048576 ∧ 0 ≤ per ∧ per ≤ 1048576
instance (w per : Int) : Decidable (needs w per) := inferInstanceAs (Decidable (_ ∧ _))
/-- the fee that a weight needs -/
def need (w per : Int) : Int := (w * per + 999) / 1000
end Go.Proofs.YtcedecljbgailaaDoor.Am

/-! the reference: Good, Right, Need, Pays, With -/
namespace Go.Proofs.YtcedecljbgailaaDoor
open Go Go.RowKit Go.ChangeShapes Go.WideShapes
theorem dec_iff (p : Prop) [Decidable p] : decide p = true ↔ p := decide_eq_true_iff
/-- does a fee-rate pay? -/
def Am.Pays (f v per least : Int) : Prop := Am.needs v per ∧ Am.Right f v ∧ Am.need v per ≤ f ∧ least ≤ f
instance (f v per least : Int) : Decidable (Am.Pays f v per least) := inferInstanceAs (Decidable (_ ∧ _))
end Go.Proofs.YtcedecljbgailaaDoor

/-! the reference: With, Total, Compare -/
namespace Go.Proofs.YtcedecljbgailaaDoor
open Go Go.RowKit Go.ChangeShapes Go.WideShapes
/-- two fee-rates put together -/
def Am.Fits (f v g u : Int) : Prop := Am.Right f v ∧ Am.Right g u ∧ Am.Right (f + g) (v + u)
instance (f v g u : Int) : Decidable (Am.Fits f v g u) := inferInstanceAs (Decidable (_ ∧ _))
theorem Am.wraps {f v g u : Int} (h1 : Am.Right f v) (h2 : Am.Right g u) : IntKind.i64.wrap (f + g) = f + g ∧ IntKind.i64.wrap (v + u) = v + u := by
  obtain ⟨⟨a1, a2⟩, a3, a4⟩ := h1
  obtain ⟨⟨b1, b2⟩, b3, b4⟩ := h2
  exact ⟨IntWalk.i64_in _ (by omega), IntWalk.i64_in _ (by omega)⟩
theorem Am.tdiv_nat (x y : Nat) : (x : Int).tdiv (y : Int) = ((x / y : Nat) : Int) := rfl
theorem Am.tmod_nat (x y : Nat) : (x : Int).tmod (y : Int) = ((x % y : Nat) : Int) := rfl
end Go.Proofs.YtcedecljbgailaaDoor

/-! what package amount answers, as a premise; the example; AmountTotals over it -/
namespace Go.Proofs.YtcedecljbgailaaDoor
open Go Go.RowKit Go.ChangeShapes Go.WideShapes
def Am.Fees (a b : Int) : Prop := Am.Good a ∧ Am.Good b ∧ b ≤ a
instance (a b : Int) : Decidable (Am.Fees a b) := inferInstanceAs (Decidable (_ ∧ _))
theorem ex_good (z : Int) : ∃ b : Bool, b = true ↔ Am.Good z := ⟨decide (Am.Good z), decide_eq_true_iff⟩
end Go.Proofs.YtcedecljbgailaaDoor

/-! package amount: Good, Fee, Need, Pays, Total, as the premise asks (mkamc.py) -/
namespace Go.Proofs.YtcedecljbgailaaDoor
open Go Go.RowKit Go.ChangeShapes Go.WideShapes
end Go.Proofs.YtcedecljbgailaaDoor
