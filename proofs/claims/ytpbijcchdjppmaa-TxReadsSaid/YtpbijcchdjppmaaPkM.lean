/- integers, counts, texts as bytes. Nothing of the program. -/
import Derived.Test.YtpbijcchdjppmaaBb
import Derived.Test.YtpbijcchdjppmaaV
namespace Go.Proofs.Ytpbijcchdjppmaa.Pk
open Go.Proofs.Ytpbijcchdjppmaa
/-- the low k bytes of a number, low byte first -/
def le (x : BitVec 64) (k : Nat) : List (BitVec 8) := (List.range k).map fun i => (x >>> (8 * i)).setWidth 8
theorem le_len (x : BitVec 64) (k : Nat) : (le x k).length = k := by simp [le]
theorem le_snoc (x : BitVec 64) (k : Nat) : le x (k + 1) = le x k ++ [(x >>> (8 * k)).setWidth 8] := by unfold le; rw [List.range_succ, List.map_append]; rfl
theorem quo_shr (x : BitVec 64) (k : Nat) : (x >>> (8 * k)) / 256#64 = x >>> (8 * (k + 1)) := by
  apply BitVec.eq_of_toNat_eq
  simp only [BitVec.toNat_udiv, BitVec.toNat_ushiftRight, BitVec.toNat_ofNat, Nat.shiftRight_eq_div_pow]
  rw [Nat.div_div_eq_div_mul, show 8 * (k + 1) = 8 * k + 8 by omega, Nat.pow_add]
theorem rem_low (y : BitVec 64) : (y % 256#64).setWidth 8 = y.setWidth 8 := by
  apply BitVec.eq_of_toNat_eq
  rw [BitVec.toNat_setWidth, BitVec.toNat_setWidth, BitVec.toNat_umod, show (256#64).toNat = 256 from rfl]
  omega
/-- a size that there is -/
def okSize (z : Int) : Prop := z = 1 ∨ z = 2 ∨ z = 4 ∨ z = 8
instance (z : Int) : Decidable (okSize z) := by unfold okSize; infer_instance
def num (x : BitVec 64) (z : Int) : List (BitVec 8) := if okSize z then le x z.toNat else []
def count (n : Int) : List (BitVec 8) :=
  if n < 0 then [] else if n ≤ 252 then le (BitVec.ofInt 64 n) 1 else if n ≤ 65535 then [253#8] ++ le (BitVec.ofInt 64 n) 2 else if n ≤ 4294967295 then [254#8] ++ le (BitVec.ofInt 64 n) 4 else [255#8] ++ le (BitVec.ofInt 64 n) 8
def text (s : List (BitVec 8)) : List (BitVec 8) := count s.length ++ s
theorem count_le (n : Int) : (count n).length ≤ 9 := by
  unfold count
  split
  · simp
  · split
    · rw [le_len]; omega
    · split
      · simp [le_len]
      · split <;> simp [le_len]
end Go.Proofs.Ytpbijcchdjppmaa.Pk
