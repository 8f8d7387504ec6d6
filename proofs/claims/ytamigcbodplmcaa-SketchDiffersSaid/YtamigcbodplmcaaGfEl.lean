/- The reference's elimination as a function; what it leaves is linear in c. -/
import Derived.Test.YtamigcbodplmcaaGz
namespace Go.Proofs.Ytamigcbodplmcaa.Gf

/-- the last row from u on, below i, whose bit b is set; -1: none -/
def lastRow (r : Nat → BitVec 64) (b u : Nat) : Nat → Int
  | 0 => -1
  | i + 1 => if u ≤ i ∧ (r i).getLsbD b = true then (i : Int) else lastRow r b u i
def swapRow (r : Nat → BitVec 64) (u k j : Nat) : BitVec 64 := if j = u then r k else if j = k then r u else r j
/-- row u added to the rows below i that have bit b, but to itself -/
def clearRow (r : Nat → BitVec 64) (u b i j : Nat) : BitVec 64 := if j < i ∧ j ≠ u ∧ (r j).getLsbD b = true then r j ^^^ r u else r j
def startRow (j : Nat) : BitVec 64 := ((mul (1#32 <<< j) (1#32 <<< j) ^^^ 1#32 <<< j).setWidth 64) ||| (4294967296#64 * (1#64 <<< j))
/-- the rows and the number of used ones behind b bits -/
def elimAt : Nat → List (BitVec 64) × Nat
  | 0 => ((List.range 32).map startRow, 0)
  | b + 1 =>
    let s := elimAt b
    let r := fun j => s.1.getD j 0
    if lastRow r b s.2 32 < 0 then s
    else ((List.range 32).map (clearRow (swapRow r s.2 (lastRow r b s.2 32).toNat) s.2 b 32), s.2 + 1)
def rowAt (b j : Nat) : BitVec 64 := (elimAt b).1.getD j 0
def usedAt (b : Nat) : Nat := (elimAt b).2
def pivotAt (b : Nat) : BitVec 64 := if lastRow (rowAt b) b (usedAt b) 32 < 0 then 0 else rowAt (b + 1) (usedAt b)
def pivots : List (BitVec 64) := [0x80000000c0001037, 0x200000001400011a, 0x200000021400011c, 0x4000000090000468, 0x40000000408d0, 0x4000000890000420, 0x2000000e14000140, 0x2004001e14040880, 0x2000004e14001100, 0x2008000e14082200, 0x20000000223400, 0x2030004e1432a800, 0x2000014e14011000, 0x2020054e14332000, 0x80000000a34000, 0x20c0014e14ea8000, 0x2000114e15010000, 0xc0d5001650fe0000, 0x200000000340000, 0x602a100285280000, 0x40000000cd00000, 0xc2051d1651600000, 0xe0fd161845c00000, 0xc0ed8a5610800000, 0xa26fdd1485000000, 0x28109c4e7e000000, 0x4fc43901c000000, 0x673a9d02c8000000, 0x4000002890000000, 0, 0x9555403e40000000, 0x377627ba80000000]
theorem pivots_right : ∀ b, b < 32 → pivotAt b = pivots.getD b 0 ∧ usedAt b ≤ b ∧ (b < 29 ∨ 29 < b → (0 : Int) ≤ lastRow (rowAt b) b (usedAt b) 32) := by decide +kernel
/-- what is left of c behind b bits -/
def left (c : BitVec 32) : Nat → BitVec 64
  | 0 => c.setWidth 64
  | b + 1 => if (left c b).getLsbD b then left c b ^^^ pivots.getD b 0 else left c b
theorem lin_left : ∀ b, Lin (fun c => left c b)
  | 0 => lin_setWidth 64
  | b + 1 => fun x y => by
    show left (x ^^^ y) (b + 1) = left x (b + 1) ^^^ left y (b + 1)
    unfold left
    rw [show left (x ^^^ y) b = left x b ^^^ left y b from lin_left b x y, BitVec.getLsbD_xor]
    generalize pivots.getD b 0 = c
    have e : ∀ a b c : BitVec 64, a ^^^ c ^^^ (b ^^^ c) = a ^^^ b ^^^ (c ^^^ c) := fun a b c => by ac_rfl
    cases (left x b).getLsbD b <;> cases (left y b).getLsbD b <;> simp
    · ac_rfl
    · ac_rfl
    · rw [e, BitVec.xor_self, BitVec.xor_zero]
theorem lin_low : Lin (fun c => (left c 32).setWidth 32) := (lin_setWidth 32).comp (lin_left 32)
theorem lin_high : Lin (fun c => (left c 32 >>> 32).setWidth 32 &&& 0xfffffffe#32) := (lin_and _).comp ((lin_setWidth 32).comp ((lin_shr 32).comp (lin_left 32)))
theorem left_low (c : BitVec 32) : (left c 32).setWidth 32 = mul (trace c 32) ((left traced 32).setWidth 32) :=
  lin_ext (f := fun c => (left c 32).setWidth 32) (g := fun c => mul (trace c 32) ((left traced 32).setWidth 32)) lin_low ((lin_mul_left _).comp (lin_trace 32)) (by decide +kernel) c
theorem left_traced : (left traced 32).setWidth 32 ≠ (0 : BitVec 32) := by decide +kernel
theorem left_high (c : BitVec 32) : (left c 32 >>> 32).setWidth 32 &&& 0xfffffffe#32 = (half c 32 &&& 0xfffffffe#32) ^^^ mul (trace c 32) (((left traced 32 >>> 32).setWidth 32 &&& 0xfffffffe#32) ^^^ (half traced 32 &&& 0xfffffffe#32)) :=
  lin_ext (f := fun c => (left c 32 >>> 32).setWidth 32 &&& 0xfffffffe#32) (g := fun c => (half c 32 &&& 0xfffffffe#32) ^^^ mul (trace c 32) (((left traced 32 >>> 32).setWidth 32 &&& 0xfffffffe#32) ^^^ (half traced 32 &&& 0xfffffffe#32)))
    lin_high (((lin_and _).comp (lin_half 32)).add ((lin_mul_left _).comp (lin_trace 32))) (by decide +kernel) c
/-- is there a solution? -/
theorem left_zero (c : BitVec 32) : (left c 32).setWidth 32 = (0 : BitVec 32) ↔ trace c 32 = 0 := by
  rw [left_low]
  constructor
  · intro h
    rcases no_divisors h with h | h
    · exact h
    · exact absurd h left_traced
  · intro h
    rw [h, zero_mul]
theorem left_solves {c : BitVec 32} (h : trace c 32 = 0) : (left c 32 >>> 32).setWidth 32 &&& 0xfffffffe#32 = half c 32 &&& 0xfffffffe#32 := by
  rw [left_high, h, zero_mul]
  exact BitVec.xor_zero
end Go.Proofs.Ytamigcbodplmcaa.Gf
