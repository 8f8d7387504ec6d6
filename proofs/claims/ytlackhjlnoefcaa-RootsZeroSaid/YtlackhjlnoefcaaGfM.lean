/- The field's functions as functions of bit vectors. Nothing of the program. -/
namespace Go.Proofs.Ytlackhjlnoefcaa.Gf

/-- one fold of the modulus -/
def fold (p : BitVec 64) : BitVec 64 :=
  (p &&& 4294967295#64) ^^^ (p >>> 32) ^^^ (p >>> 32 <<< 2) ^^^ (p >>> 32 <<< 3) ^^^ (p >>> 32 <<< 7)
def reduce (p : BitVec 64) : BitVec 32 := (fold (fold p)).setWidth 32
def double (a : BitVec 32) : BitVec 32 := reduce (a.setWidth 64 <<< 1)
def mask (b : BitVec 32) (k : Nat) : BitVec 32 := -(b >>> k &&& 1#32)
/-- the product without the modulus, its first k rounds -/
def clm (a b : BitVec 32) : Nat → BitVec 64
  | 0 => 0
  | k + 1 => clm a b k ^^^ (((a &&& mask b k).setWidth 64) <<< k)
def mul (a b : BitVec 32) : BitVec 32 := reduce (clm a b 32)

def spread (a : BitVec 32) : BitVec 64 :=
  let p0 := a.setWidth 64
  let p1 := (p0 ||| p0 <<< 16) &&& 0x0000ffff0000ffff#64
  let p2 := (p1 ||| p1 <<< 8) &&& 0x00ff00ff00ff00ff#64
  let p3 := (p2 ||| p2 <<< 4) &&& 0x0f0f0f0f0f0f0f0f#64
  let p4 := (p3 ||| p3 <<< 2) &&& 0x3333333333333333#64
  (p4 ||| p4 <<< 1) &&& 0x5555555555555555#64
def square (a : BitVec 32) : BitVec 32 := reduce (spread a)
/-- the square, k times -/
def squares (a : BitVec 32) : Nat → BitVec 32
  | 0 => a
  | k + 1 => square (squares a k)
end Go.Proofs.Ytlackhjlnoefcaa.Gf
