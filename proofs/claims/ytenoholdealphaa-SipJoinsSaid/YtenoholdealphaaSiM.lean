/- SipHash-2-4, as a function of lists of bytes. Nothing of the program. -/
import Derived.Test.YtenoholdealphaaBb
namespace Go.Proofs.Ytenoholdealphaa.Si
open Go.Proofs.Ytenoholdealphaa
/-- the four words -/
structure St where
  a : BitVec 64
  b : BitVec 64
  c : BitVec 64
  d : BitVec 64
def turn (x : BitVec 64) (n : Nat) : BitVec 64 := x <<< n ||| x >>> (64 - n)
def half1 (v : St) : St :=
  ⟨turn (v.a + v.b) 32, turn v.b 13 ^^^ (v.a + v.b), v.c + v.d, turn v.d 16 ^^^ (v.c + v.d)⟩
def half2 (v : St) : St :=
  ⟨v.a + v.d, turn v.b 17 ^^^ (v.c + v.b), turn (v.c + v.b) 32, turn v.d 21 ^^^ (v.a + v.d)⟩
def round (v : St) : St := half2 (half1 v)
def rounds : Nat → St → St
  | 0, v => v
  | n + 1, v => round (rounds n v)
/-- the first k bytes, from above, of the eight at p -/
def wdn (l : List (BitVec 8)) (p : Nat) : Nat → BitVec 64
  | 0 => 0
  | k + 1 => wdn l p k * 256#64 + (cb l (p + (7 - k))).setWidth 64
def word (l : List (BitVec 8)) (p : Nat) : BitVec 64 := wdn l p 8
/-- the word at p, the length in the last one -/
def msg (l : List (BitVec 8)) (p : Nat) : BitVec 64 := if l.length < p + 8 then word l p + BitVec.ofNat 64 (l.length % 256) * 72057594037927936#64 else word l p
def feed (v : St) (m : BitVec 64) : St :=
  let u := rounds 2 { v with d := v.d ^^^ m }
  { u with a := u.a ^^^ m }
def feeds (l : List (BitVec 8)) (v : St) : Nat → St
  | 0 => v
  | k + 1 => feed (feeds l v k) (msg l (8 * k))
def init (k0 k1 : BitVec 64) : St := ⟨k0 ^^^ 8317987319222330741#64, k1 ^^^ 7237128888997146477#64, k0 ^^^ 7816392313619706465#64, k1 ^^^ 8387220255154660723#64⟩
def close (v : St) : BitVec 64 :=
  let u := rounds 4 { v with c := v.c ^^^ 255#64 }
  u.a ^^^ u.b ^^^ u.c ^^^ u.d
def hash (k0 k1 : BitVec 64) (l : List (BitVec 8)) : BitVec 64 := close (feeds l (init k0 k1) (l.length / 8 + 1))
/-- as an array of four cells -/
def St.cells (v : St) : List Value := [.int .u64 (nb64 v.a), .int .u64 (nb64 v.b), .int .u64 (nb64 v.c), .int .u64 (nb64 v.d)]
def short (k0 k1 : BitVec 64) (l : List (BitVec 8)) : BitVec 32 := (hash k0 k1 l % 4294967295#64 + 1#64).setWidth 32
theorem cb_out {l : List (BitVec 8)} {i : Nat} (h : l.length ≤ i) : cb l i = 0 := by
  unfold cb
  rw [List.getD_eq_getElem?_getD, List.getElem?_eq_none h]
  rfl
end Go.Proofs.Ytenoholdealphaa.Si
