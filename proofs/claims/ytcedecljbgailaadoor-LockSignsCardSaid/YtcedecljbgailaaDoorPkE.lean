/- reading integers, counts, texts, digests off bytes: as the reference does it. Nothing of the program. -/
import Derived.Test.YtcedecljbgailaaDoorPkr
namespace Go.Proofs.YtcedecljbgailaaDoor.Pk
open Go.Proofs.YtcedecljbgailaaDoor
/-- the number of r bytes from i on, low byte first -/
def leV (B : List (BitVec 8)) (i : Nat) : Nat → BitVec 64
  | 0 => 0
  | r + 1 => 256#64 * leV B (i + 1) r + (cb B i).setWidth 64
/-- a reader: what is left; none: it is wrong -/
abbrev Rd := Option (List (BitVec 8))
def left (s : Rd) : List (BitVec 8) := s.getD []
def rdNum (s : Rd) (z : Int) : Rd × BitVec 64 :=
  match s with
  | none => (none, 0)
  | some B => if okSize z ∧ z ≤ B.length then (some (B.drop z.toNat), leV B 0 z.toNat) else (none, 0)
def rdSize (n : BitVec 64) : Int := if n = 254#64 then 4 else if n = 255#64 then 8 else 2
/-- behind the first byte -/
def rdMore (p : Rd × BitVec 64) : Rd × BitVec 64 := if 253 ≤ p.2.toNat then rdNum p.1 (rdSize p.2) else p
def rdCount (s : Rd) (most : Int) : Rd × Int :=
  let p := rdMore (rdNum s 1)
  match p.1 with
  | none => (none, 0)
  | some B => if 0 ≤ most ∧ (p.2.toNat : Int) ≤ most ∧ (count p.2.toNat).length + B.length = (left s).length then (some B, (p.2.toNat : Int)) else (none, 0)
def rdText (s : Rd) (most : Int) : Rd × List (BitVec 8) :=
  match (rdCount s most).1 with
  | none => (none, [])
  | some B => if (rdCount s most).2 ≤ B.length then (some (B.drop (rdCount s most).2.toNat), B.take (rdCount s most).2.toNat) else (none, [])
def rdHash (s : Rd) : Rd × List (BitVec 8) :=
  match s with
  | none => (none, List.replicate 32 0#8)
  | some B => if 32 ≤ B.length then (some (B.drop 32), B.take 32) else (none, List.replicate 32 0#8)
def atEnd (s : Rd) : Bool := match s with
  | some [] => true
  | _ => false
end Go.Proofs.YtcedecljbgailaaDoor.Pk
