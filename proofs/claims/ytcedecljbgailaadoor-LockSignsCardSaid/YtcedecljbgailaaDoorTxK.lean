/- what package tx answers, as a premise; the chapter's example -/
import Derived.Test.YtcedecljbgailaaDoorTxR
import Derived.Test.YtcedecljbgailaaDoorLz
import Derived.Test.YtcedecljbgailaaDoorPkr
namespace Go.Proofs.YtcedecljbgailaaDoor
open Go Go.RowKit Go.ChangeShapes Go.WideShapes
namespace Tx
/-- a spend's bytes, a coin's, a transaction's -/
def encSp (all : Bool) (s : Sp) : List (BitVec 8) := s.h ++ Pk.le (BitVec.ofInt 64 s.n) 4 ++ (if all = true then Pk.text s.key ++ Pk.le s.sl 8 else [])
def encCo (c : Co) : List (BitVec 8) := Pk.le (BitVec.ofInt 64 c.v) 8 ++ Pk.le c.lock 8
def enc (all : Bool) (t : T) : List (BitVec 8) := Pk.count t.sp.length ++ t.sp.flatMap (encSp all) ++ Pk.count t.co.length ++ t.co.flatMap encCo ++ [if t.firm = true then 1#8 else 0#8]
def weight (t : T) : Int := 3 * ((enc false t).length : Int) + ((enc true t).length : Int)
/-- the chapter's example -/
def t0 : T := ⟨[⟨List.replicate 32 0#8, 0, [], 0#64⟩], [⟨0, 0#64⟩], false⟩
theorem t0_base : (enc false t0).length = 55 := by decide +kernel
theorem t0_weight : weight t0 = 229 := by decide +kernel
theorem t0_check : check t0 = 0 := by decide +kernel
theorem t0_small : Small t0 := ⟨by decide, by decide, fun s hs => by
  have : s = ⟨List.replicate 32 0#8, 0, [], 0#64⟩ := by simpa [t0] using hs
  subst this
  decide⟩
end Tx
/-- bytes that a call answers -/
def BytesOut (l : List (BitVec 8)) (w0 : World) (e : Ending) (w' : World) : Prop :=
  ∃ (x : Option Addr) (k c : Nat), e = .returned (.slice x k c) ∧ Bytes8 w' x k l ∧ k ≤ c ∧ (x = none → c = 0) ∧ Below w0.heap.size w0 w'
end Go.Proofs.YtcedecljbgailaaDoor
