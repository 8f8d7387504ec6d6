/- what package coins answers, as a premise -/
import Derived.Test.YtagjolbpmhbifaaGreatDoorCsC
import Derived.Test.YtagjolbpmhbifaaGreatDoorCsA
import Derived.Test.YtagjolbpmhbifaaGreatDoorCsw
import Derived.Test.YtagjolbpmhbifaaGreatDoorLkz
import Derived.Test.YtagjolbpmhbifaaGreatDoorLz
namespace Go.Proofs.YtagjolbpmhbifaaGreatDoor
open Go Go.RowKit Go.ChangeShapes Go.WideShapes
/-- an Undo: a transaction, the coins that it spent, in memory of their own, made since B -/
structure UndoAt (B : Nat) (w : World) (F : Fp) (ua : Option Addr) (un uq : Nat) (ub : Option Addr) (um ur : Nat) (uc : Option Addr) (uk ul : Nat) (t : Tx.T) (sp : List Tx.Co) : Prop where
  tx : TxOwn B w ua un uq ub um ur t
  co : OwnR coRec 35 B w (.slice uc uk ul) sp
  o1 : ∀ j, (Value.slice ua un uq).ownBlock = some j → ¬ F j
  o2 : ∀ j, (Value.slice ub um ur).ownBlock = some j → ¬ F j
  o3 : ∀ j, (Value.slice uc uk ul).ownBlock = some j → ¬ F j
structure CoinsOk (S : World → Value → Fp → Cs.Mp → Prop) : Prop where
  moved : ∀ {G : Fp} {w w' : World} {v : Value} {F : Fp} {M : Cs.Mp}, S w v F M → Moved G w w' → (∀ j, F j → ¬ G j) → S w' v F M
  lt : ∀ {w : World} {v : Value} {F : Fp} {M : Cs.Mp}, S w v F M → ∀ j, F j → j < w.heap.size
  keys : ∀ {w : World} {v : Value} {F : Fp} {M : Cs.Mp}, S w v F M → Cs.Keys M ∧ ∀ x, x ∈ M → Cs.ptOk x.1 ∧ Tx.CoOk x.2 ∧ Am.Good x.2.v
  new : ∀ (w : World), Calls Tryz.prog 8 #[] w fun e w' => ∃ (v : Value) (F : Fp), e = .returned v ∧ S w' v F [] ∧ (∀ j, F j → w.heap.size ≤ j) ∧ Below w.heap.size w w'
  put : ∀ {w : World} {v : Value} {F : Fp} {M : Cs.Mp} (_ : S w v F M) (p : Cs.Pt) (_ : Cs.ptOk p) (c : Tx.Co) (_ : Tx.CoOk c), Calls Tryz.prog 9 #[v, Cs.ptV p, Cs.coV c] w fun e w' =>
    ∃ (F' : Fp) (M' : Cs.Mp), e = .returned (errn (Cs.putE M p c)) ∧ S w' v F' M' ∧ (∀ q, Cs.look M' q = if Cs.putE M p c = 0 ∧ q = p then some c else Cs.look M q) ∧ Cs.Grown w F F' ∧ Moved F w w' ∧ M'.length ≤ M.length + 1
  len : ∀ {w : World} {v : Value} {F : Fp} {M : Cs.Mp} (_ : S w v F M), Calls Tryz.prog 23 #[v] w fun e w' => e = .returned (.int .i64 M.length) ∧ Below w.heap.size w w'
  worth : ∀ {w : World} {v : Value} {F : Fp} {M : Cs.Mp} (_ : S w v F M) (_ : M.length ≤ 1000000000), Calls Tryz.prog 10 #[v] w fun e w' => e = .returned (.tuple #[.int .i64 (Cs.worthT M).1, errn (Cs.worthT M).2]) ∧ Below w.heap.size w w'
  fee : ∀ {w : World} {v : Value} {F : Fp} {M : Cs.Mp} (_ : S w v F M) (a : Option Addr) (n q : Nat) (b : Option Addr) (m r : Nat) (t : Tx.T) (_ : TxAt w a n q b m r t) (_ : Tx.Small t) (_ : KDg w), Calls Tryz.prog 12 #[v, txv a n q b m r t.firm] w fun e w' =>
    e = .returned (.tuple #[.int .i64 (Cs.feeV M t), errn (Cs.feeE M t)]) ∧ Below w.heap.size w w'
  do_ : ∀ {w : World} {v : Value} {F : Fp} {M : Cs.Mp} (_ : S w v F M) (a : Option Addr) (n q : Nat) (b : Option Addr) (m r : Nat) (t : Tx.T) (_ : TxAt w a n q b m r t) (_ : Tx.Small t) (_ : KDg w), Calls Tryz.prog 13 #[v, txv a n q b m r t.firm] w fun e w' =>
    ∃ (F' : Fp) (M' : Cs.Mp) (ua : Option Addr) (un uq : Nat) (ub : Option Addr) (um ur : Nat) (uc : Option Addr) (uk ul : Nat) (u : Tx.T) (sp : List Tx.Co), e = .returned (.tuple #[.agg #[.slice ua un uq, .slice ub um ur, .bool u.firm, .slice uc uk ul], errn (Cs.doE M (Tx.idOf false t) t)]) ∧ S w' v F' M' ∧ UndoAt w.heap.size w' F' ua un uq ub um ur uc uk ul u sp ∧
      (Cs.doE M (Tx.idOf false t) t = 0 → Cs.IsDo M M' (Tx.idOf false t) t ∧ u = t ∧ sp = Cs.spentOf M t) ∧ (¬ Cs.doE M (Tx.idOf false t) t = 0 → ∀ q, Cs.look M' q = Cs.look M q) ∧ Cs.Grown w F F' ∧ Moved F w w' ∧ M'.length ≤ M.length + t.co.length
/-- the rest of the package -/
structure CoinsOk2 (S : World → Value → Fp → Cs.Mp → Prop) : Prop extends CoinsOk S where
  get : ∀ {w : World} {v : Value} {F : Fp} {M : Cs.Mp} (_ : S w v F M) (p : Cs.Pt) (_ : Cs.ptOk p), Calls Tryz.prog 16 #[v, Cs.ptV p] w fun e w' => e = .returned (.tuple #[Cs.coV ((Cs.look M p).getD ⟨0, 0#64⟩), .bool (Cs.look M p).isSome]) ∧ Below w.heap.size w w'
  points : ∀ {w : World} {v : Value} {F : Fp} {M : Cs.Mp} (_ : S w v F M) (_ : M.length ≤ 1000000000), Calls Tryz.prog 15 #[v] w fun e w' => ∃ (a : Option Addr) (n q : Nat) (L : List Cs.Pt), e = .returned (.slice a n q) ∧ Recs ptRec w' a n L ∧ (n ≤ q ∧ (a = none → q = 0)) ∧ L.Pairwise Cs.Ahead ∧ L.Perm (M.map (·.1)) ∧ Below w.heap.size w w'
  back : ∀ {w : World} {v : Value} {F : Fp} {M : Cs.Mp} (_ : S w v F M) (a : Option Addr) (n q : Nat) (b : Option Addr) (m r : Nat) (t : Tx.T) (c : Option Addr) (k l : Nat) (sp : List Tx.Co) (_ : TxAt w a n q b m r t) (_ : Tx.Small t) (_ : Recs coRec w c k sp) (_ : k ≤ l ∧ (c = none → l = 0)) (_ : ∀ x, x ∈ sp → Am.Good x.v) (_ : KDg w),
    Calls Tryz.prog 14 #[v, .agg #[.slice a n q, .slice b m r, .bool t.firm, .slice c k l]] w fun e w' => ∃ (F' : Fp) (M' : Cs.Mp), e = .returned (errn (Cs.backE M (Tx.idOf false t) t sp)) ∧ S w' v F' M' ∧
      (Cs.backE M (Tx.idOf false t) t sp = 0 → Cs.IsBack M M' (Tx.idOf false t) t sp) ∧ (¬ Cs.backE M (Tx.idOf false t) t sp = 0 → ∀ q, Cs.look M' q = Cs.look M q) ∧ Cs.Grown w F F' ∧ Moved F w w' ∧ M'.length ≤ M.length + t.sp.length
  copy : ∀ {w : World} {v : Value} {F : Fp} {M : Cs.Mp} (_ : S w v F M), Calls Tryz.prog 11 #[v] w fun e w' => ∃ (v' : Value) (F' : Fp) (M' : Cs.Mp), e = .returned v' ∧ S w' v' F' M' ∧ (∀ q, Cs.look M' q = Cs.look M q) ∧ (∀ j, F' j → w.heap.size ≤ j) ∧ Below w.heap.size w w' ∧ M'.length = M.length
section
variable {S : World → Value → Fp → Cs.Mp → Prop} (ok : CoinsOk S) {w w' : World} {v : Value} {F : Fp} {M : Cs.Mp}
include ok
theorem CoinsOk.below (h : S w v F M) (hb : Below w.heap.size w w') : S w' v F M := ok.moved (G := fun _ => False) h (Moved.of_below hb) (fun _ _ e => e)
end
end Go.Proofs.YtagjolbpmhbifaaGreatDoor
