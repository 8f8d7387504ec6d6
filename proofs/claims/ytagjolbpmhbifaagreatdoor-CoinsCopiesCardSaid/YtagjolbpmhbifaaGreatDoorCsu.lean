/- Sets that agree have the same points in order; a run of transactions applied, taken back in the other order (pure) · Undos in a slice of one's own; what CoinsBack's second loop keeps -/
import Derived.Test.YtagjolbpmhbifaaGreatDoorCsO
import Derived.Test.YtagjolbpmhbifaaGreatDoorLz
/-! Sets that agree have the same points in order; a run of transactions applied, taken back in the other order (pure) -/
namespace Go.Proofs.YtagjolbpmhbifaaGreatDoor
open Go Go.RowKit
namespace Cs
theorem Ahead.not {p q : Pt} (h : Ahead p q) (h2 : Ahead q p) : False := by
  have hs := Dg.cmp_swap p.1 q.1
  have h0 := Dg.cmp_swap p.1 p.1
  rcases h with h | ⟨e, h⟩
  · rcases h2 with h2 | ⟨e2, h2⟩
    · omega
    · rw [e2] at h
      omega
  · rcases h2 with h2 | ⟨_, h2⟩
    · rw [← e] at h2
      omega
    · omega
/-- sets that answer alike have the same points, in the same order -/
theorem points_same {M N : Mp} {L K : List Pt} (hM : Keys M) (hN : Keys N) (h : ∀ q, look M q = look N q) (hL : L.Pairwise Ahead) (hK : K.Pairwise Ahead) (pL : L.Perm (M.map (·.1))) (pK : K.Perm (N.map (·.1))) : L = K := by
  have hp : L.Perm K := (pL.trans ((perm_of_look hM hN h).map _)).trans pK.symm
  exact hp.eq_of_pairwise (fun a b _ _ h1 h2 => (h1.not h2).elim) hL hK
/-- which transactions were applied (the last one first), and what each spent -/
def Chain (M0 : Mp) : List (Tx.T × List Tx.Co) → Mp → Prop
  | [], M => ∀ q, look M q = look M0 q
  | x :: us, M => ∃ N, Chain M0 us N ∧ doE N (Tx.idOf false x.1) x.1 = 0 ∧ IsDo N M (Tx.idOf false x.1) x.1 ∧ x.2 = spentOf N x.1
theorem chain_same {M0 : Mp} : ∀ {us : List (Tx.T × List Tx.Co)} {M N : Mp}, Chain M0 us M → (∀ q, look N q = look M q) → Chain M0 us N
  | [], _, _, h, e => fun q => (e q).trans (h q)
  | _ :: _, _, _, ⟨K, h1, h2, h3, h4⟩, e => ⟨K, h1, h2, fun q => (e q).trans (h3 q), h4⟩
theorem chain_do {M0 M N : Mp} {us : List (Tx.T × List Tx.Co)} (h : Chain M0 us M) {t : Tx.T} (h0 : doE M (Tx.idOf false t) t = 0) (hd : IsDo M N (Tx.idOf false t) t) : Chain M0 ((t, spentOf M t) :: us) N := ⟨M, h, h0, hd, rfl⟩
theorem chain_may {M0 M : Mp} {us : List (Tx.T × List Tx.Co)} {x : Tx.T × List Tx.Co} (h : Chain M0 (x :: us) M) : backE M (Tx.idOf false x.1) x.1 x.2 = 0 := by
  obtain ⟨N, _, h2, h3, h4⟩ := h
  rw [h4]
  exact back_ok h2 h3
theorem chain_back {M0 M L : Mp} {us : List (Tx.T × List Tx.Co)} {x : Tx.T × List Tx.Co} (h : Chain M0 (x :: us) M) (hb : IsBack M L (Tx.idOf false x.1) x.1 x.2) : Chain M0 us L := by
  obtain ⟨N, h1, h2, h3, h4⟩ := h
  rw [h4] at hb
  exact chain_same h1 (back_same h2 h3 (fun _ => rfl) hb)
/-- a second one fails, whatever was said of the set since -/
theorem twice_no {M N : Mp} {t : Tx.T} (h : doE M (Tx.idOf false t) t = 0) (hd : IsDo M N (Tx.idOf false t) t) : ¬ doE N (Tx.idOf false t) t = 0 := do_twice h hd
/-- the worth while fees are taken -/
theorem worthT_ok {M : Mp} (h : (worthT M).2 = 0) : (worthT M).1 = worth M ∧ Am.Good (worth M) := by
  unfold worthT at h ⊢
  by_cases hg : Am.Good (worth M)
  · rw [if_pos hg]
    exact ⟨rfl, hg⟩
  · rw [if_neg hg] at h
    exact absurd h (by decide)
theorem worth_pos {M : Mp} (h : ∀ x, x ∈ M → Am.Good x.2.v) : 0 ≤ worth M := by
  unfold worth
  induction M with
  | nil => simp
  | cons x M ih =>
    have h1 := ih (fun y hy => h y (List.mem_cons_of_mem _ hy))
    have h2 := (h x List.mem_cons_self).1
    rw [List.map_cons, List.sum_cons]
    omega
theorem do_worthT {M N : Mp} (hM : Keys M) (hN : Keys N) (hg : ∀ x, x ∈ N → Am.Good x.2.v) {t : Tx.T} (h : doE M (Tx.idOf false t) t = 0) (hd : IsDo M N (Tx.idOf false t) t) (hw : Am.Good (worth M)) : worthT N = (worth M - feeV M t, 0) ∧ Am.Good (worth N) ∧ worth N = worth M - feeV M t := by
  obtain ⟨h1, h2⟩ := do_fee hM hN h hd
  have h3 := worth_pos hg
  have h4 : Am.Good (worth N) := ⟨h3, by have := hw.2; omega⟩
  refine ⟨?_, h4, h1⟩
  unfold worthT
  rw [if_pos h4, h1]
end Cs
end Go.Proofs.YtagjolbpmhbifaaGreatDoor

/-! Undos in a slice of one's own; what CoinsBack's second loop keeps -/
namespace Go.Proofs.YtagjolbpmhbifaaGreatDoor
open Go Go.RowKit Go.ChangeShapes Go.WideShapes
namespace Cs
structure U where
  a : Option Addr
  n : Nat
  q : Nat
  b : Option Addr
  m : Nat
  r : Nat
  f : Bool
  c : Option Addr
  k : Nat
  l : Nat
  t : Tx.T
  sp : List Tx.Co
end Cs
def uCells (x : Cs.U) : List Value := [.slice x.a x.n x.q, .slice x.b x.m x.r, .bool x.f, .slice x.c x.k x.l]
def uRec : Rec Cs.U where
  k := 4
  cells := uCells
  ok := fun _ => True
  pos := by omega
  len t _ := rfl
  one t v hv := by
    simp [uCells] at hv
    rcases hv with rfl | rfl | rfl | rfl <;> rfl
theorem info_undo : (Tryz.prog.info? 50).map (fun i => (i.zero, i.size, i.bytes)) = some (some (.agg #[.slice none 0 0, .slice none 0 0, .bool false, .slice none 0 0]), uRec.k, 80) := by kernel_rfl
theorem size_undo : (Tryz.prog.info? 50).map (·.size) = some uRec.k := by kernel_rfl
section
variable {B : Nat} {w w' : World} {F F' : Fp} {ua : Option Addr} {un uq : Nat} {ub : Option Addr} {um ur : Nat} {uc : Option Addr} {uk ul : Nat} {t : Tx.T} {sp : List Tx.Co}
theorem UndoAt.step (h : UndoAt B w F ua un uq ub um ur uc uk ul t sp) (hm : Moved F w w') (hg : Cs.Grown w F F') : UndoAt B w' F' ua un uq ub um ur uc uk ul t sp where
  tx := ⟨h.tx.sp.moved hm h.o1, h.tx.co.moved hm h.o2⟩
  co := h.co.moved hm h.o3
  o1 := fun j hj e => (hg j e).elim (h.o1 j hj) (fun h9 => by have := (h.tx.sp.lt_size j hj).2; omega)
  o2 := fun j hj e => (hg j e).elim (h.o2 j hj) (fun h9 => by have := (h.tx.co.lt_size j hj).2; omega)
  o3 := fun j hj e => (hg j e).elim (h.o3 j hj) (fun h9 => by have := (h.co.lt_size j hj).2; omega)
theorem UndoAt.aside {G : Fp} (h : UndoAt B w F ua un uq ub um ur uc uk ul t sp) (hm : Moved G w w') (h1 : ∀ j, (Value.slice ua un uq).ownBlock = some j → ¬ G j) (h2 : ∀ j, (Value.slice ub um ur).ownBlock = some j → ¬ G j) (h3 : ∀ j, (Value.slice uc uk ul).ownBlock = some j → ¬ G j) : UndoAt B w' F ua un uq ub um ur uc uk ul t sp where
  tx := ⟨h.tx.sp.moved hm h1, h.tx.co.moved hm h2⟩
  co := h.co.moved hm h3
  o1 := h.o1
  o2 := h.o2
  o3 := h.o3
theorem UndoAt.below (h : UndoAt B w F ua un uq ub um ur uc uk ul t sp) (hb : Below w.heap.size w w') : UndoAt B w' F ua un uq ub um ur uc uk ul t sp :=
  h.aside (G := fun _ => False) (Moved.of_below hb) (fun _ _ e => e) (fun _ _ e => e) (fun _ _ e => e)
theorem UndoAt.low {D : Nat} (h : UndoAt B w F ua un uq ub um ur uc uk ul t sp) (hD : D ≤ B) : UndoAt D w F ua un uq ub um ur uc uk ul t sp := ⟨h.tx.low hD, h.co.low hD, h.o1, h.o2, h.o3⟩
end
structure Cs.U.At (D : Nat) (w : World) (F : Fp) (x : Cs.U) : Prop where
  u : UndoAt D w F x.a x.n x.q x.b x.m x.r x.c x.k x.l x.t x.sp
  f : x.f = x.t.firm
  sm : Tx.Small x.t
  gd : ∀ c, c ∈ x.sp → Am.Good c.v
def Cs.pairs (U : List Cs.U) : List (Tx.T × List Tx.Co) := U.reverse.map (fun x => (x.t, x.sp))
theorem Cs.pairs_snoc (U : List Cs.U) (x : Cs.U) : Cs.pairs (U ++ [x]) = (x.t, x.sp) :: Cs.pairs U := by simp [Cs.pairs]
/-- what is kept: the set, its copy of before, the undos, how the one came of the other -/
structure Lp (S : World → Value → Fp → Cs.Mp → Prop) (B D : Nat) (w4 : World) (v v0 : Value) (M0 : Cs.Mp) (w : World) (F F0 : Fp) (M : Cs.Mp) (oa : Option Addr) (k oq : Nat) (U : List Cs.U) (cs : List (Tx.T × List Tx.Co)) : Prop where
  s : S w v F M
  s0 : S w v0 F0 M0
  hF : ∀ j, F j → B ≤ j
  hF0 : ∀ j, F0 j → B ≤ j ∧ ¬ F j
  o : OwnR uRec 50 D w (.slice oa k oq) U
  oF : ∀ j, (Value.slice oa k oq).ownBlock = some j → ¬ F j ∧ ¬ F0 j
  us : ∀ x, x ∈ U → x.At D w F
  ch : Cs.Chain M0 cs M
  bl : Below B w4 w
  sz : D ≤ w.heap.size
  bd : B ≤ D
section
variable {S : World → Value → Fp → Cs.Mp → Prop} (ok : CoinsOk S) {B D : Nat} {w4 w w' : World} {v v0 : Value} {M0 M M' : Cs.Mp} {F F0 F' : Fp} {oa : Option Addr} {k oq : Nat} {U : List Cs.U} {cs cs' : List (Tx.T × List Tx.Co)}
include ok
theorem Lp.below (h : Lp S B D w4 v v0 M0 w F F0 M oa k oq U cs) (hb : Below w.heap.size w w') : Lp S B D w4 v v0 M0 w' F F0 M oa k oq U cs where
  s := ok.below h.s hb
  s0 := ok.below h.s0 hb
  hF := h.hF
  hF0 := h.hF0
  o := h.o.below hb
  oF := h.oF
  us := fun x hx => ⟨(h.us x hx).u.below hb, (h.us x hx).f, (h.us x hx).sm, (h.us x hx).gd⟩
  ch := h.ch
  bl := h.bl.trans (hb.mono (Nat.le_trans h.bd h.sz))
  sz := Nat.le_trans h.sz hb.size
  bd := h.bd
/-- behind a call on the set -/
theorem Lp.call (h : Lp S B D w4 v v0 M0 w F F0 M oa k oq U cs) (hs : S w' v F' M') (hm : Moved F w w') (hg : Cs.Grown w F F') (hc : Cs.Chain M0 cs' M') : Lp S B D w4 v v0 M0 w' F' F0 M' oa k oq U cs' where
  s := hs
  s0 := ok.moved h.s0 hm (fun j hj => (h.hF0 j hj).2)
  hF := fun j hj => (hg j hj).elim (h.hF j) (fun h9 => by have := h.bd; have := h.sz; omega)
  hF0 := fun j hj => ⟨(h.hF0 j hj).1, fun e => (hg j e).elim (h.hF0 j hj).2 (fun h9 => by have := ok.lt h.s0 j hj; omega)⟩
  o := h.o.moved hm (fun j hj => (h.oF j hj).1)
  oF := fun j hj => ⟨fun e => (hg j e).elim (h.oF j hj).1 (fun h9 => by have := (h.o.lt_size j hj).2; omega), (h.oF j hj).2⟩
  us := fun x hx => ⟨(h.us x hx).u.step hm hg, (h.us x hx).f, (h.us x hx).sm, (h.us x hx).gd⟩
  ch := hc
  bl := h.bl.trans (hm.below h.hF (Nat.le_trans h.bd h.sz))
  sz := Nat.le_trans h.sz hm.size
  bd := h.bd
/-- behind an append of one more undo -/
theorem Lp.push (h : Lp S B D w4 v v0 M0 w F F0 M oa k oq U cs) {x : Cs.U} (hx : x.At D w F) {oa' : Option Addr} {k' oq' : Nat} (hg : w.grownBy w' (Value.slice oa k oq).ownBlock) (ho : OwnR uRec 50 D w' (.slice oa' k' oq') (U ++ [x])) (hl : Lies w (.slice oa k oq) (.slice oa' k' oq')) :
    Lp S B D w4 v v0 M0 w' F F0 M oa' k' oq' (U ++ [x]) cs := by
  have hm : Moved (fun j => (Value.slice oa k oq).ownBlock = some j) w w' := Moved.of_grown hg (fun k e => e)
  have hn : ∀ {α : Type} {R : Rec α} {T : TypeId} {vv : Value} {Z : List α}, OwnR R T D w vv Z → T ≠ 50 → ∀ j, vv.ownBlock = some j → ¬ (Value.slice oa k oq).ownBlock = some j := fun hz hT j hj e => by
    obtain ⟨c1, h1⟩ := ownr_block hz hj
    obtain ⟨c2, h2⟩ := ownr_block h.o e
    exact Has.ne_type h1 h2 hT rfl
  have hat : ∀ y : Cs.U, y.At D w F → y.At D w' F := fun y hy => ⟨hy.u.aside hm (hn hy.u.tx.sp (by decide)) (hn hy.u.tx.co (by decide)) (hn hy.u.co (by decide)), hy.f, hy.sm, hy.gd⟩
  exact
  { s := ok.moved h.s hm (fun j hj e => (h.oF j e).1 hj)
    s0 := ok.moved h.s0 hm (fun j hj e => (h.oF j e).2 hj)
    hF := h.hF
    hF0 := h.hF0
    o := ho
    oF := fun j hj => (hl j hj).elim (h.oF j) (fun h9 => ⟨fun e => by have := ok.lt h.s j e; omega, fun e => by have := ok.lt h.s0 j e; omega⟩)
    us := fun y hy => (List.mem_append.1 hy).elim (fun hy => hat y (h.us y hy)) (fun hy => by rw [List.mem_singleton.1 hy]; exact hat x hx)
    ch := h.ch
    bl := h.bl.trans (hm.below (fun j hj => Nat.le_trans h.bd (h.o.lt j hj)) (Nat.le_trans h.bd h.sz))
    sz := Nat.le_trans h.sz hm.size
    bd := h.bd }
end
end Go.Proofs.YtagjolbpmhbifaaGreatDoor
