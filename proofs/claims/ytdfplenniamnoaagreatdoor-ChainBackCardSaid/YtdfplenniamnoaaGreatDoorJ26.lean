/- package chain: links, where they lie; values, fees, Height, at (mkche.py) -/
import Derived.Test.YtdfplenniamnoaaGreatDoorJ25
/-! package chain: links, where they lie; values, fees, Height, at (mkche.py) -/
namespace Go.Proofs.YtdfplenniamnoaaGreatDoor
open Go Go.RowKit Go.ChangeShapes Go.WideShapes
namespace Ch
/-- coins that were spent, with the place where they lie -/
structure S where
  a : Option Addr
  n : Nat
  q : Nat
  cs : List Tx.Co
/-- a link of a chain -/
structure L where
  b : B
  sa : Option Addr
  sn : Nat
  sq : Nat
  ss : List S
def csOf (ss : List S) : List (List Tx.Co) := ss.map (·.cs)
/-- the sum of coins' values, of a block's fees -/
def vsum (cs : List Tx.Co) : Int := (Tx.vals cs).sum
def feesOf : List Tx.T → List (List Tx.Co) → Int
  | t :: ts, c :: cs => vsum c - vsum t.co + feesOf ts cs
  | _, _ => 0
theorem feesOf_snoc : ∀ {ts : List Tx.T} {cs : List (List Tx.Co)} (_ : ts.length = cs.length) (t : Tx.T) (c : List Tx.Co), feesOf (ts ++ [t]) (cs ++ [c]) = feesOf ts cs + (vsum c - vsum t.co)
  | [], [], _, t, c => by simp [feesOf]
  | t0 :: ts, c0 :: cs, h, t, c => by
    have ih := feesOf_snoc (ts := ts) (cs := cs) (by simpa using h) t c
    show vsum c0 - vsum t0.co + feesOf (ts ++ [t]) (cs ++ [c]) = _
    rw [ih]
    show _ = vsum c0 - vsum t0.co + feesOf ts cs + _
    omega
  | [], _ :: _, h, _, _ => by simp at h
  | _ :: _, [], h, _, _ => by simp at h
/-- few coins, each of a good value -/
def Few (cs : List Tx.Co) : Prop := cs.length ≤ 30 ∧ ∀ c, c ∈ cs → Am.Good c.v
theorem vsum_le : ∀ {cs : List Tx.Co}, (∀ c, c ∈ cs → Am.Good c.v) → 0 ≤ vsum cs ∧ vsum cs ≤ 2100000000000000 * (cs.length : Int)
  | [], _ => by simp [vsum, Tx.vals]
  | c :: cs, h => by
    have ih := vsum_le (cs := cs) (fun x hx => h x (List.mem_cons_of_mem _ hx))
    have h1 := h c List.mem_cons_self
    have e : vsum (c :: cs) = c.v + vsum cs := by simp [vsum, Tx.vals]
    rw [e, List.length_cons]
    unfold Am.Good at h1
    omega
theorem vsum_take {cs : List Tx.Co} {i : Nat} {c : Tx.Co} (h : cs[i]? = some c) : vsum (cs.take (i + 1)) = vsum (cs.take i) + c.v := by
  obtain ⟨h2, h3⟩ := List.getElem?_eq_some_iff.1 h
  rw [List.take_succ_eq_append_getElem h2, h3]
  simp [vsum, Tx.vals]
/-- what is kept of a link, but for where it lies -/
structure L.Ok (l : L) : Prop where
  n : l.b.n ≤ 60
  len : l.ss.length = l.b.vs.length
  sm : ∀ x, x ∈ l.b.vs → Tx.Small x.t ∧ Few x.t.co
  few : ∀ s, s ∈ l.ss → Few s.cs
end Ch
def sCells (x : Ch.S) : List Value := [.slice x.a x.n x.q]
def sRec : Rec Ch.S where
  k := 1
  cells := sCells
  ok := fun _ => True
  pos := by omega
  len t _ := rfl
  one t v hv := by
    simp [sCells] at hv
    rw [hv]
    rfl
def lkCells (l : Ch.L) : List Value := bkCells l.b ++ [.slice l.sa l.sn l.sq]
theorem lkCells_len {l : Ch.L} (h : l.b.prev.length = 32) : (lkCells l).length = 35 := by unfold lkCells; rw [List.length_append, bkCells_len h]; rfl
def lkRec : Rec Ch.L where
  k := 35
  cells := lkCells
  ok := fun l => l.b.prev.length = 32
  pos := by omega
  len t h := lkCells_len h
  one l v hv := by
    unfold lkCells at hv
    rcases List.mem_append.1 hv with h | h
    · exact bkRec.one l.b v h
    · rw [List.mem_singleton.1 h]
      rfl
theorem info_lk : (Tryz.prog.info? 153).map (fun i => (i.zero, i.size, i.bytes)) = some (some (.agg #[.int .u8 0, .int .u8 0, .int .u8 0, .int .u8 0, .int .u8 0, .int .u8 0, .int .u8 0, .int .u8 0, .int .u8 0, .int .u8 0, .int .u8 0, .int .u8 0, .int .u8 0, .int .u8 0, .int .u8 0, .int .u8 0, .int .u8 0, .int .u8 0, .int .u8 0, .int .u8 0, .int .u8 0, .int .u8 0, .int .u8 0, .int .u8 0, .int .u8 0, .int .u8 0, .int .u8 0, .int .u8 0, .int .u8 0, .int .u8 0, .int .u8 0, .int .u8 0, .int .i64 0, .slice none 0 0, .slice none 0 0]), lkRec.k, 88) := by kernel_rfl
theorem size_lk : (Tryz.prog.info? 153).map (·.size) = some lkRec.k := by kernel_rfl
theorem info_cos : (Tryz.prog.info? 24).map (fun i => (i.zero, i.size, i.bytes)) = some (some (.slice none 0 0), sRec.k, 24) := by kernel_rfl
abbrev zLk : Array Value := #[.int .u8 0, .int .u8 0, .int .u8 0, .int .u8 0, .int .u8 0, .int .u8 0, .int .u8 0, .int .u8 0, .int .u8 0, .int .u8 0, .int .u8 0, .int .u8 0, .int .u8 0, .int .u8 0, .int .u8 0, .int .u8 0, .int .u8 0, .int .u8 0, .int .u8 0, .int .u8 0, .int .u8 0, .int .u8 0, .int .u8 0, .int .u8 0, .int .u8 0, .int .u8 0, .int .u8 0, .int .u8 0, .int .u8 0, .int .u8 0, .int .u8 0, .int .u8 0, .int .i64 0, .slice none 0 0, .slice none 0 0]
/-- a link without anything -/
def Ch.lz : Ch.L := ⟨⟨List.replicate 32 0#8, 0, none, 0, 0, []⟩, none, 0, 0, []⟩
theorem lkCells_bk {l : Ch.L} (j : Nat) (v : Value) (h : (bkCells l.b)[j]? = some v) : (lkCells l).toArray[0 + j]? = some v := by
  rw [List.getElem?_toArray, Nat.zero_add]
  unfold lkCells
  rw [List.getElem?_append_left (List.getElem?_eq_some_iff.1 h).1]
  exact h
theorem lk_load_bk {w : World} {g : Nat} {l : Ch.L} (h : Has w g 153 (lkCells l).toArray) (hl : l.b.prev.length = 32) : (Instr.loadAt 79 (.pointer (some ⟨g, 0, none⟩))).run Tryz.prog w = .ok (.agg (bkCells l.b).toArray) w :=
  has_mid h 0 (bkCells l.b) lkCells_bk Tryz.underlying79 rfl (by rw [bkCells_len hl]; kernel_rfl)
theorem lk_ts {w : World} {g : Nat} {T : TypeId} {l : Ch.L} (h : Has w g T (lkCells l).toArray) (hl : l.b.prev.length = 32) : w.cell? ⟨g, 33, none⟩ = some (.slice l.b.a l.b.n l.b.q) :=
  h.cell_at (by rw [show (33 : Nat) = 0 + (32 + 1) from rfl]; exact lkCells_bk _ _ (by rw [bkCells_at hl]; rfl))
theorem lk_h {w : World} {g : Nat} {T : TypeId} {l : Ch.L} (h : Has w g T (lkCells l).toArray) (hl : l.b.prev.length = 32) : w.cell? ⟨g, 32, none⟩ = some (.int .i64 l.b.h) :=
  h.cell_at (by rw [show (32 : Nat) = 0 + (32 + 0) from rfl]; exact lkCells_bk _ _ (by rw [bkCells_at hl]; rfl))
theorem lk_ss {w : World} {g : Nat} {T : TypeId} {l : Ch.L} (h : Has w g T (lkCells l).toArray) (hl : l.b.prev.length = 32) : w.cell? ⟨g, 34, none⟩ = some (.slice l.sa l.sn l.sq) :=
  h.cell_at (by
    rw [List.getElem?_toArray]
    unfold lkCells
    rw [List.getElem?_append_right (by rw [bkCells_len hl]; omega), bkCells_len hl]
    rfl)
/-- in blocks of G -/
def InB (G : Nat → Prop) (a : Option Addr) (n : Nat) : Prop := 0 < n → ∀ y, a = some y → G y.block
structure Tx.V.In (G : Nat → Prop) (w : World) (x : Tx.V) : Prop where
  at_ : x.At w
  i1 : InB G x.a x.n
  i2 : InB G x.b x.m
structure Ch.B.In (G : Nat → Prop) (w : World) (b : Ch.B) : Prop where
  p : b.prev.length = 32
  h : -9223372036854775808 ≤ b.h ∧ b.h < 9223372036854775808
  r : Recs vRec w b.a b.n b.vs
  nq : b.n ≤ b.q ∧ (b.a = none → b.q = 0)
  i : InB G b.a b.n
  xs : ∀ x, x ∈ b.vs → x.In G w
structure Ch.S.In (G : Nat → Prop) (w : World) (x : Ch.S) : Prop where
  r : Recs coRec w x.a x.n x.cs
  nq : x.n ≤ x.q ∧ (x.a = none → x.q = 0)
  i : InB G x.a x.n
structure Ch.L.In (G : Nat → Prop) (w : World) (l : Ch.L) : Prop where
  b : l.b.In G w
  r : Recs sRec w l.sa l.sn l.ss
  nq : l.sn ≤ l.sq ∧ (l.sa = none → l.sq = 0)
  i : InB G l.sa l.sn
  xs : ∀ x, x ∈ l.ss → x.In G w
section
variable {G G' F : Nat → Prop} {w w' : World}
theorem InB.mono {a : Option Addr} {n : Nat} (h : InB G a n) (hG : ∀ j, G j → G' j) : InB G' a n := fun h0 y e => hG _ (h h0 y e)
theorem Tx.V.In.mono {x : Tx.V} (h : x.In G w) (hG : ∀ j, G j → G' j) : x.In G' w := ⟨h.at_, h.i1.mono hG, h.i2.mono hG⟩
theorem Ch.B.In.mono {b : Ch.B} (h : b.In G w) (hG : ∀ j, G j → G' j) : b.In G' w := ⟨h.p, h.h, h.r, h.nq, h.i.mono hG, fun x hx => (h.xs x hx).mono hG⟩
theorem Ch.S.In.mono {x : Ch.S} (h : x.In G w) (hG : ∀ j, G j → G' j) : x.In G' w := ⟨h.r, h.nq, h.i.mono hG⟩
theorem Ch.L.In.mono {l : Ch.L} (h : l.In G w) (hG : ∀ j, G j → G' j) : l.In G' w := ⟨h.b.mono hG, h.r, h.nq, h.i.mono hG, fun x hx => (h.xs x hx).mono hG⟩
theorem Tx.V.In.moved {x : Tx.V} (h : x.In G w) (hm : Moved F w w') (hG : ∀ j, G j → ¬ F j) : x.In G w' :=
  ⟨⟨h.at_.sp.moved hm (fun h0 y e => hG _ (h.i1 h0 y e)), h.at_.co.moved hm (fun h0 y e => hG _ (h.i2 h0 y e)), h.at_.nq, h.at_.mr, h.at_.q0, h.at_.r0⟩, h.i1, h.i2⟩
theorem Ch.B.In.moved {b : Ch.B} (h : b.In G w) (hm : Moved F w w') (hG : ∀ j, G j → ¬ F j) : b.In G w' := ⟨h.p, h.h, h.r.moved hm (fun h0 y e => hG _ (h.i h0 y e)), h.nq, h.i, fun x hx => (h.xs x hx).moved hm hG⟩
theorem Ch.S.In.moved {x : Ch.S} (h : x.In G w) (hm : Moved F w w') (hG : ∀ j, G j → ¬ F j) : x.In G w' := ⟨h.r.moved hm (fun h0 y e => hG _ (h.i h0 y e)), h.nq, h.i⟩
theorem Ch.L.In.moved {l : Ch.L} (h : l.In G w) (hm : Moved F w w') (hG : ∀ j, G j → ¬ F j) : l.In G w' :=
  ⟨h.b.moved hm hG, h.r.moved hm (fun h0 y e => hG _ (h.i h0 y e)), h.nq, h.i, fun x hx => (h.xs x hx).moved hm hG⟩
theorem Ch.B.In.below {b : Ch.B} (h : b.In G w) (hb : Below w.heap.size w w') : b.In G w' := h.moved (F := fun _ => False) (Moved.of_below hb) (fun _ _ e => e)
theorem Ch.L.In.below {l : Ch.L} (h : l.In G w) (hb : Below w.heap.size w w') : l.In G w' := h.moved (F := fun _ => False) (Moved.of_below hb) (fun _ _ e => e)
theorem Ch.S.In.below {x : Ch.S} (h : x.In G w) (hb : Below w.heap.size w w') : x.In G w' := h.moved (F := fun _ => False) (Moved.of_below hb) (fun _ _ e => e)
theorem Ch.B.In.at {b : Ch.B} (h : b.In G w) : b.At w := ⟨h.p, h.h, ⟨h.r, fun x hx => (h.xs x hx).at_⟩, h.nq⟩
/-- what lies in memory of its own -/
theorem OwnR.inB {α : Type} {R : Rec α} {T : TypeId} {B : Nat} {a : Option Addr} {n q : Nat} {X : List α} (h : OwnR R T B w (.slice a n q) X) : InB (fun j => B ≤ j ∧ j < w.heap.size) a n := fun h0 y e => by
  have hn : X.length = n := h.recs.1.1
  obtain ⟨a', c', e2, _, _, h3, _⟩ := h.shape hn
  injection e2 with e2
  exact h3 y (e2 ▸ e)
theorem Ch.B.Own.in {D : Nat} {b : Ch.B} (h : b.Own D w) : b.In (fun j => D ≤ j ∧ j < w.heap.size) w :=
  ⟨h.p, h.h, h.at.ts.1, h.at.nq, h.ts.o.inB, fun x hx => ⟨(h.ts.ts x hx).at, (h.ts.ts x hx).sp.inB, (h.ts.ts x hx).co.inB⟩⟩
end
theorem coins_at' {w : World} {x : Addr} {n i : Nat} {L : List Tx.Co} {c : Tx.Co} (h : Recs coRec w (some x) n L) (hi : L[i]? = some c) : (Instr.loadAt 39 (.pointer (some (x.add (i * 2))))).run Tryz.prog w = .ok (.agg (coCells c).toArray) w :=
  h.load_at Tryz.underlying39 rfl size_coin hi
set_option maxRecDepth 100000 in
set_option maxHeartbeats 8000000 in
theorem pvalues_any (a : Option Addr) (n q : Nat) (cs : List Tx.Co) (w : World) (h : Recs coRec w a n cs) (hg : Ch.Few cs) :
    Calls Tryz.prog 143 #[.slice a n q] w fun e w' => e = .returned (.int .i64 (Ch.vsum cs)) ∧ Below w.heap.size w w' := by
  have HH := Lib.hid h
  have hn30 : n ≤ 30 := by have := h.1; have := hg.1; omega
  have hnmx : n ≤ 9223372036854775807 := by omega
  have HG := Lib.hid hg.2
  have HN := Lib.hid h.1
  clear h hg
  go_enter Tryz.func143, Tryz.ntmps143
  go_wp2
  go_loopw [3, 8] (fun sv iv wr => ∃ (i : Nat), i ≤ n ∧ iv = .int .i64 i ∧ sv = .int .i64 (Ch.vsum (cs.take i)) ∧ Below w.heap.size w wr) (fun _ iv _ => n - (intOf iv).toNat)
  case atStart => exact ⟨0, Nat.zero_le _, rfl, by simp [Ch.vsum, Tx.vals], Below.refl _ _⟩
  case round =>
    obtain ⟨i, hi, rfl, rfl, hb⟩ := hrel
    by_cases hlt : i < n
    · have hii : (i : Int) < (n : Int) := by omega
      have hi0 : (0 : Int) ≤ (i : Int) := by omega
      obtain ⟨c, hc⟩ := HH.out.get hlt
      obtain ⟨x, rfl, _⟩ := HH.out.2.2.2 i c hc
      have hok := HH.out.okay hc
      have hy := coins_at' (HH.out.below hb) hc
      have h1 := Ch.vsum_take hc
      have h2 := Ch.vsum_le (cs := cs.take i) (fun y hy => HG.out y (List.mem_of_mem_take hy))
      have h3 := Ch.vsum_le (cs := cs.take (i + 1)) (fun y hy => HG.out y (List.mem_of_mem_take hy))
      have h4 : (cs.take i).length ≤ 30 := by rw [List.length_take]; omega
      have h5 : (cs.take (i + 1)).length ≤ 30 := by rw [List.length_take]; omega
      obtain ⟨s, hs⟩ : ∃ s, s = Ch.vsum (cs.take i) := ⟨_, rfl⟩
      obtain ⟨s', hs'⟩ : ∃ s, s = Ch.vsum (cs.take (i + 1)) := ⟨_, rfl⟩
      rw [← hs] at h1 h2 ⊢
      rw [← hs'] at h1 h3
      have HS := Lib.hid hs'
      have hw1 : IntKind.i64.wrap (s + c.v) = s' := by rw [← h1]; exact IntWalk.i64_in _ (by omega)
      have HK := Lib.hid hok
      clear hs hs' h1 h2 h3 h4 h5 hok hc
      go_upto_region 5 with (first
        | (refine wpList_store_mid rfl 39 (.tmp 5) (.tmp 11) rfl wr.heap.size 0 (coCells c).toArray rfl rfl (coRec.there wr 39 (by kernel_rfl) HK.out) (coRec.size_eq size_coin HK.out) (coRec.all_one c) ?_)
        | (refine wpList_load_run rfl 39 (.tmp 10) rfl _ _ rfl hy ?_))
      obtain ⟨w5, hw5⟩ : ∃ u', u' = (wr.alloc (.cells zCo 39)).setCells wr.heap.size 0 (coCells c) := ⟨_, rfl⟩
      obtain ⟨hF5, hb5⟩ := Rec.new (R := coRec) (by kernel_rfl) HK.out hw5
      rw [← hw5]
      have hB5 := hb.trans (hb5.mono hb.size)
      obtain ⟨g5, hg5⟩ : ∃ g, g = wr.heap.size := ⟨_, rfl⟩
      rw [← hg5] at hF5 ⊢
      have c0 : w5.cell? ⟨g5, 0, none⟩ = some (.int .i64 c.v) := hF5.cell_at rfl
      clear hw5 hy hg5 hb5 hF5
      go_wp2
      go_roundw
      case rel => exact ⟨i + 1, by omega, by go_num, by rw [← HS.out], hB5⟩
      case measure => (simp [intOf]; try omega)
    · have hii : ¬ (i : Int) < (n : Int) := by omega
      obtain rfl : i = n := by omega
      have HE := Lib.hid (show cs.take i = cs from List.take_of_length_le (by have := HN.out; omega))
      go_wp2
      go_ret
      exact ⟨by rw [HE.out]; rfl, hb⟩
/-- the links of a chain that v points to, what they hold in blocks of G; no chain at all -/
def LksAt (G : Nat → Prop) (w : World) (v : Value) (X : List Ch.L) : Prop :=
  (v = .pointer none ∧ X = []) ∨ ∃ (g : Nat) (cv : Value) (la : Option Addr) (lq : Nat), v = .pointer (some ⟨g, 0, none⟩) ∧ Has w g 149 #[cv, .slice la X.length lq] ∧ Recs lkRec w la X.length X ∧ X.length ≤ lq ∧ (∀ l, l ∈ X → l.In G w ∧ l.Ok)
theorem LksAt.below {G : Nat → Prop} {w w' : World} {v : Value} {X : List Ch.L} (h : LksAt G w v X) (hb : Below w.heap.size w w') : LksAt G w' v X := by
  rcases h with h | ⟨g, cv, la, lq, h1, h2, h3, h4, h5⟩
  · exact .inl h
  · exact .inr ⟨g, cv, la, lq, h1, h2.under hb h2.lt, h3.below hb, h4, fun l hl => ⟨(h5 l hl).1.below hb, (h5 l hl).2⟩⟩
set_option maxRecDepth 100000 in
set_option maxHeartbeats 8000000 in
theorem pheight_any {G : Nat → Prop} {w : World} {v : Value} {X : List Ch.L} (h : LksAt G w v X) (hX : X.length ≤ 1000000) :
    Calls Tryz.prog 45 #[v] w fun e w' => e = .returned (.int .i64 X.length) ∧ w' = w := by
  obtain ⟨n, hn⟩ : ∃ n, X.length = n := ⟨_, rfl⟩
  rcases h with ⟨rfl, rfl⟩ | ⟨g, cv, la, lq, rfl, h2, _⟩
  · clear hX
    go_enter Tryz.func45, Tryz.ntmps45
    go_wp2
    go_ret
    exact ⟨rfl, rfl⟩
  · rw [hn] at h2 hX ⊢
    have c1 := h2.cell_at (i := 1) (v := .slice la n lq) rfl
    have hnmx : n ≤ 9223372036854775807 := by omega
    clear h2 hX hn
    go_enter Tryz.func45, Tryz.ntmps45
    go_wp2
    go_ret
    exact ⟨rfl, rfl⟩
/-- the link of a height, and whether it is there -/
def Ch.lkAt (X : List Ch.L) (z : Int) : Ch.L × Bool := if 1 ≤ z ∧ z ≤ X.length then (X.getD (z - 1).toNat Ch.lz, true) else (Ch.lz, false)
theorem lk_load {w : World} {x : Addr} {n i : Nat} {X : List Ch.L} {l : Ch.L} (h : Recs lkRec w (some x) n X) (hi : X[i]? = some l) : (Instr.loadAt 153 (.pointer (some (x.add (i * 35))))).run Tryz.prog w = .ok (.agg (lkCells l).toArray) w :=
  h.load_at Tryz.underlying153 rfl size_lk hi
set_option maxRecDepth 100000 in
set_option maxHeartbeats 8000000 in
theorem pat_any {G : Nat → Prop} {w : World} {v : Value} {X : List Ch.L} (h : LksAt G w v X) (hX : X.length ≤ 1000000) (z : Int) (hz : -9223372036854775808 ≤ z ∧ z < 9223372036854775808) :
    Calls Tryz.prog 89 #[v, .int .i64 z] w fun e w' => e = .returned (.tuple #[.agg (lkCells (Ch.lkAt X z).1).toArray, .bool (Ch.lkAt X z).2]) ∧ Below w.heap.size w w' := by
  obtain ⟨W1, hW1⟩ : ∃ ww, ww = w.alloc (.cells zLk 153) := ⟨_, rfl⟩
  have hB1 : Below w.heap.size w W1 := by rw [hW1]; exact (Below.refl _ _).alloc (Nat.le_refl _) _
  have hR : Has W1 w.heap.size 153 zLk := by rw [hW1]; exact Has.fresh _ _ _
  have HHT := Lib.hid (pheight_any (h.below hB1) hX)
  obtain ⟨n, hn⟩ : ∃ n, n = X.length := ⟨_, rfl⟩
  rw [← hn] at HHT hX
  have HX := Lib.hid hn
  have HW := Lib.hid hW1
  obtain ⟨l, hl⟩ : ∃ l, l = (Ch.lkAt X z).1 := ⟨_, rfl⟩
  obtain ⟨ok, hok⟩ : ∃ l, l = (Ch.lkAt X z).2 := ⟨_, rfl⟩
  rw [← hl, ← hok]
  by_cases hr : 1 ≤ z ∧ z ≤ n
  · obtain ⟨h1, h2⟩ := hr
    obtain ⟨k, hk⟩ : ∃ k : Nat, k = (z - 1).toNat := ⟨_, rfl⟩
    have hkz : z - 1 = (k : Int) := by omega
    have hkn : (k : Int) < (n : Int) := by omega
    have hk0 : (0 : Int) ≤ (k : Int) := by omega
    have hzw : IntKind.i64.wrap (z - 1) = (k : Int) := by rw [hkz]; exact IntWalk.i64_in _ (by omega)
    have e2 : Ch.lkAt X z = (X.getD k Ch.lz, true) := by unfold Ch.lkAt; rw [if_pos ⟨h1, by rw [← hn]; exact h2⟩, hk]
    rw [e2] at hl hok
    obtain rfl : ok = true := hok
    rcases h with ⟨_, rfl⟩ | ⟨g, cv, la, lq, rfl, hH, hL, hq, _⟩
    · exact absurd hn (by simp; omega)
    · have hXk : X[k]? = some l := by
        rw [hl, List.getD_eq_getElem?_getD, List.getElem?_eq_getElem (by omega)]
        rfl
      obtain ⟨x, rfl, _⟩ := hL.2.2.2 k l hXk
      have hH1 := hH.under hB1 hH.lt
      rw [← hn] at hH1
      have c1 := hH1.cell_at (i := 1) (v := .slice (some x) n lq) rfl
      have hy := lk_load (hL.below hB1) hXk
      have HOK := Lib.hid (hL.okay hXk)
      have hth := hR.there 0 (lkCells l).toArray.size (by rw [List.size_toArray, lkCells_len HOK.out]; decide)
      have HTH := Lib.hid hth
      clear hl hk hkz hn hH hL hq hXk hH1 e2 hW1 hth
      go_enter Tryz.func89, Tryz.ntmps89
      go_upto_region 1 with fail
      rw [← HW.out]
      have hz1 : ¬ z < 1 := by omega
      have hz2 : ¬ (n : Int) < z := by omega
      go_wp2_with (first
        | (refine wpList_store_mid rfl 153 (.tmp 4) (.tmp 22) rfl w.heap.size 0 (lkCells l).toArray rfl rfl HTH.out (lkRec.size_eq size_lk HOK.out) (lkRec.all_one _) ?_)
        | (refine wpList_load_run rfl 153 (.tmp 21) rfl _ _ rfl hy ?_)
        | (go_at_call 45; refine HHT.out.mono ?_; rintro e w2 ⟨rfl, rfl⟩))
      have hE := hR.whole_cs (cs2 := (lkCells l).toArray) (by rw [List.size_toArray, lkCells_len HOK.out]; rfl)
      exact bodyPost_ret (results_cellslot rfl _ _ w.heap.size rfl _ _ (hE.load_var Tryz.underlying153 rfl (lkRec.size_eq size_lk HOK.out)) rfl) rfl ⟨rfl, below_setAll (Nat.le_refl _) _ 0 hB1⟩
  · have e2 : Ch.lkAt X z = (Ch.lz, false) := by unfold Ch.lkAt; rw [if_neg (by rw [← hn]; exact hr)]
    rw [e2] at hl hok
    obtain rfl : ok = false := hok
    obtain rfl : l = Ch.lz := hl
    have hth := hR.there 0 35 (by decide)
    have HTH := Lib.hid hth
    have hbd := fun (w : World) => run_build (P := Tryz.prog) w 153 #[] zLk (by kernel_rfl)
    clear e2 h hn hW1 hth
    by_cases hz1 : z < 1
    · go_enter Tryz.func89, Tryz.ntmps89
      go_upto_region 1 with fail
      rw [← HW.out]
      go_wp2_with (first
        | (refine wpList_store_mid rfl 153 (.tmp 4) (.tmp 14) rfl w.heap.size 0 zLk rfl rfl HTH.out (by kernel_rfl) (by kernel_rfl) ?_))
      have hE := hR.whole_cs (cs2 := zLk) rfl
      exact bodyPost_ret (results_cellslot rfl _ _ w.heap.size rfl _ _ (hE.load_var Tryz.underlying153 rfl (by kernel_rfl)) rfl) rfl ⟨rfl, below_setAll (Nat.le_refl _) _ 0 hB1⟩
    · have hz2 : (n : Int) < z := by omega
      go_enter Tryz.func89, Tryz.ntmps89
      go_upto_region 1 with fail
      rw [← HW.out]
      go_wp2_with (first
        | (refine wpList_store_mid rfl 153 (.tmp 4) (.tmp 14) rfl w.heap.size 0 zLk rfl rfl HTH.out (by kernel_rfl) (by kernel_rfl) ?_)
        | (go_at_call 45; refine HHT.out.mono ?_; rintro e w2 ⟨rfl, rfl⟩))
      have hE := hR.whole_cs (cs2 := zLk) rfl
      exact bodyPost_ret (results_cellslot rfl _ _ w.heap.size rfl _ _ (hE.load_var Tryz.underlying153 rfl (by kernel_rfl)) rfl) rfl ⟨rfl, below_setAll (Nat.le_refl _) _ 0 hB1⟩
end Go.Proofs.YtdfplenniamnoaaGreatDoor
