/- transactions: as lists, as cells, as arguments; which are the same -/
import Derived.Test.YtcedecljbgailaaDoorLz
namespace Go.Proofs.YtcedecljbgailaaDoor
open Go Go.RowKit Go.ChangeShapes Go.WideShapes
namespace Tx
structure Sp where
  h : List (BitVec 8)
  n : Int
  key : List (BitVec 8)
  sl : BitVec 64
structure Co where
  v : Int
  lock : BitVec 64
structure T where
  sp : List Sp
  co : List Co
  firm : Bool
theorem sp_ext {a b : Sp} : a = b ↔ a.h = b.h ∧ a.n = b.n ∧ a.key = b.key ∧ a.sl = b.sl := by
  cases a; cases b; simp
theorem co_ext {a b : Co} : a = b ↔ a.v = b.v ∧ a.lock = b.lock := by
  cases a; cases b; simp
theorem t_ext {a b : T} : a = b ↔ a.sp = b.sp ∧ a.co = b.co ∧ a.firm = b.firm := by
  cases a; cases b; simp
instance : DecidableEq Sp := fun _ _ => decidable_of_iff _ sp_ext.symm
instance : DecidableEq Co := fun _ _ => decidable_of_iff _ co_ext.symm
instance : DecidableEq T := fun _ _ => decidable_of_iff _ t_ext.symm
/-- what a spend's parts are within -/
def SpOk (s : Sp) : Prop := s.h.length = 32 ∧ (-9223372036854775808 ≤ s.n ∧ s.n < 9223372036854775808) ∧ s.key.length ≤ maxLen
def CoOk (c : Co) : Prop := -9223372036854775808 ≤ c.v ∧ c.v < 9223372036854775808
end Tx
def spCells (s : Tx.Sp) : List Value := blist s.h ++ [.int .i64 s.n, .string (strB s.key), .int .u64 (nb64 s.sl)]
def coCells (c : Tx.Co) : List Value := [.int .i64 c.v, .int .u64 (nb64 c.lock)]
theorem spCells_len {s : Tx.Sp} (h : s.h.length = 32) : (spCells s).length = 35 := by simp [spCells, blist_length, h]
/-- a spend as cells -/
def spRec : Rec Tx.Sp where
  k := 35
  cells := spCells
  ok := Tx.SpOk
  pos := by omega
  len t h := spCells_len h.1
  one t v hv := by
    unfold spCells at hv
    rcases List.mem_append.1 hv with h | h
    · exact blist_one _ v h
    · simp at h
      rcases h with rfl | rfl | rfl <;> rfl
/-- a coin as cells -/
def coRec : Rec Tx.Co where
  k := 2
  cells := coCells
  ok := Tx.CoOk
  pos := by omega
  len t _ := rfl
  one t v hv := by
    simp [coCells] at hv
    rcases hv with rfl | rfl <;> rfl
section
variable {H : Type} {enc : TypeId × Value → H} {w : World} {base : Nat} {spare : Nat → Bool} {held : Bool}
theorem at_one {cs : List Value} (j : Nat) (v : Value) (e : (cs.drop j).take 1 = [v]) : cs[j]? = some v := by
  have := congrArg (fun l : List Value => l[0]?) e
  simpa [List.getElem?_take, List.getElem?_drop] using this
theorem open_point {fuel : Nat} {cs : List Value} {x : DataW H × List MemPlace} (h : DataW.trod enc Tryd.prog w base spare held fuel 25 cs = some x) :
    ∃ (l : List (BitVec 8)) (n : Int), cs = blist l ++ [.int .i64 n] ∧ l.length = 32 ∧ (-9223372036854775808 ≤ n ∧ n < 9223372036854775808) := by
  obtain ⟨xs, m, _, _, hlen, hxl, hg⟩ := DataW.trod_struct Tryd.underlying25 h
  have hl : cs.length = 33 := hlen.trans (by kernel_rfl)
  have hx2 : xs.length = 2 := hxl
  have c1 : Tryd.prog.cellsOf 3 = 1 := by kernel_rfl
  have c4 : Tryd.prog.cellsOf 23 = 32 := by kernel_rfl
  have g0 : DataW.trod enc Tryd.prog w base spare held m 23 ((cs.drop 0).take (Tryd.prog.cellsOf 23)) = xs[0]? := hg 0 _ rfl
  have g1 : DataW.trod enc Tryd.prog w base spare held m 3 ((cs.drop 32).take (Tryd.prog.cellsOf 3)) = xs[1]? := hg 1 _ rfl
  rw [List.getElem?_eq_getElem (by omega)] at g0 g1
  rw [c4] at g0
  rw [c1] at g1
  obtain ⟨l, e0, l0⟩ := open_bytes32 Tryd.underlying23 Tryd.underlying5 (by kernel_rfl) c4 g0
  obtain ⟨z1, e1, _, b1⟩ := DataW.trod_int Tryd.underlying3 g1
  have k1 := bounds_i64 b1
  refine ⟨l, z1, ?_, l0, by omega⟩
  have h2 : cs = cs.take 32 ++ cs.drop 32 := (List.take_append_drop 32 cs).symm
  have h3 : cs.drop 32 = [.int .i64 z1] := by
    rw [← e1]
    exact (List.take_of_length_le (by simp [hl])).symm
  rw [h2, h3, ← e0]
  rfl
theorem open_spend {fuel : Nat} {cs : List Value} {x : DataW H × List MemPlace} (h : DataW.trod enc Tryd.prog w base spare held fuel 28 cs = some x) : ∃ s : Tx.Sp, cs = spCells s ∧ Tx.SpOk s := by
  obtain ⟨xs, m, _, _, hlen, hxl, hg⟩ := DataW.trod_struct Tryd.underlying28 h
  have hl : cs.length = 35 := hlen.trans (by kernel_rfl)
  have hx3 : xs.length = 3 := hxl
  have c2 : Tryd.prog.cellsOf 26 = 1 := by kernel_rfl
  have c3 : Tryd.prog.cellsOf 9 = 1 := by kernel_rfl
  have c4 : Tryd.prog.cellsOf 25 = 33 := by kernel_rfl
  have g0 : DataW.trod enc Tryd.prog w base spare held m 25 ((cs.drop 0).take (Tryd.prog.cellsOf 25)) = xs[0]? := hg 0 _ rfl
  have g1 : DataW.trod enc Tryd.prog w base spare held m 9 ((cs.drop 33).take (Tryd.prog.cellsOf 9)) = xs[1]? := hg 1 _ rfl
  have g2 : DataW.trod enc Tryd.prog w base spare held m 26 ((cs.drop 34).take (Tryd.prog.cellsOf 26)) = xs[2]? := hg 2 _ rfl
  rw [List.getElem?_eq_getElem (by omega)] at g0 g1 g2
  rw [c4] at g0
  rw [c3] at g1
  rw [c2] at g2
  obtain ⟨l, n, e0, l0, hn⟩ := open_point g0
  obtain ⟨s, e1, _, b1⟩ := DataW.trod_string Tryd.underlying9 g1
  obtain ⟨z2, e2, _, b2⟩ := DataW.trod_int Tryd.underlying26 g2
  obtain ⟨x2, rfl⟩ := u64_of_bounds (bounds_u64 b2).1 (by have := (bounds_u64 b2).2; omega)
  obtain ⟨k, rfl⟩ := str_of s
  refine ⟨⟨l, n, k, x2⟩, ?_, l0, hn, by rw [strB_size] at b1; exact b1⟩
  have a1 := at_one 33 _ e1
  have a2 := at_one 34 _ e2
  have h2 : cs = cs.take 33 ++ cs.drop 33 := (List.take_append_drop 33 cs).symm
  have h3 : cs.drop 33 = [.string (strB k), .int .u64 (nb64 x2)] := by
    apply List.ext_getElem?
    intro j
    rw [List.getElem?_drop]
    match j with
    | 0 => exact a1
    | 1 => exact a2
    | j + 2 => rw [List.getElem?_eq_none (by omega)]; rfl
  rw [List.drop_zero] at e0
  rw [h2, h3, e0]
  unfold spCells
  simp
theorem open_coin {fuel : Nat} {cs : List Value} {x : DataW H × List MemPlace} (h : DataW.trod enc Tryd.prog w base spare held fuel 30 cs = some x) : ∃ c : Tx.Co, cs = coCells c ∧ Tx.CoOk c := by
  obtain ⟨xs, m, _, _, hlen, hxl, hg⟩ := DataW.trod_struct Tryd.underlying30 h
  have hl : cs.length = 2 := hlen.trans (by kernel_rfl)
  have hx2 : xs.length = 2 := hxl
  have c1 : Tryd.prog.cellsOf 3 = 1 := by kernel_rfl
  have c2 : Tryd.prog.cellsOf 26 = 1 := by kernel_rfl
  have g0 : DataW.trod enc Tryd.prog w base spare held m 3 ((cs.drop 0).take (Tryd.prog.cellsOf 3)) = xs[0]? := hg 0 _ rfl
  have g1 : DataW.trod enc Tryd.prog w base spare held m 26 ((cs.drop 1).take (Tryd.prog.cellsOf 26)) = xs[1]? := hg 1 _ rfl
  rw [List.getElem?_eq_getElem (by omega)] at g0 g1
  rw [c1] at g0
  rw [c2] at g1
  obtain ⟨z0, e0, _, b0⟩ := DataW.trod_int Tryd.underlying3 g0
  obtain ⟨z1, e1, _, b1⟩ := DataW.trod_int Tryd.underlying26 g1
  obtain ⟨x1, rfl⟩ := u64_of_bounds (bounds_u64 b1).1 (by have := (bounds_u64 b1).2; omega)
  have k0 := bounds_i64 b0
  refine ⟨⟨z0, x1⟩, ?_, by show _ ∧ _; dsimp only; omega⟩
  have a0 := at_one 0 _ e0
  have a1 := at_one 1 _ e1
  apply List.ext_getElem?
  intro j
  match j with
  | 0 => exact a0
  | 1 => exact a1
  | j + 2 => rw [List.getElem?_eq_none (by omega)]; rfl
end
/-- a transaction as a value: where its spends and coins lie -/
abbrev txv (a : Option Addr) (n q : Nat) (b : Option Addr) (m r : Nat) (f : Bool) : Value := .agg #[.slice a n q, .slice b m r, .bool f]
/-- what can be read there -/
structure TxAt (w : World) (a : Option Addr) (n q : Nat) (b : Option Addr) (m r : Nat) (t : Tx.T) : Prop where
  sp : Recs spRec w a n t.sp
  co : Recs coRec w b m t.co
  nq : n ≤ q
  mr : m ≤ r
  q0 : a = none → q = 0
  r0 : b = none → r = 0
section
variable {w w' : World} {a b : Option Addr} {n q m r : Nat} {t : Tx.T}
theorem TxAt.below (h : TxAt w a n q b m r t) (hb : Below w.heap.size w w') : TxAt w' a n q b m r t := ⟨h.sp.below hb, h.co.below hb, h.nq, h.mr, h.q0, h.r0⟩
theorem TxAt.past (h : TxAt w a n q b m r t) (o : Obj) : TxAt (w.alloc o) a n q b m r t := ⟨h.sp.past o, h.co.past o, h.nq, h.mr, h.q0, h.r0⟩
theorem TxAt.draw (h : TxAt w a n q b m r t) : TxAt w.drew a n q b m r t := ⟨h.sp.draw, h.co.draw, h.nq, h.mr, h.q0, h.r0⟩
end
section
variable {H : Type} {enc : TypeId × Value → H} {W : World} {base : Nat} {v : Value} {d : DataW H} {p : List MemPlace}
set_option maxRecDepth 100000 in
theorem arg_tx (o : Value.okWide Tryd.prog W .any base 38 v) (h : DataW.Trod enc Tryd.prog W 0 (fun _ => true) true 38 v d p) :
    ∃ (a : Option Addr) (n q : Nat) (b : Option Addr) (m r : Nat) (t : Tx.T), v = txv a n q b m r t.firm ∧ TxAt W a n q b m r t := by
  obtain ⟨cs, rfl, hl, hf⟩ := arg_fields Tryd.underlying38 (by kernel_rfl) (by kernel_rfl) o h
  match cs, hl with
  | [c0, c1, c2], _ =>
    obtain ⟨n0, y0, t0⟩ := hf 0 _ c0 rfl rfl
    obtain ⟨n1, y1, t1⟩ := hf 1 _ c1 rfl rfl
    obtain ⟨n2, y2, t2⟩ := hf 2 _ c2 rfl rfl
    obtain ⟨a, n, q, L, rfl, hL, hnq, hq0⟩ := open_recs (R := spRec) Tryd.underlying35 (by kernel_rfl) open_spend t0
    obtain ⟨b, m, r, M, rfl, hM, hmr, hr0⟩ := open_recs (R := coRec) Tryd.underlying36 (by kernel_rfl) open_coin t1
    obtain ⟨f, hc, _⟩ := DataW.trod_bool Tryd.underlying4 t2
    obtain ⟨rfl, _⟩ := List.cons.inj hc
    exact ⟨a, n, q, b, m, r, ⟨L, M, f⟩, rfl, hL, hM, hnq, hmr, hq0, hr0⟩
end
end Go.Proofs.YtcedecljbgailaaDoor
