/- Acts and lists of transactions, as arguments of the laws of coins -/
import Derived.Test.YtagjolbpmhbifaaGreatDoorCsz
import Derived.Test.YtagjolbpmhbifaaGreatDoorTxz
namespace Go.Proofs.YtagjolbpmhbifaaGreatDoor
open Go Go.RowKit Go.ChangeShapes Go.WideShapes
section
variable {H : Type} {enc : TypeId × Value → H} {W : World}
set_option maxRecDepth 100000 in
theorem open_txv {fuel : Nat} {cs : List Value} {x : DataW H × List MemPlace} (h : DataW.trod enc Tryz.prog W 0 (fun _ => true) true fuel 39 cs = some x) : ∃ v : Tx.V, cs = vCells v ∧ v.At W := by
  obtain ⟨xs, k, _, _, hlen, hxl, hg⟩ := DataW.trod_struct Tryz.underlying39 h
  have hl : cs.length = 3 := hlen.trans (by kernel_rfl)
  have hx3 : xs.length = 3 := hxl
  have c0 : Tryz.prog.cellsOf 36 = 1 := by kernel_rfl
  have c1 : Tryz.prog.cellsOf 37 = 1 := by kernel_rfl
  have c2 : Tryz.prog.cellsOf 4 = 1 := by kernel_rfl
  have g0 : DataW.trod enc Tryz.prog W 0 (fun _ => true) true k 36 ((cs.drop 0).take (Tryz.prog.cellsOf 36)) = xs[0]? := hg 0 _ rfl
  have g1 : DataW.trod enc Tryz.prog W 0 (fun _ => true) true k 37 ((cs.drop 1).take (Tryz.prog.cellsOf 37)) = xs[1]? := hg 1 _ rfl
  have g2 : DataW.trod enc Tryz.prog W 0 (fun _ => true) true k 4 ((cs.drop 2).take (Tryz.prog.cellsOf 4)) = xs[2]? := hg 2 _ rfl
  rw [List.getElem?_eq_getElem (by omega)] at g0 g1 g2
  rw [c0] at g0
  rw [c1] at g1
  rw [c2] at g2
  match cs, hl with
  | [d0, d1, d2], _ =>
    have t0 : DataW.trod enc Tryz.prog W 0 (fun _ => true) true k 36 [d0] = some _ := g0
    have t1 : DataW.trod enc Tryz.prog W 0 (fun _ => true) true k 37 [d1] = some _ := g1
    have t2 : DataW.trod enc Tryz.prog W 0 (fun _ => true) true k 4 [d2] = some _ := g2
    obtain ⟨a, n, q, L, rfl, hL, hnq, hq0⟩ := open_recs (R := spRec) Tryz.underlying36 (by kernel_rfl) open_spend t0
    obtain ⟨b, m, r, M, rfl, hM, hmr, hr0⟩ := open_recs (R := coRec) Tryz.underlying37 (by kernel_rfl) open_coin t1
    obtain ⟨f, hc, _⟩ := DataW.trod_bool Tryz.underlying4 t2
    obtain ⟨rfl, _⟩ := List.cons.inj hc
    exact ⟨⟨a, n, q, b, m, r, ⟨L, M, f⟩⟩, rfl, hL, hM, hnq, hmr, hq0, hr0⟩
/-- a transaction as a record of W -/
def vIn (W : World) : Rec Tx.V where
  k := 3
  cells := vCells
  ok := fun x => x.At W
  pos := by omega
  len t _ := rfl
  one := vRec.one
theorem Recs.txs {w : World} {a : Option Addr} {n : Nat} {L : List Tx.V} (h : Recs (vIn W) w a n L) (hb : Below W.heap.size W w) : Txs w a n L := ⟨⟨h.1, h.2.1, (fun _ _ => trivial), h.2.2.2⟩, fun x hx => (h.2.2.1 x hx).below hb⟩
end
namespace Cs
/-- an act -/
structure Ac where
  kind : Int
  p : Pt
  c : Tx.Co
  v : Tx.V
  sa : Option Addr
  sn : Nat
  sq : Nat
  sp : List Tx.Co
end Cs
def acCells (x : Cs.Ac) : List Value := [.int .i64 x.kind] ++ (ptCells x.p.1 x.p.2 ++ (coCells x.c ++ (vCells x.v ++ [.slice x.sa x.sn x.sq])))
structure Cs.Ac.At (W : World) (x : Cs.Ac) : Prop where
  kind : -9223372036854775808 ≤ x.kind ∧ x.kind < 9223372036854775808
  pt : Cs.ptOk x.p
  co : Tx.CoOk x.c
  tx : x.v.At W
  sp : Recs coRec W x.sa x.sn x.sp
  sq : x.sn ≤ x.sq ∧ (x.sa = none → x.sq = 0)
theorem Cs.Ac.At.below {w w' : World} {x : Cs.Ac} (h : x.At w) (hb : Below w.heap.size w w') : x.At w' := ⟨h.kind, h.pt, h.co, h.tx.below hb, h.sp.below hb, h.sq⟩
theorem acCells_len {x : Cs.Ac} (h : x.p.1.length = 32) : (acCells x).length = 40 := by
  unfold acCells
  rw [List.length_append, List.length_append, List.length_append, List.length_append, ptCells_len h]
  rfl
def acIn (W : World) : Rec Cs.Ac where
  k := 40
  cells := acCells
  ok := fun x => x.At W
  pos := by omega
  len t h := acCells_len h.pt.1
  one x v hv := by
    unfold acCells at hv
    rcases List.mem_append.1 hv with h | h
    · rw [List.mem_singleton.1 h]; rfl
    · rcases List.mem_append.1 h with h | h
      · rcases List.mem_append.1 h with h | h
        · exact blist_one _ v h
        · rw [List.mem_singleton.1 h]; rfl
      · rcases List.mem_append.1 h with h | h
        · exact coRec.one x.c v h
        · rcases List.mem_append.1 h with h | h
          · exact vRec.one x.v v h
          · rw [List.mem_singleton.1 h]; rfl
section
variable {H : Type} {enc : TypeId × Value → H} {W : World}
set_option maxRecDepth 100000 in
theorem open_act {fuel : Nat} {cs : List Value} {x : DataW H × List MemPlace} (h : DataW.trod enc Tryz.prog W 0 (fun _ => true) true fuel 41 cs = some x) : ∃ t : Cs.Ac, cs = acCells t ∧ t.At W := by
  obtain ⟨xs, k, _, _, hlen, hxl, hg⟩ := DataW.trod_struct Tryz.underlying41 h
  have hl : cs.length = 40 := hlen.trans (by kernel_rfl)
  have hx5 : xs.length = 5 := hxl
  have c0 : Tryz.prog.cellsOf 3 = 1 := by kernel_rfl
  have c1 : Tryz.prog.cellsOf 32 = 33 := by kernel_rfl
  have c2 : Tryz.prog.cellsOf 35 = 2 := by kernel_rfl
  have c3 : Tryz.prog.cellsOf 39 = 3 := by kernel_rfl
  have c4 : Tryz.prog.cellsOf 37 = 1 := by kernel_rfl
  have g0 : DataW.trod enc Tryz.prog W 0 (fun _ => true) true k 3 ((cs.drop 0).take (Tryz.prog.cellsOf 3)) = xs[0]? := hg 0 _ rfl
  have g1 : DataW.trod enc Tryz.prog W 0 (fun _ => true) true k 32 ((cs.drop 1).take (Tryz.prog.cellsOf 32)) = xs[1]? := hg 1 _ rfl
  have g2 : DataW.trod enc Tryz.prog W 0 (fun _ => true) true k 35 ((cs.drop 34).take (Tryz.prog.cellsOf 35)) = xs[2]? := hg 2 _ rfl
  have g3 : DataW.trod enc Tryz.prog W 0 (fun _ => true) true k 39 ((cs.drop 36).take (Tryz.prog.cellsOf 39)) = xs[3]? := hg 3 _ rfl
  have g4 : DataW.trod enc Tryz.prog W 0 (fun _ => true) true k 37 ((cs.drop 39).take (Tryz.prog.cellsOf 37)) = xs[4]? := hg 4 _ rfl
  rw [List.getElem?_eq_getElem (by omega)] at g0 g1 g2 g3 g4
  rw [c0] at g0
  rw [c1] at g1
  rw [c2] at g2
  rw [c3] at g3
  rw [c4] at g4
  obtain ⟨z0, e0, _, b0⟩ := DataW.trod_int Tryz.underlying3 g0
  obtain ⟨l, z1, e1, l1, b1⟩ := open_point g1
  obtain ⟨c, e2, hc⟩ := open_coin g2
  obtain ⟨v, e3, hv⟩ := open_txv g3
  have h39 : ∃ d, (cs.drop 39).take 1 = [d] := ⟨cs[39]'(by omega), by rw [List.drop_eq_getElem_cons (by omega)]; rfl⟩
  obtain ⟨d, e4⟩ := h39
  rw [e4] at g4
  obtain ⟨sa, sn, sq, S, rfl, hS, hq, hq0⟩ := open_recs (R := coRec) Tryz.underlying37 (by kernel_rfl) open_coin g4
  have k0 := bounds_i64 b0
  refine ⟨⟨z0, (l, z1), c, v, sa, sn, sq, S⟩, ?_, ⟨by dsimp only; omega, ⟨l1, by dsimp only; omega⟩, hc, hv, hS, hq, hq0⟩⟩
  have s0 : cs = cs.take 1 ++ cs.drop 1 := (List.take_append_drop 1 cs).symm
  have s1 : cs.drop 1 = (cs.drop 1).take 33 ++ cs.drop 34 := by rw [← List.drop_drop (i := 33) (j := 1)]; exact (List.take_append_drop 33 _).symm
  have s2 : cs.drop 34 = (cs.drop 34).take 2 ++ cs.drop 36 := by rw [← List.drop_drop (i := 2) (j := 34)]; exact (List.take_append_drop 2 _).symm
  have s3 : cs.drop 36 = (cs.drop 36).take 3 ++ cs.drop 39 := by rw [← List.drop_drop (i := 3) (j := 36)]; exact (List.take_append_drop 3 _).symm
  have s4 : cs.drop 39 = [.slice sa sn sq] := by rw [← e4]; exact (List.take_of_length_le (by rw [List.length_drop]; omega)).symm
  rw [s0, s1, s2, s3, s4, e1, e2, e3, show cs.take 1 = [.int .i64 z0] from e0]
  rfl
end
section
variable {H : Type} {enc : TypeId × Value → H} {W : World} {base : Nat} {v : Value} {d : DataW H} {p : List MemPlace}
set_option maxRecDepth 100000 in
theorem arg_txs (o : Value.okWide Tryz.prog W .any base 23 v) (h : DataW.Trod enc Tryz.prog W 0 (fun _ => true) true 23 v d p) :
    ∃ (a : Option Addr) (n c : Nat) (L : List Tx.V), v = .slice a n c ∧ Recs (vIn W) W a n L ∧ n ≤ c ∧ (a = none → c = 0) := by
  obtain ⟨a, n, c, rfl⟩ := okWide_slice Tryz.underlying23 o
  obtain ⟨fuel, hf⟩ := h
  obtain ⟨a', n', c', L, e, hL, hnc, h0⟩ := open_recs (R := vIn W) Tryz.underlying23 (by kernel_rfl) open_txv hf
  have e2 : Value.slice a n c = Value.slice a' n' c' := by
    have e3 : (Value.slice a n c).cells.toList = [Value.slice a n c] := rfl
    first
      | exact e
      | (rw [e3] at e; exact (List.cons.inj e).1)
  injection e2 with e4 e5 e6
  subst e4
  subst e5
  subst e6
  exact ⟨a, n, c, L, rfl, hL, hnc, h0⟩
set_option maxRecDepth 100000 in
theorem arg_acts (o : Value.okWide Tryz.prog W .any base 22 v) (h : DataW.Trod enc Tryz.prog W 0 (fun _ => true) true 22 v d p) :
    ∃ (a : Option Addr) (n c : Nat) (L : List Cs.Ac), v = .slice a n c ∧ Recs (acIn W) W a n L ∧ n ≤ c ∧ (a = none → c = 0) := by
  obtain ⟨a, n, c, rfl⟩ := okWide_slice Tryz.underlying22 o
  obtain ⟨fuel, hf⟩ := h
  obtain ⟨a', n', c', L, e, hL, hnc, h0⟩ := open_recs (R := acIn W) Tryz.underlying22 (by kernel_rfl) open_act hf
  have e2 : Value.slice a n c = Value.slice a' n' c' := by
    have e3 : (Value.slice a n c).cells.toList = [Value.slice a n c] := rfl
    first
      | exact e
      | (rw [e3] at e; exact (List.cons.inj e).1)
  injection e2 with e4 e5 e6
  subst e4
  subst e5
  subst e6
  exact ⟨a, n, c, L, rfl, hL, hnc, h0⟩
end
end Go.Proofs.YtagjolbpmhbifaaGreatDoor
