/- what TxWitness is given; the calls of package tx that the chapter's example needs -/
import Derived.Test.YtpbijcchdjppmaaDoorTxI
import Derived.Test.YtpbijcchdjppmaaDoorTxJ
namespace Go.Proofs.YtpbijcchdjppmaaDoor
open Go Go.RowKit Go.ChangeShapes Go.WideShapes
theorem txA : TxA where
  check := fun a n q b m r t w ht hs => pcheck_any a n q b m r t t.firm w ht (by have := hs.2.1; have := ht.co.1; omega)
  base := fun a n q b m r t w ht hs => (pbase_any a n q b m r t t.firm rfl w ht hs).mono (fun e w' h => by
      obtain ⟨v, rfl, ho, hb⟩ := h
      obtain ⟨x, c, rfl, hc, h0, hB⟩ := ho.shape rfl
      exact ⟨x, _, c, rfl, hB, hc, h0, hb⟩)
  bytes := fun a n q b m r t w ht hs => (pbytes_any a n q b m r t t.firm rfl w ht hs).mono (fun e w' h => by
      obtain ⟨v, rfl, ho, hb⟩ := h
      obtain ⟨x, c, rfl, hc, h0, hB⟩ := ho.shape rfl
      exact ⟨x, _, c, rfl, hB, hc, h0, hb⟩)
  weight := fun a n q b m r t w ht hs => pweight_any a n q b m r t t.firm rfl w ht hs
section
variable {H : Type} {enc : TypeId × Value → H} {W : World} {base : Nat} {v : Value} {d : DataW H} {p : List MemPlace}
set_option maxRecDepth 100000 in
theorem open_tx {fuel : Nat} {cs : List Value} {x : DataW H × List MemPlace} (h : DataW.trod enc Tryd.prog W 0 (fun _ => true) true fuel 25 cs = some x) :
    ∃ (a : Option Addr) (n q : Nat) (b : Option Addr) (m r : Nat) (t : Tx.T), cs = [.slice a n q, .slice b m r, .bool t.firm] ∧ TxAt W a n q b m r t := by
  obtain ⟨xs, k, _, _, hlen, hxl, hg⟩ := DataW.trod_struct Tryd.underlying25 h
  have hl : cs.length = 3 := hlen.trans (by kernel_rfl)
  have hx3 : xs.length = 3 := hxl
  have c0 : Tryd.prog.cellsOf 22 = 1 := by kernel_rfl
  have c1 : Tryd.prog.cellsOf 23 = 1 := by kernel_rfl
  have c2 : Tryd.prog.cellsOf 4 = 1 := by kernel_rfl
  have g0 : DataW.trod enc Tryd.prog W 0 (fun _ => true) true k 22 ((cs.drop 0).take (Tryd.prog.cellsOf 22)) = xs[0]? := hg 0 _ rfl
  have g1 : DataW.trod enc Tryd.prog W 0 (fun _ => true) true k 23 ((cs.drop 1).take (Tryd.prog.cellsOf 23)) = xs[1]? := hg 1 _ rfl
  have g2 : DataW.trod enc Tryd.prog W 0 (fun _ => true) true k 4 ((cs.drop 2).take (Tryd.prog.cellsOf 4)) = xs[2]? := hg 2 _ rfl
  rw [List.getElem?_eq_getElem (by omega)] at g0 g1 g2
  rw [c0] at g0
  rw [c1] at g1
  rw [c2] at g2
  match cs, hl with
  | [d0, d1, d2], _ =>
    have t0 : DataW.trod enc Tryd.prog W 0 (fun _ => true) true k 22 [d0] = some _ := g0
    have t1 : DataW.trod enc Tryd.prog W 0 (fun _ => true) true k 23 [d1] = some _ := g1
    have t2 : DataW.trod enc Tryd.prog W 0 (fun _ => true) true k 4 [d2] = some _ := g2
    obtain ⟨a, n, q, L, rfl, hL, hnq, hq0⟩ := open_recs (R := spRec) Tryd.underlying22 (by kernel_rfl) open_spend t0
    obtain ⟨b, m, r, M, rfl, hM, hmr, hr0⟩ := open_recs (R := coRec) Tryd.underlying23 (by kernel_rfl) open_coin t1
    obtain ⟨f, hc, _⟩ := DataW.trod_bool Tryd.underlying4 t2
    obtain ⟨rfl, _⟩ := List.cons.inj hc
    exact ⟨a, n, q, b, m, r, ⟨L, M, f⟩, rfl, hL, hM, hnq, hmr, hq0, hr0⟩
set_option maxRecDepth 100000 in
theorem arg_other (o : Value.okWide Tryd.prog W .any base 46 v) (h : DataW.Trod enc Tryd.prog W 0 (fun _ => true) true 46 v d p) :
    ∃ (a : Option Addr) (n q : Nat) (b : Option Addr) (m r : Nat) (t : Tx.T) (z : Int) (key : List (BitVec 8)) (sl : BitVec 64), v = .agg #[.slice a n q, .slice b m r, .bool t.firm, .int .i64 z, .string (strB key), .int .u64 (nb64 sl)] ∧ TxAt W a n q b m r t ∧ (-9223372036854775808 ≤ z ∧ z < 9223372036854775808) ∧ key.length ≤ maxLen := by
  obtain ⟨cs, rfl, hsz⟩ := okWide_struct Tryd.underlying46 o
  obtain ⟨fuel, hf⟩ := h
  obtain ⟨xs, k, _, _, _, hlen, hg⟩ := DataW.trod_struct Tryd.underlying46 hf
  have hl : cs.toList.length = 6 := by rw [Array.length_toList, hsz]; kernel_rfl
  have hx4 : xs.length = 4 := hlen
  have c0 : Tryd.prog.cellsOf 25 = 3 := by kernel_rfl
  have c1 : Tryd.prog.cellsOf 3 = 1 := by kernel_rfl
  have c2 : Tryd.prog.cellsOf 9 = 1 := by kernel_rfl
  have c3 : Tryd.prog.cellsOf 44 = 1 := by kernel_rfl
  have g0 : DataW.trod enc Tryd.prog W 0 (fun _ => true) true k 25 ((cs.toList.drop 0).take (Tryd.prog.cellsOf 25)) = xs[0]? := hg 0 _ rfl
  have g1 : DataW.trod enc Tryd.prog W 0 (fun _ => true) true k 3 ((cs.toList.drop 3).take (Tryd.prog.cellsOf 3)) = xs[1]? := hg 1 _ rfl
  have g2 : DataW.trod enc Tryd.prog W 0 (fun _ => true) true k 9 ((cs.toList.drop 4).take (Tryd.prog.cellsOf 9)) = xs[2]? := hg 2 _ rfl
  have g3 : DataW.trod enc Tryd.prog W 0 (fun _ => true) true k 44 ((cs.toList.drop 5).take (Tryd.prog.cellsOf 44)) = xs[3]? := hg 3 _ rfl
  rw [List.getElem?_eq_getElem (by omega)] at g0 g1 g2 g3
  rw [c0] at g0
  rw [c1] at g1
  rw [c2] at g2
  rw [c3] at g3
  obtain ⟨L, hL⟩ : ∃ L, L = cs.toList := ⟨_, rfl⟩
  have hcs : cs = L.toArray := by rw [hL]
  rw [← hL] at hl g0 g1 g2 g3
  subst hcs
  clear hL hf hg o hsz
  match L, hl with
  | [d0, d1, d2, d3, d4, d5], _ =>
    have t0 : DataW.trod enc Tryd.prog W 0 (fun _ => true) true k 25 [d0, d1, d2] = some _ := g0
    have t1 : DataW.trod enc Tryd.prog W 0 (fun _ => true) true k 3 [d3] = some _ := g1
    have t2 : DataW.trod enc Tryd.prog W 0 (fun _ => true) true k 9 [d4] = some _ := g2
    have t3 : DataW.trod enc Tryd.prog W 0 (fun _ => true) true k 44 [d5] = some _ := g3
    obtain ⟨a, n, q, b, m, r, t, e0, hT⟩ := open_tx t0
    obtain ⟨z, e1, hz⟩ := field_int Tryd.underlying3 t1
    obtain ⟨s, e2, _, hs⟩ := DataW.trod_string Tryd.underlying9 t2
    obtain ⟨sl, e3⟩ := field_u64 Tryd.underlying44 t3
    obtain ⟨key, rfl⟩ := str_of s
    rw [strB_size] at hs
    obtain ⟨rfl, f0⟩ := List.cons.inj e0
    obtain ⟨rfl, f1⟩ := List.cons.inj f0
    obtain ⟨rfl, _⟩ := List.cons.inj f1
    obtain ⟨rfl, _⟩ := List.cons.inj e2
    exact ⟨a, n, q, b, m, r, t, z, key, sl, by rw [e1, e3], hT, hz, hs⟩
end
/-- the transaction that stands first in a block -/
theorem oth_tx {w : World} {g : Nat} {T : TypeId} {c0 c1 c2 c3 c4 c5 : Value} (h : Has w g T #[c0, c1, c2, c3, c4, c5]) : (Instr.loadAt 25 (.pointer (some ⟨g, 0, none⟩))).run Tryd.prog w = .ok (.agg #[c0, c1, c2]) w := by
  have h1 := run_loadCells_list (P := Tryd.prog) w ⟨g, 0, none⟩ [c0, c1, c2] (fun j v hj => by
    rw [Addr.add_mid, Nat.zero_add]
    refine h.cell_at ?_
    match j, hj with
    | 0, hj => exact hj
    | 1, hj => exact hj
    | 2, hj => exact hj)
  have hsz : (Tryd.prog.info? 25).map (·.size) = some 3 := by kernel_rfl
  cases hq : Tryd.prog.info? 25 with
  | none => simp [hq] at hsz
  | some inf =>
    have hz : inf.size = 3 := by simpa [hq] using hsz
    have hagg : (isAgg 25).run Tryd.prog w = .ok true w := by
      unfold isAgg
      rw [Sem.run_bind, run_underlying Tryd.underlying25 w]
      rfl
    have h1' : (loadCells ⟨g, 0, none⟩ 3).run Tryd.prog w = .ok #[c0, c1, c2] w := h1
    simp [Instr.loadAt, Instr.sureAddr, loadVar, Sem.run_bind, hagg, sizeOf, typeInfo, hq, hz, h1']
end Go.Proofs.YtpbijcchdjppmaaDoor
