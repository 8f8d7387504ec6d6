/- spends and coins read, in new memory; lists of transactions; what is large · Acts and lists of transactions, as arguments of the laws of coins · Maps of points to coins as what is looked up (pure). Nothing of the program. · amounts and fee-rates, pure · Worth of a map of points to coins; what is done and taken back (pure). Nothing of the program. · a drawn region, taken by hand: what is held may grow on the way · a drawn region by hand: what is held is all but some blocks; stores of whole rows. Nothing of the program. -/
import Derived.Test.YtdfplenniamnoaaGreatDoorJ03
import Derived.Lib.Hide
import Derived.IntWalk
import Derived.BigQuiet
import Derived.Deep.QuietTactic
import Derived.OpenShut
import Derived.ProofKit
import Derived.Deep.Cut
import Derived.Deep.RegionHeld3
import Derived.Test.YtdfplenniamnoaaGreatDoorJ01
import Derived.Deep.MidRow
/-! spends and coins read, in new memory; lists of transactions; what is large -/
namespace Go.Proofs.YtdfplenniamnoaaGreatDoor
open Go Go.RowKit Go.ChangeShapes Go.WideShapes
/-- a new spend, a new coin, a new transaction -/
abbrev zSp : Array Value := #[.int .u8 0, .int .u8 0, .int .u8 0, .int .u8 0, .int .u8 0, .int .u8 0, .int .u8 0, .int .u8 0, .int .u8 0, .int .u8 0, .int .u8 0, .int .u8 0, .int .u8 0, .int .u8 0, .int .u8 0, .int .u8 0, .int .u8 0, .int .u8 0, .int .u8 0, .int .u8 0, .int .u8 0, .int .u8 0, .int .u8 0, .int .u8 0, .int .u8 0, .int .u8 0, .int .u8 0, .int .u8 0, .int .u8 0, .int .u8 0, .int .u8 0, .int .u8 0, .int .i64 0, .string ⟨#[]⟩, .int .u64 0]
abbrev zCo : Array Value := #[.int .i64 0, .int .u64 0]
abbrev zTx : Array Value := #[.slice none 0 0, .slice none 0 0, .bool false]
theorem info_spend : (Tryz.prog.info? 110).map (fun i => (i.zero, i.size, i.bytes)) = some (some (.agg zSp), spRec.k, 64) := by kernel_rfl
theorem info_coin : (Tryz.prog.info? 39).map (fun i => (i.zero, i.size, i.bytes)) = some (some (.agg zCo), coRec.k, 16) := by kernel_rfl
theorem size_spend : (Tryz.prog.info? 110).map (·.size) = some spRec.k := by kernel_rfl
theorem size_coin : (Tryz.prog.info? 39).map (·.size) = some coRec.k := by kernel_rfl
section
variable {w : World} {a : Option Addr} {n i : Nat}
theorem spends_load {L : List Tx.Sp} {s : Tx.Sp} (h : Recs spRec w a n L) (hi : L[i]? = some s) :
    ∃ x, a = some x ∧ (Instr.loadAt 110 (.pointer (some (x.add (i * 35))))).run Tryz.prog w = .ok (.agg (spCells s).toArray) w :=
  h.load Tryz.underlying110 rfl size_spend hi
end
section
variable {w : World} {g : Nat} {T : TypeId} {s : Tx.Sp}
theorem spCells_at {j : Nat} (h : s.h.length = 32) : (spCells s)[32 + j]? = ([.int .i64 s.n, .string (strB s.key), .int .u64 (nb64 s.sl)] : List Value)[j]? := by
  unfold spCells
  rw [List.getElem?_append_right (by rw [blist_length, h]; omega), blist_length, h, Nat.add_sub_cancel_left]
theorem Has.spN (h : Has w g T (spCells s).toArray) (hl : s.h.length = 32) : w.cell? ⟨g, 32, none⟩ = some (.int .i64 s.n) := h.cell_at (by rw [List.getElem?_toArray, show (32 : Nat) = 32 + 0 from rfl, spCells_at hl]; rfl)
theorem Has.spKey (h : Has w g T (spCells s).toArray) (hl : s.h.length = 32) : w.cell? ⟨g, 33, none⟩ = some (.string (strB s.key)) := h.cell_at (by rw [List.getElem?_toArray, show (33 : Nat) = 32 + 1 from rfl, spCells_at hl]; rfl)
theorem Has.spSeal (h : Has w g T (spCells s).toArray) (hl : s.h.length = 32) : w.cell? ⟨g, 34, none⟩ = some (.int .u64 (nb64 s.sl)) := h.cell_at (by rw [List.getElem?_toArray, show (34 : Nat) = 32 + 2 from rfl, spCells_at hl]; rfl)
theorem Has.spHash (h : Has w g T (spCells s).toArray) (hl : s.h.length = 32) : (Instr.loadAt 34 (.pointer (some ⟨g, 0, none⟩))).run Tryz.prog w = .ok (.agg (blist s.h).toArray) w :=
  run_load_bytes (P := Tryz.prog) Tryz.underlying34 (by kernel_rfl) hl fun j hj => by
    rw [Addr.add_mid, Nat.zero_add]
    refine h.cell_at ?_
    rw [List.getElem?_toArray]
    unfold spCells
    rw [List.getElem?_append_left (by rw [blist_length]; omega)]
    exact blist_at s.h j (by omega)
end
/-- a transaction with the places where it lies -/
structure Tx.V where
  a : Option Addr
  n : Nat
  q : Nat
  b : Option Addr
  m : Nat
  r : Nat
  t : Tx.T
def vCells (x : Tx.V) : List Value := [.slice x.a x.n x.q, .slice x.b x.m x.r, .bool x.t.firm]
def vRec : Rec Tx.V where
  k := 3
  cells := vCells
  ok := fun _ => True
  pos := by omega
  len t _ := rfl
  one t v hv := by
    simp [vCells] at hv
    rcases hv with rfl | rfl | rfl <;> rfl
abbrev Tx.V.At (w : World) (x : Tx.V) : Prop := TxAt w x.a x.n x.q x.b x.m x.r x.t
/-- a slice of transactions -/
def Txs (w : World) (a : Option Addr) (n : Nat) (L : List Tx.V) : Prop := Recs vRec w a n L ∧ ∀ x, x ∈ L → x.At w
theorem Txs.below {w w' : World} {a : Option Addr} {n : Nat} {L : List Tx.V} (h : Txs w a n L) (hb : Below w.heap.size w w') : Txs w' a n L := ⟨h.1.below hb, fun x hx => (h.2 x hx).below hb⟩
theorem size_tx : (Tryz.prog.info? 26).map (·.size) = some vRec.k := by kernel_rfl
theorem Txs.load {w : World} {x : Option Addr} {k i n q m r : Nat} {L : List Tx.V} {a b : Option Addr} {t : Tx.T} (h : Txs w x k L) (hi : L[i]? = some ⟨a, n, q, b, m, r, t⟩) :
    ∃ y, x = some y ∧ (Instr.loadAt 26 (.pointer (some (y.add (i * 3))))).run Tryz.prog w = .ok (txv a n q b m r t.firm) w ∧ TxAt w a n q b m r t := by
  obtain ⟨y, e, hx⟩ := h.1.load Tryz.underlying26 rfl size_tx hi
  exact ⟨y, e, hx, h.2 _ (List.mem_of_getElem? hi)⟩
/-- few spends and coins, of short keys -/
def Tx.Small (t : Tx.T) : Prop := t.sp.length ≤ 30 ∧ t.co.length ≤ 30 ∧ ∀ s, s ∈ t.sp → s.key.length ≤ 5000
def LargePost (L : List Tx.V) (w0 : World) (e : Ending) (w' : World) : Prop := ∃ b, e = .returned (.bool b) ∧ (b = false → L.length ≤ 61 ∧ ∀ x, x ∈ L → Tx.Small x.t) ∧ Below w0.heap.size w0 w'
set_option maxRecDepth 100000 in
set_option maxHeartbeats 4000000 in
theorem large_any (a : Option Addr) (n c : Nat) (L : List Tx.V) (w : World) (h : Txs w a n L) :
    Calls Tryz.prog 10 #[.slice a n c] w (LargePost L w) := by
  have HH := Lib.hid h
  have hmx : n ≤ 9223372036854775807 := h.1.2.1
  clear h
  go_enter Tryz.func10, Tryz.ntmps10
  go_wp2
  go_loopw [3, 10] (fun sv iv wr => ∃ (i s : Nat), i ≤ n ∧ i ≤ 61 ∧ s ≤ 300000 * i ∧ iv = .int .i64 i ∧ sv = .int .i64 s ∧ RowKit.Hid (s ≤ 5000 → ∀ (j : Nat) (x : Tx.V), j < i → L[j]? = some x → Tx.Small x.t) ∧ Below w.heap.size w wr) (fun _ iv _ => n - (intOf iv).toNat)
  case atStart => exact ⟨0, 0, Nat.zero_le _, by omega, by omega, rfl, rfl, Lib.hid (fun _ j t hj => by omega), Below.refl _ _⟩
  case round =>
    obtain ⟨i, s, hi, hi61, hs3, rfl, rfl, HA, hb⟩ := hrel
    by_cases hlt : i < n
    · have hii : (i : Int) < (n : Int) := by omega
      have hL := HH.out.1.1
      obtain ⟨⟨a, tn, q, b, tm, r, t⟩, ht⟩ : ∃ t, L[i]? = some t := ⟨_, List.getElem?_eq_getElem (by omega)⟩
      obtain ⟨x, rfl, hx, hat⟩ := (HH.out.below hb).load ht
      have HAT := Lib.hid hat
      have HT := Lib.hid ht
      have hmn : tn ≤ 9223372036854775807 := hat.sp.2.1
      clear hat ht hL
      go_upto_region 5 with (first
        | (refine wpList_load_run rfl 26 (.tmp 13) rfl _ _ rfl hx ?_))
      obtain ⟨w5, hw5⟩ : ∃ x, x = wr.alloc (.cells #[.slice a tn q, .slice b tm r, .bool t.firm] 26) := ⟨_, rfl⟩
      have hF : Has w5 wr.heap.size 26 #[.slice a tn q, .slice b tm r, .bool t.firm] := by rw [hw5]; exact Has.fresh _ _ _
      have hb5 : Below wr.heap.size wr w5 := by rw [hw5]; exact (Below.refl _ _).alloc (Nat.le_refl _) _
      rw [← hw5]
      clear hw5 hx
      obtain ⟨gF, hgF⟩ : ∃ g, g = wr.heap.size := ⟨_, rfl⟩
      rw [← hgF] at hF ⊢
      have hB5 := hb.trans (hb5.mono hb.size)
      have HAT5 := Lib.hid (HAT.out.below hb5)
      clear hb5 HAT hgF hb
      have f0 : w5.cell? ⟨gF, 0, none⟩ = some (.slice a tn q) := hF.cell_at rfl
      have f1 : w5.cell? ⟨gF, 1, none⟩ = some (.slice b tm r) := hF.cell_at rfl
      clear hF
      by_cases h60 : (60 : Int) < (i : Int)
      · go_wp2
        go_ret
        exact ⟨_, rfl, (fun e => by cases e), hB5⟩
      · by_cases h30 : (30 : Int) < (tn : Int)
        · go_wp2
          go_ret
          exact ⟨_, rfl, (fun e => by cases e), hB5⟩
        · by_cases h31 : (30 : Int) < (tm : Int)
          · go_wp2
            go_ret
            exact ⟨_, rfl, (fun e => by cases e), hB5⟩
          · go_wp2
            go_loopw [3, 32] (fun sv kv wi => ∃ (k z : Nat), k ≤ tn ∧ z ≤ s + 10000 * k ∧ kv = .int .i64 k ∧ sv = .int .i64 z ∧ RowKit.Hid (z ≤ 5000 → s ≤ 5000 ∧ ∀ (j : Nat) (u : Tx.Sp), j < k → t.sp[j]? = some u → u.key.length ≤ 5000) ∧ Below w5.heap.size w5 wi) (fun _ kv _ => tn - (intOf kv).toNat)
            case atStart => exact ⟨0, s, Nat.zero_le _, by omega, rfl, rfl, Lib.hid (fun e => ⟨e, fun j t hj => by omega⟩), Below.refl _ _⟩
            case round =>
              obtain ⟨k, z, hk, hz, rfl, rfl, HK, hbi⟩ := hrel
              by_cases hkt : k < tn
              · have hki : (k : Int) < (tn : Int) := by omega
                have hL := HAT5.out.sp.1
                obtain ⟨u, hu⟩ : ∃ u, t.sp[k]? = some u := ⟨_, List.getElem?_eq_getElem (by omega)⟩
                have hok := HAT5.out.sp.okay hu
                obtain ⟨y, rfl, hy⟩ := spends_load (HAT5.out.sp.below hbi) hu
                have HOK := Lib.hid hok
                have HU := Lib.hid hu
                clear hok hu hL
                go_upto_region 10 with (first
                  | (refine wpList_store_mid rfl 110 (.tmp 7) (.tmp 35) rfl wr.heap.size 0 (spCells u).toArray rfl rfl (spRec.there _ _ rfl HOK.out) (spRec.size_eq size_spend HOK.out) (spRec.all_one u) ?_)
                  | (refine wpList_load_run rfl 110 (.tmp 34) rfl _ _ rfl hy ?_))
                obtain ⟨w9, hw9⟩ : ∃ x, x = (wr.alloc (.cells zSp 110)).setCells wr.heap.size 0 (spCells u) := ⟨_, rfl⟩
                obtain ⟨hth, hb9⟩ := Rec.new (R := spRec) rfl HOK.out hw9
                rw [← hw9]
                clear hw9 hy
                have c3 := Has.spKey hth HOK.out.1
                have hB9 := hbi.trans (hb9.mono hbi.size)
                have hsz := strB_size u.key
                obtain ⟨m, hm⟩ : ∃ m, m = u.key.length := ⟨_, rfl⟩
                rw [← hm] at hsz
                have hmm : m ≤ 9223372036854775807 := by have := HOK.out.2.2; unfold maxLen at this; omega
                have HM := Lib.hid hm
                obtain ⟨e, he⟩ : ∃ e, e = Nat.min m 10000 := ⟨_, rfl⟩
                have he1 : e ≤ 10000 := by rw [he]; exact Nat.min_le_right _ _
                have HE := Lib.hid (show e ≤ 5000 → m ≤ 5000 by rw [he]; unfold Nat.min; omega)
                have hmn2 : ∀ w, (Builtin.min_ #[3, 3] 3 #[.int .i64 (m : Int), .int .i64 10000]).run Tryz.prog w = .ok (.int .i64 (e : Int)) w := fun w => by
                  rw [run_min_int2, he]
                  congr 2
                  split <;> (show _ = ((min m 10000 : Nat) : Int)) <;> omega
                clear hm he hth
                have hz61 : z ≤ 19000000 := by omega
                go_wp2
                go_roundw
                case rel =>
                  exact ⟨k + 1, z + e, by omega, by omega, by go_num, by go_num, Lib.hid (fun h5 => ⟨(HK.out (by omega)).1, fun j v hj hv => by
                    rcases Nat.lt_or_ge j k with h | h
                    · exact (HK.out (by omega)).2 j v h hv
                    · have e2 : j = k := by omega
                      subst e2
                      rw [HU.out] at hv
                      injection hv with hv
                      subst hv
                      have := HE.out (by omega)
                      have := HM.out
                      omega⟩), hB9⟩
                case measure => (simp [intOf]; try omega)
              · have hki : ¬ (k : Int) < (tn : Int) := by omega
                have hki2 : k = tn := by omega
                go_wp2
                go_roundw
                case rel =>
                  exact ⟨i + 1, z, by omega, by omega, by omega, by go_num, rfl, Lib.hid (fun h5 j v hj hv => by
                    rcases Nat.lt_or_ge j i with h | h
                    · exact HA.out (HK.out h5).1 j v h hv
                    · have e2 : j = i := by omega
                      subst e2
                      rw [HT.out] at hv
                      injection hv with hv
                      subst hv
                      have l1 := HAT5.out.sp.1
                      have l2 := HAT5.out.co.1
                      refine ⟨by show t.sp.length ≤ 30; omega, by show t.co.length ≤ 30; omega, fun u hu => ?_⟩
                      obtain ⟨j, hj⟩ := List.mem_iff_getElem?.1 hu
                      exact (HK.out h5).2 j u (by have h9 : j < t.sp.length := (List.getElem?_eq_some_iff.1 hj).1; rw [l1] at h9; omega) hj), hB5.trans (hbi.mono hB5.size)⟩
                case measure => (simp [intOf]; try omega)
    · have hii : ¬ (i : Int) < (n : Int) := by omega
      have hin : i = n := by omega
      have hl := HH.out.1.1
      have HF := Lib.hid (show s ≤ 5000 → L.length ≤ 61 ∧ ∀ x, x ∈ L → Tx.Small x.t from fun h5 => ⟨by omega, fun x hx => by
        obtain ⟨j, hj⟩ := List.mem_iff_getElem?.1 hx
        exact HA.out h5 j x (by have := (List.getElem?_eq_some_iff.1 hj).1; omega) hj⟩)
      go_wp2
      go_ret
      exact ⟨_, rfl, (fun e => HF.out (by simp at e; omega)), hb⟩
end Go.Proofs.YtdfplenniamnoaaGreatDoor

/-! Acts and lists of transactions, as arguments of the laws of coins -/
namespace Go.Proofs.YtdfplenniamnoaaGreatDoor
open Go Go.RowKit Go.ChangeShapes Go.WideShapes
section
variable {H : Type} {enc : TypeId × Value → H} {W : World}
set_option maxRecDepth 100000 in
theorem open_txv {fuel : Nat} {cs : List Value} {x : DataW H × List MemPlace} (h : DataW.trod enc Tryz.prog W 0 (fun _ => true) true fuel 26 cs = some x) : ∃ v : Tx.V, cs = vCells v ∧ v.At W := by
  obtain ⟨xs, k, _, _, hlen, hxl, hg⟩ := DataW.trod_struct Tryz.underlying26 h
  have hl : cs.length = 3 := hlen.trans (by kernel_rfl)
  have hx3 : xs.length = 3 := hxl
  have c0 : Tryz.prog.cellsOf 23 = 1 := by kernel_rfl
  have c1 : Tryz.prog.cellsOf 24 = 1 := by kernel_rfl
  have c2 : Tryz.prog.cellsOf 4 = 1 := by kernel_rfl
  have g0 : DataW.trod enc Tryz.prog W 0 (fun _ => true) true k 23 ((cs.drop 0).take (Tryz.prog.cellsOf 23)) = xs[0]? := hg 0 _ rfl
  have g1 : DataW.trod enc Tryz.prog W 0 (fun _ => true) true k 24 ((cs.drop 1).take (Tryz.prog.cellsOf 24)) = xs[1]? := hg 1 _ rfl
  have g2 : DataW.trod enc Tryz.prog W 0 (fun _ => true) true k 4 ((cs.drop 2).take (Tryz.prog.cellsOf 4)) = xs[2]? := hg 2 _ rfl
  rw [List.getElem?_eq_getElem (by omega)] at g0 g1 g2
  rw [c0] at g0
  rw [c1] at g1
  rw [c2] at g2
  match cs, hl with
  | [d0, d1, d2], _ =>
    have t0 : DataW.trod enc Tryz.prog W 0 (fun _ => true) true k 23 [d0] = some _ := g0
    have t1 : DataW.trod enc Tryz.prog W 0 (fun _ => true) true k 24 [d1] = some _ := g1
    have t2 : DataW.trod enc Tryz.prog W 0 (fun _ => true) true k 4 [d2] = some _ := g2
    obtain ⟨a, n, q, L, rfl, hL, hnq, hq0⟩ := open_recs (R := spRec) Tryz.underlying23 (by kernel_rfl) open_spend t0
    obtain ⟨b, m, r, M, rfl, hM, hmr, hr0⟩ := open_recs (R := coRec) Tryz.underlying24 (by kernel_rfl) open_coin t1
    obtain ⟨f, hc, _⟩ := DataW.trod_bool Tryz.underlying4 t2
    obtain ⟨rfl, _⟩ := List.cons.inj hc
    exact ⟨⟨a, n, q, b, m, r, ⟨L, M, f⟩⟩, rfl, hL, hM, hnq, hmr, hq0, hr0⟩
/-- a transaction as a record of W -/
def vIn (W : World) : Rec Tx.V where
  k := 3
  cells := vCells
  ok := fun x => x.At W
  pos := by omega
  len t _ := rfl
  one := vRec.one
theorem Recs.txs {w : World} {a : Option Addr} {n : Nat} {L : List Tx.V} (h : Recs (vIn W) w a n L) (hb : Below W.heap.size W w) : Txs w a n L := ⟨⟨h.1, h.2.1, (fun _ _ => trivial), h.2.2.2⟩, fun x hx => (h.2.2.1 x hx).below hb⟩
end
namespace Cs
/-- an act -/
structure Ac where
  kind : Int
  p : Pt
  c : Tx.Co
  v : Tx.V
  sa : Option Addr
  sn : Nat
  sq : Nat
  sp : List Tx.Co
end Cs
structure Cs.Ac.At (W : World) (x : Cs.Ac) : Prop where
  kind : -9223372036854775808 ≤ x.kind ∧ x.kind < 9223372036854775808
  pt : Cs.ptOk x.p
  co : Tx.CoOk x.c
  tx : x.v.At W
  sp : Recs coRec W x.sa x.sn x.sp
  sq : x.sn ≤ x.sq ∧ (x.sa = none → x.sq = 0)
section
variable {H : Type} {enc : TypeId × Value → H} {W : World}
end
section
variable {H : Type} {enc : TypeId × Value → H} {W : World} {base : Nat} {v : Value} {d : DataW H} {p : List MemPlace}
set_option maxRecDepth 100000 in
theorem arg_txs (o : Value.okWide Tryz.prog W .any base 77 v) (h : DataW.Trod enc Tryz.prog W 0 (fun _ => true) true 77 v d p) :
    ∃ (a : Option Addr) (n c : Nat) (L : List Tx.V), v = .slice a n c ∧ Recs (vIn W) W a n L ∧ n ≤ c ∧ (a = none → c = 0) := by
  obtain ⟨a, n, c, rfl⟩ := okWide_slice Tryz.underlying77 o
  obtain ⟨fuel, hf⟩ := h
  obtain ⟨a', n', c', L, e, hL, hnc, h0⟩ := open_recs (R := vIn W) Tryz.underlying77 (by kernel_rfl) open_txv hf
  have e2 : Value.slice a n c = Value.slice a' n' c' := by
    have e3 : (Value.slice a n c).cells.toList = [Value.slice a n c] := rfl
    first
      | exact e
      | (rw [e3] at e; exact (List.cons.inj e).1)
  injection e2 with e4 e5 e6
  subst e4
  subst e5
  subst e6
  exact ⟨a, n, c, L, rfl, hL, hnc, h0⟩
end
end Go.Proofs.YtdfplenniamnoaaGreatDoor

/-! Maps of points to coins as what is looked up (pure). Nothing of the program. -/
namespace Go.Proofs.YtdfplenniamnoaaGreatDoor
open Go Go.RowKit
namespace Cs
abbrev Mp := List (Pt × Tx.Co)
def Keys (M : Mp) : Prop := (M.map (·.1)).Nodup
theorem keys_at {M : Mp} (h : Keys M) {i j : Nat} {x y : Pt × Tx.Co} (hx : M[i]? = some x) (hy : M[j]? = some y) (e : x.1 = y.1) : i = j := by
  have h3 := (List.getElem?_eq_some_iff.1 hx).1
  exact (List.getElem?_inj (l := M.map Prod.fst) (by rw [List.length_map]; exact h3) h).1 (by rw [List.getElem?_map, List.getElem?_map, hx, hy, Option.map_some, Option.map_some, e])
theorem nodup_of_keys {M : Mp} (h : Keys M) : M.Nodup := (List.pairwise_map.1 h).imp (fun h e => h (congrArg (·.1) e))
theorem Keys.one {M : Mp} (h : Keys M) {x y : Pt × Tx.Co} (hx : x ∈ M) (hy : y ∈ M) (e : x.1 = y.1) : x = y := by
  obtain ⟨i, hi⟩ := List.mem_iff_getElem?.1 hx
  obtain ⟨j, hj⟩ := List.mem_iff_getElem?.1 hy
  obtain rfl := keys_at h hi hj e
  rw [hi] at hj
  injection hj
theorem look_some {M : Mp} (h : Keys M) {p : Pt} {c : Tx.Co} : look M p = some c ↔ (p, c) ∈ M := by
  unfold look
  constructor
  · intro e
    obtain ⟨r, hr, rfl⟩ := Option.map_eq_some_iff.1 e
    exact List.mem_of_getElem? (idx_at hr)
  · intro hm
    cases hi : idx p M with
    | none => exact absurd rfl (idx_none.1 hi _ hm)
    | some r =>
      have h2 := List.mem_of_getElem? (idx_at hi)
      have h3 := h.one hm h2 rfl
      have h4 : c = r.2 := congrArg Prod.snd h3
      show some r.2 = some c
      rw [h4]
theorem look_none {M : Mp} {p : Pt} : look M p = none ↔ ∀ x, x ∈ M → x.1 ≠ p := by
  unfold look
  rw [Option.map_eq_none_iff]
  exact idx_none
theorem mem_put {M : Mp} (h : Keys M) {p : Pt} {c : Tx.Co} {x : Pt × Tx.Co} : x ∈ put M p c ↔ x = (p, c) ∨ (x ∈ M ∧ x.1 ≠ p) := by
  unfold put
  cases hi : idx p M with
  | none =>
    have hn := idx_none.1 hi
    show x ∈ M ++ [(p, c)] ↔ _
    rw [List.mem_append, List.mem_singleton]
    exact ⟨fun e => e.elim (fun e => .inr ⟨e, hn x e⟩) .inl, fun e => e.elim .inr (fun e => .inl e.1)⟩
  | some r =>
    have h2 := idx_at hi
    obtain ⟨h3, h4⟩ := List.getElem?_eq_some_iff.1 h2
    show x ∈ M.set r.1 (p, c) ↔ _
    constructor
    · intro hx
      obtain ⟨j, hj⟩ := List.mem_iff_getElem?.1 hx
      rw [List.getElem?_set] at hj
      split at hj
      · try rw [if_pos h3] at hj
        injection hj with hj
        exact .inl hj.symm
      · rename_i hne
        exact .inr ⟨List.mem_of_getElem? hj, fun e => hne (keys_at h h2 hj e.symm)⟩
    · rintro (rfl | ⟨hx, hne⟩)
      · exact List.mem_iff_getElem?.2 ⟨r.1, by rw [List.getElem?_set_self h3]⟩
      · obtain ⟨j, hj⟩ := List.mem_iff_getElem?.1 hx
        refine List.mem_iff_getElem?.2 ⟨j, ?_⟩
        rw [List.getElem?_set_ne (fun e => hne ?_)]
        · exact hj
        · subst e
          rw [h2] at hj
          injection hj with hj
          rw [← hj]
theorem mem_del {M : Mp} (h : Keys M) {p : Pt} {x : Pt × Tx.Co} : x ∈ del M p ↔ x ∈ M ∧ x.1 ≠ p := by
  unfold del
  cases hi : idx p M with
  | none =>
    have hn := idx_none.1 hi
    show x ∈ M ↔ _
    exact ⟨fun e => ⟨e, hn x e⟩, fun e => e.1⟩
  | some r =>
    have h2 := idx_at hi
    obtain ⟨h3, h4⟩ := List.getElem?_eq_some_iff.1 h2
    show x ∈ M.eraseIdx r.1 ↔ _
    rw [List.mem_eraseIdx_iff_getElem?]
    constructor
    · rintro ⟨j, hne, hj⟩
      exact ⟨List.mem_of_getElem? hj, fun e => hne (keys_at h hj h2 e)⟩
    · rintro ⟨hx, hne⟩
      obtain ⟨j, hj⟩ := List.mem_iff_getElem?.1 hx
      refine ⟨j, fun e => hne ?_, hj⟩
      subst e
      rw [h2] at hj
      injection hj with hj
      rw [← hj]
theorem del_keys {M : Mp} (h : Keys M) (p : Pt) : Keys (del M p) := by
  unfold del Keys
  cases idx p M with
  | none => exact h
  | some r => exact List.Nodup.sublist ((List.eraseIdx_sublist _ _).map _) h
theorem look_put {M : Mp} (h : Keys M) (p : Pt) (c : Tx.Co) (q : Pt) : look (put M p c) q = if q = p then some c else look M q := by
  have hk : Keys (put M p c) := put_keys h
  by_cases e : q = p
  · rw [if_pos e, look_some hk, mem_put h]
    exact .inl (by rw [e])
  · rw [if_neg e]
    cases hl : look M q with
    | none =>
      rw [look_none] at hl ⊢
      intro x hx
      rcases (mem_put h).1 hx with rfl | ⟨h1, _⟩
      · exact fun e2 => e e2.symm
      · exact hl x h1
    | some d =>
      rw [look_some hk, mem_put h]
      exact .inr ⟨(look_some h).1 hl, e⟩
theorem look_del {M : Mp} (h : Keys M) (p q : Pt) : look (del M p) q = if q = p then none else look M q := by
  have hk : Keys (del M p) := del_keys h p
  by_cases e : q = p
  · rw [if_pos e, look_none]
    intro x hx
    rw [e]
    exact ((mem_del h).1 hx).2
  · rw [if_neg e]
    cases hl : look M q with
    | none =>
      rw [look_none] at hl ⊢
      exact fun x hx => hl x ((mem_del h).1 hx).1
    | some d =>
      rw [look_some hk, mem_del h]
      exact ⟨(look_some h).1 hl, e⟩
/-- maps that answer alike hold the same -/
theorem perm_of_look {M N : Mp} (hM : Keys M) (hN : Keys N) (h : ∀ q, look M q = look N q) : M.Perm N := by
  refine (List.perm_ext_iff_of_nodup (nodup_of_keys hM) (nodup_of_keys hN)).2 fun x => ?_
  rw [← look_some hM (p := x.1) (c := x.2), h, look_some hN]
end Cs
end Go.Proofs.YtdfplenniamnoaaGreatDoor

/-! amounts and fee-rates, pure -/
namespace Go.Proofs.YtdfplenniamnoaaGreatDoor.Am
def Good (z : Int) : Prop := 0 ≤ z ∧ z ≤ 2100000000000000
def Right (f w : Int) : Prop := Good f ∧ 1 ≤ w ∧ w ≤ 1099511627776
instance (z : Int) : Decidable (Good z) := inferInstanceAs (Decidable (_ ∧ _))
instance (f w : Int) : Decidable (Right f w) := inferInstanceAs (Decidable (_ ∧ _))
/-- a sum; what is wrong -/
def total : List Int → Int → Int × Int
  | [], s => (s, 0)
  | z :: l, s => if Good z then (if Good (s + z) then total l (s + z) else (0, 9)) else (0, 9)
def needs (w per : Int) : Prop := 1 ≤ w ∧ w ≤ 1048576 ∧ 0 ≤ per ∧ per ≤ 1048576
instance (w per : Int) : Decidable (needs w per) := inferInstanceAs (Decidable (_ ∧ _))
/-- the fee that a weight needs -/
def need (w per : Int) : Int := (w * per + 999) / 1000
end Go.Proofs.YtdfplenniamnoaaGreatDoor.Am

/-! Worth of a map of points to coins; what is done and taken back (pure). Nothing of the program. -/
namespace Go.Proofs.YtdfplenniamnoaaGreatDoor
open Go Go.RowKit
namespace Cs
def worth (M : Mp) : Int := (M.map (fun x => x.2.v)).sum
theorem sum_perm {l m : List Int} (h : l.Perm m) : l.sum = m.sum := by
  induction h with
  | nil => rfl
  | cons x _ ih => rw [List.sum_cons, List.sum_cons, ih]
  | swap x y l =>
    simp only [List.sum_cons]
    omega
  | trans _ _ a b => exact a.trans b
theorem worth_perm {M N : Mp} (h : M.Perm N) : worth M = worth N := sum_perm (h.map _)
theorem worth_put {M : Mp} {p : Pt} {c : Tx.Co} (h : look M p = none) : worth (put M p c) = worth M + c.v := by
  unfold look at h
  rw [Option.map_eq_none_iff] at h
  unfold put worth
  rw [h]
  show ((M ++ [(p, c)]).map _).sum = _
  rw [List.map_append, List.sum_append]
  simp
theorem sum_erase : ∀ (l : List Int) (i : Nat) (z : Int), l[i]? = some z → (l.eraseIdx i).sum + z = l.sum
  | [], i, z, h => by simp at h
  | x :: l, 0, z, h => by
    obtain rfl : x = z := by simpa using h
    simp [Int.add_comm]
  | x :: l, i + 1, z, h => by
    have ih := sum_erase l i z (by simpa using h)
    simp only [List.eraseIdx_cons_succ, List.sum_cons]
    omega
theorem worth_del {M : Mp} {p : Pt} {c : Tx.Co} (h : look M p = some c) : worth (del M p) + c.v = worth M := by
  unfold look at h
  obtain ⟨r, hr, rfl⟩ := Option.map_eq_some_iff.1 h
  unfold del worth
  rw [hr]
  show ((M.eraseIdx r.1).map _).sum + _ = _
  rw [ChangeMaps.map_eraseIdx]
  exact sum_erase _ _ _ (by rw [List.getElem?_map, idx_at hr]; rfl)
/-- the total of amounts, in whatever order -/
theorem total_good : ∀ (l : List Int) (s : Int), (∀ z, z ∈ l → Am.Good z) → Am.Good s → Am.total l s = if Am.Good (s + l.sum) then (s + l.sum, 0) else (0, 9)
  | [], s, _, hs => by
    rw [List.sum_nil, Int.add_zero, if_pos hs]
    rfl
  | z :: l, s, h, hs => by
    have hz := h z List.mem_cons_self
    have hl : 0 ≤ l.sum := by
      have : ∀ (m : List Int), (∀ z, z ∈ m → Am.Good z) → 0 ≤ m.sum := fun m => by
        induction m with
        | nil => intro _; simp
        | cons y m ih =>
          intro hm
          have h1 := ih (fun z hz => hm z (List.mem_cons_of_mem _ hz))
          have h2 := (hm y List.mem_cons_self).1
          rw [List.sum_cons]
          omega
      exact this l (fun z hz => h z (List.mem_cons_of_mem _ hz))
    unfold Am.total
    rw [if_pos hz, List.sum_cons, ← Int.add_assoc]
    by_cases hg : Am.Good (s + z)
    · rw [if_pos hg]
      exact total_good l (s + z) (fun z hz => h z (List.mem_cons_of_mem _ hz)) hg
    · rw [if_neg hg, if_neg]
      intro h3
      refine hg ⟨?_, ?_⟩
      · have := hs.1
        have := hz.1
        omega
      · have := h3.2
        omega
/-- a transaction's own coins, by their points -/
def own (id : List (BitVec 8)) (co : List Tx.Co) (q : Pt) : Option Tx.Co := if q.1 = id ∧ 0 ≤ q.2 then co[q.2.toNat]? else none
def pt (s : Tx.Sp) : Pt := (s.h, s.n)
/-- N is M when t was applied -/
def IsDo (M N : Mp) (id : List (BitVec 8)) (t : Tx.T) : Prop := ∀ q, look N q = match own id t.co q with
  | some c => some c
  | none => if q ∈ t.sp.map pt then none else look M q
/-- .. when it was taken back -/
def IsBack (M N : Mp) (id : List (BitVec 8)) (t : Tx.T) (spent : List Tx.Co) : Prop := ∀ q, look N q = match ((t.sp.map pt).zip spent).reverse.find? (fun x => decide (x.1 = q)) with
  | some x => some x.2
  | none => if (own id t.co q).isSome then none else look M q
theorem back_do {M N K L : Mp} {id : List (BitVec 8)} {t : Tx.T} {spent : List Tx.Co} (hd : IsDo M N id t) (he : ∀ q, look K q = look N q) (hb : IsBack K L id t spent)
    (hs : ∀ x, x ∈ (t.sp.map pt).zip spent → look M x.1 = some x.2) (hl : spent.length = t.sp.length) (ho : ∀ q, (own id t.co q).isSome = true → look M q = none) : ∀ q, look L q = look M q := by
  intro q
  rw [hb q]
  cases hf : ((t.sp.map pt).zip spent).reverse.find? (fun x => decide (x.1 = q)) with
  | some x =>
    have h1 := List.mem_of_find?_eq_some hf
    have h2 : x.1 = q := by simpa using List.find?_some hf
    rw [List.mem_reverse] at h1
    show some x.2 = _
    rw [← hs x h1, h2]
  | none =>
    have hn : ¬ q ∈ t.sp.map pt := by
      intro hm
      obtain ⟨i, hi⟩ := List.mem_iff_getElem?.1 hm
      have hlt : i < spent.length := by
        have := (List.getElem?_eq_some_iff.1 hi).1
        rw [List.length_map] at this
        omega
      have h3 : (q, spent[i]) ∈ (t.sp.map pt).zip spent := by
        refine List.mem_iff_getElem?.2 ⟨i, ?_⟩
        rw [List.getElem?_zip_eq_some]
        exact ⟨hi, List.getElem?_eq_getElem hlt⟩
      have h4 := List.find?_eq_none.1 hf (q, spent[i]) (List.mem_reverse.2 h3)
      simp at h4
    show (if (own id t.co q).isSome then none else look K q) = _
    by_cases hw : (own id t.co q).isSome = true
    · rw [if_pos hw, ho q hw]
    · rw [if_neg hw, he q, hd q]
      cases ho2 : own id t.co q with
      | some c => rw [ho2] at hw; exact absurd rfl hw
      | none =>
        show (if q ∈ t.sp.map pt then none else look M q) = _
        rw [if_neg hn]
end Cs
end Go.Proofs.YtdfplenniamnoaaGreatDoor

/-! a drawn region, taken by hand: what is held may grow on the way -/
namespace Go.Proofs.YtdfplenniamnoaaGreatDoor
open Go Go.RowKit Go.ChangeShapes Go.WideShapes
theorem wpAnyH_mono {P : Program} {ops : Array Oper} {Q : Exit → Act → World → Prop} {md : Region.Mode} {S S' : World → Prop} (hSS : ∀ w, S' w → S w) : ∀ {fuel : Nat} {listed : Array Bool} {a : Act} {w : World}, wpAnyH P md ops Q S' fuel listed a w → wpAnyH P md ops Q S fuel listed a w
  | 0, _, _, _, h => h
  | _ + 1, _, _, _, h => And.intro h.1 (fun i hi => wpOp_mono (fun _ _ g => And.intro (hSS _ g.1) (wpAnyH_mono hSS g.2)) (h.2 i hi))
/-- what is held: all that lies in w -/
def Held (w0 : World) (w : World) : Prop := Below w0.heap.size w0 w
theorem Held.refl (w : World) : Held w w := Below.refl _ _
theorem Held.trans {w0 w1 w2 : World} (h : Held w0 w1) (g : Held w1 w2) : Held w0 w2 := Below.trans h (Below.mono g h.size)
theorem Held.below {w0 w1 : World} (h : Held w0 w1) : Below w0.heap.size w0 w1 := h
theorem Held.of {w0 w1 : World} (h : Below w0.heap.size w0 w1) : Held w0 w1 := h
theorem held_grow {P : Program} {ops : Array Oper} {Q : Exit → Act → World → Prop} {md : Region.Mode} {w0 w1 : World} (h : Held w0 w1) {fuel : Nat} {listed : Array Bool} {a : Act} {w : World} (g : wpAnyH P md ops Q (Held w1) fuel listed a w) : wpAnyH P md ops Q (Held w0) fuel listed a w :=
  wpAnyH_mono (fun _ k => h.trans k) g
theorem put_dst {l l2 : List Value} {ds : List _} {d : Nat} {v : Value} (hl : l.set d v = l2) : ((⟨l.toArray, ds⟩ : Act).put (some d) v) = ⟨l2.toArray, ds⟩ := by
  subst hl
  simp [Act.put]
/-- one that yields whatever came up before: the slot d written out -/
theorem take_at {P : Program} {ops : Array Oper} {Q : Exit → Act → World → Prop} {md : Region.Mode} {S : World → Prop} {oi : Oper} {v : Value} {fuel : Nat} {listed : Array Bool} {l l2 : List Value} {ds : List _} {w : World} (i d : Nat) (hi : ops[i]? = some oi) (hd : oi.dst = some d)
    (hs : Region.noSelect ops = true) (hf : Region.free md ops listed i = true) (hr : (Region.ready md ops listed).contains i = true)
    (hQ : ∀ c a w, Q (.panic c) (a.put oi.dst v) w → Q (.panic c) a w) (hS : S w) (hy : YieldsIf P ops S oi v ⟨l.toArray, ds⟩) (hl : l.set d v = l2)
    (h : wpAnyH P md ops Q S fuel (listed.setIfInBounds i true) ⟨l2.toArray, ds⟩ w) : wpAnyH P md ops Q S (fuel + 1) listed ⟨l.toArray, ds⟩ w :=
  wpAnyH_take hi hs hf hr hQ hy hS (by rw [hd, put_dst hl]; exact h)
end Go.Proofs.YtdfplenniamnoaaGreatDoor

/-! a drawn region by hand: what is held is all but some blocks; stores of whole rows. Nothing of the program. -/
namespace Go.Proofs.YtdfplenniamnoaaGreatDoor
open Go Go.RowKit
def HeldM (F : Nat → Prop) (w0 w : World) : Prop := Moved F w0 w
theorem HeldM.refl (F : Nat → Prop) (w : World) : HeldM F w w := Moved.refl F w
theorem HeldM.out {F : Nat → Prop} {w0 w : World} (h : HeldM F w0 w) : Moved F w0 w := h
theorem HeldM.of {F : Nat → Prop} {w0 w : World} (h : Moved F w0 w) : HeldM F w0 w := h
theorem heldM_grow {P : Program} {ops : Array Oper} {Q : Exit → Act → World → Prop} {md : Region.Mode} {F : Nat → Prop} {w0 w1 : World} (h : Moved F w0 w1) {fuel : Nat} {listed : Array Bool} {a : Act} {w : World} (g : wpAnyH P md ops Q (HeldM F w1) fuel listed a w) : wpAnyH P md ops Q (HeldM F w0) fuel listed a w :=
  wpAnyH_mono (fun _ k => h.trans k (fun _ e => .inl e)) g
theorem step_store_row {P : Program} {w : World} {ops : Array Oper} {o : Oper} {a : Act} {K : Act → World → Prop} {Q : Exit → Act → World → Prop} {E : Prop} (hwt : Region.wanted o (yielded ops a.tmps) = true) (ty : TypeId) (x y : Operand) (ho : o.op = .store ty x y)
    (b off : Nat) (cells : Array Value) (hx : a.eval x = .pointer (some ⟨b, off, none⟩)) (hy : a.eval y = .agg cells) (ht : w.there b off cells.size) (hi : (P.info? ty).map (·.size) = some cells.size) (h1 : cells.all (·.oneCell') = true) (hd : o.dst = none)
    (h : K a (w.setCells b off cells.toList)) : if Region.wanted o (yielded ops a.tmps) = true then Oper.wp P o a w K Q else E := by
  rw [if_pos hwt]
  exact wp_store_mid ty x y ho b off cells hx hy ht hi h1 (by rw [hd]; exact h)
theorem yieldsIf_load_agg {P : Program} {ops : Array Oper} {S : World → Prop} {op : Oper} {a : Act} (hw : Region.wanted op (yielded ops a.tmps) = true) (ty : TypeId) (x : Operand) (ho : op.op = .load ty x)
    (p v : Value) (hx : a.eval x = p) (hr : ∀ w, S w → (Instr.loadAt ty p).run P w = .ok v w) : YieldsIf P ops S op v a :=
  .inl ⟨hw, fun w hSw => by
    unfold execOp
    simp only [ho, hx, Sem.run_bind, Sem.run_pure, Result.andThen_ok, hr w hSw]⟩
end Go.Proofs.YtdfplenniamnoaaGreatDoor
