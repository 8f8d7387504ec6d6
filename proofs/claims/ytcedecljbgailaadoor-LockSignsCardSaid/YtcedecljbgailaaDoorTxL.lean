/- spends and coins read, in new memory; lists of transactions; what is large -/
import Derived.Test.YtcedecljbgailaaDoorTxE
import Derived.Lib.Hide
import Derived.IntWalk
import Derived.BigQuiet
import Derived.Deep.QuietTactic
import Derived.OpenShut
import Derived.ProofKit
import Derived.Deep.Cut
import Derived.Deep.RegionHeld3
namespace Go.Proofs.YtcedecljbgailaaDoor
open Go Go.RowKit Go.ChangeShapes Go.WideShapes
/-- a new spend, a new coin, a new transaction -/
abbrev zSp : Array Value := #[.int .u8 0, .int .u8 0, .int .u8 0, .int .u8 0, .int .u8 0, .int .u8 0, .int .u8 0, .int .u8 0, .int .u8 0, .int .u8 0, .int .u8 0, .int .u8 0, .int .u8 0, .int .u8 0, .int .u8 0, .int .u8 0, .int .u8 0, .int .u8 0, .int .u8 0, .int .u8 0, .int .u8 0, .int .u8 0, .int .u8 0, .int .u8 0, .int .u8 0, .int .u8 0, .int .u8 0, .int .u8 0, .int .u8 0, .int .u8 0, .int .u8 0, .int .u8 0, .int .i64 0, .string ⟨#[]⟩, .int .u64 0]
abbrev zCo : Array Value := #[.int .i64 0, .int .u64 0]
abbrev zTx : Array Value := #[.slice none 0 0, .slice none 0 0, .bool false]
theorem info_spend : (Tryd.prog.info? 28).map (fun i => (i.zero, i.size, i.bytes)) = some (some (.agg zSp), spRec.k, 64) := by kernel_rfl
theorem info_coin : (Tryd.prog.info? 30).map (fun i => (i.zero, i.size, i.bytes)) = some (some (.agg zCo), coRec.k, 16) := by kernel_rfl
theorem size_spend : (Tryd.prog.info? 28).map (·.size) = some spRec.k := by kernel_rfl
theorem size_coin : (Tryd.prog.info? 30).map (·.size) = some coRec.k := by kernel_rfl
section
variable {w : World} {a : Option Addr} {n i : Nat}
theorem spends_load {L : List Tx.Sp} {s : Tx.Sp} (h : Recs spRec w a n L) (hi : L[i]? = some s) :
    ∃ x, a = some x ∧ (Instr.loadAt 28 (.pointer (some (x.add (i * 35))))).run Tryd.prog w = .ok (.agg (spCells s).toArray) w :=
  h.load Tryd.underlying28 rfl size_spend hi
theorem coins_load {L : List Tx.Co} {c : Tx.Co} (h : Recs coRec w a n L) (hi : L[i]? = some c) :
    ∃ x, a = some x ∧ (Instr.loadAt 30 (.pointer (some (x.add (i * 2))))).run Tryd.prog w = .ok (.agg #[.int .i64 c.v, .int .u64 (nb64 c.lock)]) w :=
  h.load Tryd.underlying30 rfl size_coin hi
end
section
variable {w : World} {g : Nat} {T : TypeId} {s : Tx.Sp}
theorem spCells_at {j : Nat} (h : s.h.length = 32) : (spCells s)[32 + j]? = ([.int .i64 s.n, .string (strB s.key), .int .u64 (nb64 s.sl)] : List Value)[j]? := by
  unfold spCells
  rw [List.getElem?_append_right (by rw [blist_length, h]; omega), blist_length, h, Nat.add_sub_cancel_left]
theorem Has.spN (h : Has w g T (spCells s).toArray) (hl : s.h.length = 32) : w.cell? ⟨g, 32, none⟩ = some (.int .i64 s.n) := h.cell_at (by rw [List.getElem?_toArray, show (32 : Nat) = 32 + 0 from rfl, spCells_at hl]; rfl)
theorem Has.spKey (h : Has w g T (spCells s).toArray) (hl : s.h.length = 32) : w.cell? ⟨g, 33, none⟩ = some (.string (strB s.key)) := h.cell_at (by rw [List.getElem?_toArray, show (33 : Nat) = 32 + 1 from rfl, spCells_at hl]; rfl)
theorem Has.spSeal (h : Has w g T (spCells s).toArray) (hl : s.h.length = 32) : w.cell? ⟨g, 34, none⟩ = some (.int .u64 (nb64 s.sl)) := h.cell_at (by rw [List.getElem?_toArray, show (34 : Nat) = 32 + 2 from rfl, spCells_at hl]; rfl)
theorem Has.spHash (h : Has w g T (spCells s).toArray) (hl : s.h.length = 32) : (Instr.loadAt 23 (.pointer (some ⟨g, 0, none⟩))).run Tryd.prog w = .ok (.agg (blist s.h).toArray) w :=
  run_load_bytes (P := Tryd.prog) Tryd.underlying23 (by kernel_rfl) hl fun j hj => by
    rw [Addr.add_mid, Nat.zero_add]
    refine h.cell_at ?_
    rw [List.getElem?_toArray]
    unfold spCells
    rw [List.getElem?_append_left (by rw [blist_length]; omega)]
    exact blist_at s.h j (by omega)
end
/-- a transaction with the places where it lies -/
structure Tx.V where
  a : Option Addr
  n : Nat
  q : Nat
  b : Option Addr
  m : Nat
  r : Nat
  t : Tx.T
def vCells (x : Tx.V) : List Value := [.slice x.a x.n x.q, .slice x.b x.m x.r, .bool x.t.firm]
def vRec : Rec Tx.V where
  k := 3
  cells := vCells
  ok := fun _ => True
  pos := by omega
  len t _ := rfl
  one t v hv := by
    simp [vCells] at hv
    rcases hv with rfl | rfl | rfl <;> rfl
abbrev Tx.V.At (w : World) (x : Tx.V) : Prop := TxAt w x.a x.n x.q x.b x.m x.r x.t
/-- a slice of transactions -/
def Txs (w : World) (a : Option Addr) (n : Nat) (L : List Tx.V) : Prop := Recs vRec w a n L ∧ ∀ x, x ∈ L → x.At w
theorem Txs.below {w w' : World} {a : Option Addr} {n : Nat} {L : List Tx.V} (h : Txs w a n L) (hb : Below w.heap.size w w') : Txs w' a n L := ⟨h.1.below hb, fun x hx => (h.2 x hx).below hb⟩
theorem size_tx : (Tryd.prog.info? 38).map (·.size) = some vRec.k := by kernel_rfl
theorem Txs.load {w : World} {x : Option Addr} {k i n q m r : Nat} {L : List Tx.V} {a b : Option Addr} {t : Tx.T} (h : Txs w x k L) (hi : L[i]? = some ⟨a, n, q, b, m, r, t⟩) :
    ∃ y, x = some y ∧ (Instr.loadAt 38 (.pointer (some (y.add (i * 3))))).run Tryd.prog w = .ok (txv a n q b m r t.firm) w ∧ TxAt w a n q b m r t := by
  obtain ⟨y, e, hx⟩ := h.1.load Tryd.underlying38 rfl size_tx hi
  exact ⟨y, e, hx, h.2 _ (List.mem_of_getElem? hi)⟩
/-- few spends and coins, of short keys -/
def Tx.Small (t : Tx.T) : Prop := t.sp.length ≤ 30 ∧ t.co.length ≤ 30 ∧ ∀ s, s ∈ t.sp → s.key.length ≤ 5000
def LargePost (L : List Tx.V) (w0 : World) (e : Ending) (w' : World) : Prop := ∃ b, e = .returned (.bool b) ∧ (b = false → L.length ≤ 61 ∧ ∀ x, x ∈ L → Tx.Small x.t) ∧ Below w0.heap.size w0 w'
set_option maxRecDepth 100000 in
set_option maxHeartbeats 4000000 in
theorem large_any (a : Option Addr) (n c : Nat) (L : List Tx.V) (w : World) (h : Txs w a n L) :
    Calls Tryd.prog 13 #[.slice a n c] w (LargePost L w) := by
  have HH := Lib.hid h
  have hmx : n ≤ 9223372036854775807 := h.1.2.1
  clear h
  go_enter Tryd.func13, Tryd.ntmps13
  go_wp2
  go_loopw [3, 10] (fun sv iv wr => ∃ (i s : Nat), i ≤ n ∧ i ≤ 61 ∧ s ≤ 300000 * i ∧ iv = .int .i64 i ∧ sv = .int .i64 s ∧ RowKit.Hid (s ≤ 5000 → ∀ (j : Nat) (x : Tx.V), j < i → L[j]? = some x → Tx.Small x.t) ∧ Below w.heap.size w wr) (fun _ iv _ => n - (intOf iv).toNat)
  case atStart => exact ⟨0, 0, Nat.zero_le _, by omega, by omega, rfl, rfl, Lib.hid (fun _ j t hj => by omega), Below.refl _ _⟩
  case round =>
    obtain ⟨i, s, hi, hi61, hs3, rfl, rfl, HA, hb⟩ := hrel
    by_cases hlt : i < n
    · have hii : (i : Int) < (n : Int) := by omega
      have hL := HH.out.1.1
      obtain ⟨⟨a, tn, q, b, tm, r, t⟩, ht⟩ : ∃ t, L[i]? = some t := ⟨_, List.getElem?_eq_getElem (by omega)⟩
      obtain ⟨x, rfl, hx, hat⟩ := (HH.out.below hb).load ht
      have HAT := Lib.hid hat
      have HT := Lib.hid ht
      have hmn : tn ≤ 9223372036854775807 := hat.sp.2.1
      clear hat ht hL
      go_upto_region 5 with (first
        | (refine wpList_load_run rfl 38 (.tmp 13) rfl _ _ rfl hx ?_))
      obtain ⟨w5, hw5⟩ : ∃ x, x = wr.alloc (.cells #[.slice a tn q, .slice b tm r, .bool t.firm] 38) := ⟨_, rfl⟩
      have hF : Has w5 wr.heap.size 38 #[.slice a tn q, .slice b tm r, .bool t.firm] := by rw [hw5]; exact Has.fresh _ _ _
      have hb5 : Below wr.heap.size wr w5 := by rw [hw5]; exact (Below.refl _ _).alloc (Nat.le_refl _) _
      rw [← hw5]
      clear hw5 hx
      obtain ⟨gF, hgF⟩ : ∃ g, g = wr.heap.size := ⟨_, rfl⟩
      rw [← hgF] at hF ⊢
      have hB5 := hb.trans (hb5.mono hb.size)
      have HAT5 := Lib.hid (HAT.out.below hb5)
      clear hb5 HAT hgF hb
      have f0 : w5.cell? ⟨gF, 0, none⟩ = some (.slice a tn q) := hF.cell_at rfl
      have f1 : w5.cell? ⟨gF, 1, none⟩ = some (.slice b tm r) := hF.cell_at rfl
      clear hF
      by_cases h60 : (60 : Int) < (i : Int)
      · go_wp2
        go_ret
        exact ⟨_, rfl, (fun e => by cases e), hB5⟩
      · by_cases h30 : (30 : Int) < (tn : Int)
        · go_wp2
          go_ret
          exact ⟨_, rfl, (fun e => by cases e), hB5⟩
        · by_cases h31 : (30 : Int) < (tm : Int)
          · go_wp2
            go_ret
            exact ⟨_, rfl, (fun e => by cases e), hB5⟩
          · go_wp2
            go_loopw [3, 32] (fun sv kv wi => ∃ (k z : Nat), k ≤ tn ∧ z ≤ s + 10000 * k ∧ kv = .int .i64 k ∧ sv = .int .i64 z ∧ RowKit.Hid (z ≤ 5000 → s ≤ 5000 ∧ ∀ (j : Nat) (u : Tx.Sp), j < k → t.sp[j]? = some u → u.key.length ≤ 5000) ∧ Below w5.heap.size w5 wi) (fun _ kv _ => tn - (intOf kv).toNat)
            case atStart => exact ⟨0, s, Nat.zero_le _, by omega, rfl, rfl, Lib.hid (fun e => ⟨e, fun j t hj => by omega⟩), Below.refl _ _⟩
            case round =>
              obtain ⟨k, z, hk, hz, rfl, rfl, HK, hbi⟩ := hrel
              by_cases hkt : k < tn
              · have hki : (k : Int) < (tn : Int) := by omega
                have hL := HAT5.out.sp.1
                obtain ⟨u, hu⟩ : ∃ u, t.sp[k]? = some u := ⟨_, List.getElem?_eq_getElem (by omega)⟩
                have hok := HAT5.out.sp.okay hu
                obtain ⟨y, rfl, hy⟩ := spends_load (HAT5.out.sp.below hbi) hu
                have HOK := Lib.hid hok
                have HU := Lib.hid hu
                clear hok hu hL
                go_upto_region 10 with (first
                  | (refine wpList_store_mid rfl 28 (.tmp 7) (.tmp 35) rfl wr.heap.size 0 (spCells u).toArray rfl rfl (spRec.there _ _ rfl HOK.out) (spRec.size_eq size_spend HOK.out) (spRec.all_one u) ?_)
                  | (refine wpList_load_run rfl 28 (.tmp 34) rfl _ _ rfl hy ?_))
                obtain ⟨w9, hw9⟩ : ∃ x, x = (wr.alloc (.cells zSp 28)).setCells wr.heap.size 0 (spCells u) := ⟨_, rfl⟩
                obtain ⟨hth, hb9⟩ := Rec.new (R := spRec) rfl HOK.out hw9
                rw [← hw9]
                clear hw9 hy
                have c3 := Has.spKey hth HOK.out.1
                have hB9 := hbi.trans (hb9.mono hbi.size)
                have hsz := strB_size u.key
                obtain ⟨m, hm⟩ : ∃ m, m = u.key.length := ⟨_, rfl⟩
                rw [← hm] at hsz
                have hmm : m ≤ 9223372036854775807 := by have := HOK.out.2.2; unfold maxLen at this; omega
                have HM := Lib.hid hm
                obtain ⟨e, he⟩ : ∃ e, e = Nat.min m 10000 := ⟨_, rfl⟩
                have he1 : e ≤ 10000 := by rw [he]; exact Nat.min_le_right _ _
                have HE := Lib.hid (show e ≤ 5000 → m ≤ 5000 by rw [he]; unfold Nat.min; omega)
                have hmn2 : ∀ w, (Builtin.min_ #[3, 3] 3 #[.int .i64 (m : Int), .int .i64 10000]).run Tryd.prog w = .ok (.int .i64 (e : Int)) w := fun w => by
                  rw [run_min_int2, he]
                  congr 2
                  split <;> (show _ = ((min m 10000 : Nat) : Int)) <;> omega
                clear hm he hth
                have hz61 : z ≤ 19000000 := by omega
                go_wp2
                go_roundw
                case rel =>
                  exact ⟨k + 1, z + e, by omega, by omega, by go_num, by go_num, Lib.hid (fun h5 => ⟨(HK.out (by omega)).1, fun j v hj hv => by
                    rcases Nat.lt_or_ge j k with h | h
                    · exact (HK.out (by omega)).2 j v h hv
                    · have e2 : j = k := by omega
                      subst e2
                      rw [HU.out] at hv
                      injection hv with hv
                      subst hv
                      have := HE.out (by omega)
                      have := HM.out
                      omega⟩), hB9⟩
                case measure => (simp [intOf]; try omega)
              · have hki : ¬ (k : Int) < (tn : Int) := by omega
                have hki2 : k = tn := by omega
                go_wp2
                go_roundw
                case rel =>
                  exact ⟨i + 1, z, by omega, by omega, by omega, by go_num, rfl, Lib.hid (fun h5 j v hj hv => by
                    rcases Nat.lt_or_ge j i with h | h
                    · exact HA.out (HK.out h5).1 j v h hv
                    · have e2 : j = i := by omega
                      subst e2
                      rw [HT.out] at hv
                      injection hv with hv
                      subst hv
                      have l1 := HAT5.out.sp.1
                      have l2 := HAT5.out.co.1
                      refine ⟨by show t.sp.length ≤ 30; omega, by show t.co.length ≤ 30; omega, fun u hu => ?_⟩
                      obtain ⟨j, hj⟩ := List.mem_iff_getElem?.1 hu
                      exact (HK.out h5).2 j u (by have h9 : j < t.sp.length := (List.getElem?_eq_some_iff.1 hj).1; rw [l1] at h9; omega) hj), hB5.trans (hbi.mono hB5.size)⟩
                case measure => (simp [intOf]; try omega)
    · have hii : ¬ (i : Int) < (n : Int) := by omega
      have hin : i = n := by omega
      have hl := HH.out.1.1
      have HF := Lib.hid (show s ≤ 5000 → L.length ≤ 61 ∧ ∀ x, x ∈ L → Tx.Small x.t from fun h5 => ⟨by omega, fun x hx => by
        obtain ⟨j, hj⟩ := List.mem_iff_getElem?.1 hx
        exact HA.out h5 j x (by have := (List.getElem?_eq_some_iff.1 hj).1; omega) hj⟩)
      go_wp2
      go_ret
      exact ⟨_, rfl, (fun e => HF.out (by simp at e; omega)), hb⟩
end Go.Proofs.YtcedecljbgailaaDoor
