/- package digest: Tree; what the package answers · package chain: wides, ID (mkchb.py) · package chain: Contains, repeats, Check (mkchc.py) -/
import Derived.Test.YtdfplenniamnoaaGreatDoorJ20
import Derived.Test.YtdfplenniamnoaaGreatDoorJ18
import Derived.Test.YtdfplenniamnoaaGreatDoorJ08
import Derived.Test.YtdfplenniamnoaaGreatDoorJ14
import Derived.Test.YtdfplenniamnoaaGreatDoorJ09
import Derived.Test.YtdfplenniamnoaaGreatDoorJ06
import Derived.Test.YtdfplenniamnoaaGreatDoorJ07
/-! package digest: Tree; what the package answers -/
namespace Go.Proofs.YtdfplenniamnoaaGreatDoor
open Go Go.RowKit Go.ChangeShapes Go.WideShapes
set_option maxRecDepth 100000 in
set_option maxHeartbeats 4000000 in
theorem dtree_zero (a : Option Addr) (c : Nat) (w : World) :
    Calls Tryz.prog 94 #[.slice a 0 c] w fun e w' => e = .returned (.agg (blist (Dg.tree [])).toArray) ∧ Below w.heap.size w w' := by
  have hl0 : (Dg.tree []).length = 32 := rfl
  go_enter Tryz.func94, Tryz.ntmps94
  go_upto_region 1 with fail
  obtain ⟨w0, hw0⟩ : ∃ x, x = w.alloc (.cells z32 34) := ⟨_, rfl⟩
  rw [← hw0]
  have hR0 : Has w0 w.heap.size 34 z32 := by rw [hw0]; exact Has.fresh _ _ _
  have hB0 : Below w.heap.size w w0 := by rw [hw0]; exact (Below.refl _ _).alloc (Nat.le_refl _) _
  clear hw0
  have hth := hR0.there 0 (blist (Dg.tree [])).toArray.size (by rw [List.size_toArray, blist_length, hl0]; decide)
  have HT := Lib.hid (And.intro hth (And.intro (size_hash' hl0) (one_hash (Dg.tree []))))
  clear hth
  go_wp2_with (first
    | (refine wpList_store_mid rfl 34 (.tmp 2) (.tmp 6) rfl w.heap.size 0 (blist (Dg.tree [])).toArray rfl rfl HT.out.1 HT.out.2.1 HT.out.2.2 ?_))
  have hE := hR0.whole (l := Dg.tree []) (by rw [hl0]; rfl)
  exact bodyPost_ret (results_one_cell rfl _ _ w.heap.size rfl _ (run_loadVar_mid _ _ 0 34 _ _ hE.range Tryz.underlying34 rfl (size_hash hl0))) rfl ⟨rfl, below_setAll (Nat.le_refl _) _ 0 hB0⟩
set_option maxRecDepth 100000 in
set_option maxHeartbeats 4000000 in
theorem dtree_any (a : Option Addr) (n c : Nat) (L : List (List (BitVec 8))) (w : World) (hK : KDg w) (hR : Rows8 32 w a n L) (hnc : n ≤ c) (hn : n ≤ 1000) :
    Calls Tryz.prog 94 #[.slice a n c] w fun e w' => e = .returned (.agg (blist (Dg.tree L)).toArray) ∧ Below w.heap.size w w' := by
  by_cases h0 : n = 0
  · subst h0
    obtain rfl := List.length_eq_zero_iff.1 hR.1
    exact dtree_zero a c w
  · have hn1 : ¬ ((n : Int) = 0) := by omega
    have hn2 : ((n : Int) == 0) = false := by simpa using h0
    go_enter Tryz.func94, Tryz.ntmps94
    go_upto_region 1 with fail
    obtain ⟨w0, hw0⟩ : ∃ x, x = w.alloc (.cells z32 34) := ⟨_, rfl⟩
    rw [← hw0]
    have hR0 : Has w0 w.heap.size 34 z32 := by rw [hw0]; exact Has.fresh _ _ _
    have hB0 : Below w.heap.size w w0 := by rw [hw0]; exact (Below.refl _ _).alloc (Nat.le_refl _) _
    have hRW0 := hR.below hB0
    have HK := Lib.hid hK
    have H0 := Lib.hid h0
    clear hw0 hR hK h0
    go_wp2_with fail
    go_loopw [0] (fun v wr => ∃ (a' : Option Addr) (n' c' : Nat) (L' : List (List (BitVec 8))), v = .slice a' n' c' ∧ 1 ≤ n' ∧ n' ≤ 1000 ∧ n' ≤ c' ∧ Rows8 32 wr a' n' L' ∧ Hid (Dg.tree L' = Dg.tree L) ∧ Has wr w.heap.size 34 z32 ∧ Below w.heap.size w wr) (fun v _ => sliceLen v)
    case atStart => exact ⟨a, n, c, L, rfl, by have := H0.out; omega, hn, hnc, hRW0, Lib.hid rfl, hR0, hB0⟩
    case round =>
      clear hR0 hB0 hRW0 hn hnc hn1 hn2
      obtain ⟨a', n', c', L', rfl, h1, hk, hnc, hRW, HT, hRr, hB⟩ := hrel
      by_cases hlt : 1 < n'
      · have hlti : (1 : Int) < (n' : Int) := by omega
        obtain ⟨y, rfl, _⟩ := hRW.2.2.2 0 (by omega)
        have hPR := Lib.hid (paired_any y n' c' L' wr (HK.out.below hB) hRW hk hnc)
        have HN := Lib.hid (And.intro h1 (And.intro hk (And.intro hnc (And.intro hlt (show L'.length = n' from hRW.1)))))
        clear h1 hk hnc hlt hRW
        go_wp2_with (first
          | (go_at_call 136; refine hPR.out.mono ?_; rintro e w3 ⟨v3, rfl, ho3, hb3⟩))
        have hlen : (Dg.up L').length = (n' + 1) / 2 := by rw [Dg.up_len, HN.out.2.2.2.2]
        obtain ⟨a3, c3, rfl, hc3, _, hRW3⟩ := ho3.shape hlen
        have hRr3 := hRr.under hb3 hRr.lt
        go_roundw
        case rel => exact ⟨a3, (n' + 1) / 2, c3, Dg.up L', rfl, by have := HN.out; omega, by have := HN.out; omega, hc3, hRW3, Lib.hid (by rw [← Dg.tree_up (by rw [HN.out.2.2.2.2]; have := HN.out; omega)]; exact HT.out), hRr3, hB.trans (hb3.mono hB.size)⟩
        case measure =>
          have := HN.out
          simp only [sliceLen]
          omega
      · have hone : n' = 1 := by omega
        subst hone
        obtain ⟨l, rfl⟩ : ∃ l, L' = [l] := by
          match L', hRW.1 with
          | [l], _ => exact ⟨l, rfl⟩
        have hl0 : l.length = 32 := hRW.2.2.1 l (by simp)
        have HTR := Lib.hid (show Dg.tree L = l from HT.out.symm)
        obtain ⟨x, rfl, hx⟩ := hRW.load (P := Tryz.prog) Tryz.underlying34 (by kernel_rfl) (i := 0) (by omega)
        rw [Nat.zero_mul, Addr.add_zero'] at hx
        replace hx : (Instr.loadAt 34 (.pointer (some x))).run Tryz.prog wr = .ok (.agg (blist l).toArray) wr := hx
        have hth := hRr.there 0 (blist l).toArray.size (by rw [List.size_toArray, blist_length, hl0]; decide)
        have HTT := Lib.hid (And.intro hth (And.intro (size_hash' hl0) (one_hash l)))
        have HL := Lib.hid hl0
        have h11 : ¬ ((1 : Int) < 1) := by omega
        clear hth hl0 hRW hlt HT
        go_wp2_with (first
          | (refine wpList_store_mid rfl 34 (.tmp 2) (.tmp 14) rfl w.heap.size 0 (blist l).toArray rfl rfl HTT.out.1 HTT.out.2.1 HTT.out.2.2 ?_)
          | (refine wpList_load_run rfl 34 (.tmp 13) rfl _ _ rfl hx ?_))
        have hE := hRr.whole (l := l) (by rw [HL.out]; rfl)
        rw [HTR.out]
        exact bodyPost_ret (results_one_cell rfl _ _ w.heap.size rfl _ (run_loadVar_mid _ _ 0 34 _ _ hE.range Tryz.underlying34 rfl (size_hash HL.out))) rfl ⟨rfl, below_setAll (Nat.le_refl _) _ 0 hB⟩
end Go.Proofs.YtdfplenniamnoaaGreatDoor

/-! package chain: wides, ID (mkchb.py) -/
namespace Go.Proofs.YtdfplenniamnoaaGreatDoor
open Go Go.RowKit Go.ChangeShapes Go.WideShapes
theorem bk_load {w : World} {g : Nat} {b : Ch.B} (h : Has w g 79 (bkCells b).toArray) (hl : b.prev.length = 32) : (Instr.loadAt 34 (.pointer (some ⟨g, 0, none⟩))).run Tryz.prog w = .ok (.agg (blist b.prev).toArray) w :=
  has_mid h 0 (blist b.prev) (fun j v hj => by
    have h1 : j < 32 := by
      have e := (List.getElem?_eq_some_iff.1 hj).1
      rwa [blist_length, hl] at e
    rw [List.getElem?_toArray, Nat.zero_add]
    unfold bkCells
    rw [List.getElem?_append_left (by rw [blist_length, hl]; exact h1)]
    exact hj) Tryz.underlying34 rfl (by rw [blist_length, hl]; kernel_rfl)
theorem bkCells_at {b : Ch.B} {j : Nat} (hl : b.prev.length = 32) : (bkCells b)[32 + j]? = ([.int .i64 b.h, .slice b.a b.n b.q] : List Value)[j]? := by
  unfold bkCells
  rw [List.getElem?_append_right (by rw [blist_length, hl]; omega), blist_length, hl, Nat.add_sub_cancel_left]
theorem bk_h {w : World} {g : Nat} {T : TypeId} {b : Ch.B} (h : Has w g T (bkCells b).toArray) (hl : b.prev.length = 32) : w.cell? ⟨g, 32, none⟩ = some (.int .i64 b.h) := h.cell_at (by rw [List.getElem?_toArray, show (32 : Nat) = 32 + 0 from rfl, bkCells_at hl]; rfl)
theorem bk_ts {w : World} {g : Nat} {T : TypeId} {b : Ch.B} (h : Has w g T (bkCells b).toArray) (hl : b.prev.length = 32) : w.cell? ⟨g, 33, none⟩ = some (.slice b.a b.n b.q) := h.cell_at (by rw [List.getElem?_toArray, show (33 : Nat) = 32 + 1 from rfl, bkCells_at hl]; rfl)
set_option maxRecDepth 100000 in
set_option maxHeartbeats 8000000 in
theorem pwides_any (a : Option Addr) (n q : Nat) (vs : List Tx.V) (w : World) (h : Txs w a n vs) (hs : ∀ x, x ∈ vs → Tx.Small x.t) (hn : n ≤ 1000000) (hK : KDg w) :
    Calls Tryz.prog 95 #[.slice a n q] w fun e w' => ∃ v, e = .returned v ∧ OwnR haRec 34 w.heap.size w' v (Ch.wides (Ch.tsOf vs)) ∧ Below w.heap.size w w' := by
  have HH := Lib.hid h
  have HS := Lib.hid hs
  have HN := Lib.hid hn
  have HK := Lib.hid hK
  have hnmx : n ≤ 9223372036854775807 := by omega
  clear h hs hn hK
  go_enter Tryz.func95, Tryz.ntmps95
  go_upto_region 2 with fail
  have hO0 : RowKit.Hid (OwnR haRec 34 w.heap.size w (.slice none 0 0) ((Ch.wides (Ch.tsOf vs)).take 0)) := Lib.hid (OwnR.nil haRec 34 w.heap.size w)
  go_wp2
  go_loopw [3, 8] (fun sv iv wr => ∃ (i : Nat) (ov : Value), i ≤ n ∧ iv = .int .i64 i ∧ ov = sv ∧ RowKit.Hid (OwnR haRec 34 w.heap.size wr ov ((Ch.wides (Ch.tsOf vs)).take i)) ∧ Below w.heap.size w wr) (fun _ iv _ => n - (intOf iv).toNat)
  case atStart => exact ⟨0, _, Nat.zero_le _, rfl, rfl, hO0, Below.refl _ _⟩
  case round =>
    clear hO0
    obtain ⟨i, ov, hi, rfl, rfl, HO, hb⟩ := hrel
    by_cases hlt : i < n
    · have hii : (i : Int) < (n : Int) := by omega
      have hi0 : (0 : Int) ≤ (i : Int) := by omega
      have hL := HH.out.1.1
      obtain ⟨⟨ta, tn, tq, tb, tm, tr, t⟩, ht⟩ : ∃ t, vs[i]? = some t := ⟨_, List.getElem?_eq_getElem (by omega)⟩
      obtain ⟨x, rfl, hx, hat⟩ := (HH.out.below hb).load ht
      have HAT := Lib.hid hat
      have HSM := Lib.hid (show Tx.Small t from HS.out _ (List.mem_of_getElem? ht))
      have hwi : (Ch.wides (Ch.tsOf vs))[i]? = some (Tx.idOf true t) := by
        unfold Ch.wides Ch.tsOf
        rw [List.map_map, List.getElem?_map, ht]
        rfl
      have HT := Lib.hid (show (Ch.wides (Ch.tsOf vs)).take (i + 1) = (Ch.wides (Ch.tsOf vs)).take i ++ [Tx.idOf true t] by
        obtain ⟨h2, h3⟩ := List.getElem?_eq_some_iff.1 hwi
        rw [List.take_succ_eq_append_getElem h2, h3])
      have HLN := Lib.hid (show ((Ch.wides (Ch.tsOf vs)).take i).length = i by rw [List.length_take, Ch.wides_len, Ch.tsOf_len, hL]; omega)
      obtain ⟨D, hD⟩ : ∃ D, D = Tx.idOf true t := ⟨_, rfl⟩
      have HD := Lib.hid hD
      have HDL := Lib.hid (show D.length = 32 by rw [hD]; exact Tx.idOf_len _ _)
      clear ht hat hL hwi hD
      go_upto_region 5 with (first
        | (refine wpList_load_run rfl 26 (.tmp 10) rfl _ _ rfl hx ?_))
      obtain ⟨w5, hw5⟩ : ∃ x, x = wr.alloc (.cells #[.slice ta tn tq, .slice tb tm tr, .bool t.firm] 26) := ⟨_, rfl⟩
      have hF : Has w5 wr.heap.size 26 #[.slice ta tn tq, .slice tb tm tr, .bool t.firm] := by rw [hw5]; exact Has.fresh _ _ _
      have hb5 : Below wr.heap.size wr w5 := by rw [hw5]; exact (Below.refl _ _).alloc (Nat.le_refl _) _
      rw [← hw5]
      clear hw5 hx
      obtain ⟨gF, hgF⟩ : ∃ g, g = wr.heap.size := ⟨_, rfl⟩
      rw [← hgF] at hF ⊢
      have lX := hF.load_agg (P := Tryz.prog) (t := 26) Tryz.underlying26 rfl (by kernel_rfl)
      have HO5 := Lib.hid (HO.out.below hb5)
      have HAT5 := Lib.hid (HAT.out.below hb5)
      have hB5 := hb.trans (hb5.mono hb.size)
      have HK5 := Lib.hid (HK.out.below hB5)
      clear hb5 HAT hgF hF HO
      go_wp2_with (first
        | (at_builtin; refine wpList_append_recs (R := haRec) rfl (.tmp 12) (.tmp 15) 169 rfl 34 Tryz.underlying169 info_ha (by kernel_rfl) (by decide) w.heap.size ov _ rfl (hO6.below ((Below.refl _ _).alloc (Nat.le_refl _) _)) (some ⟨w6.heap.size, 0, none⟩) 1 1 [D] rfl (ha_fresh HDL.out) (fun e => by cases e) (by rw [HLN.out]; have := HN.out; omega) (by have := hB6.size; simp; omega) ?_; intro v' w7 ho' hg' hl')
        | (refine wpList_build_row rfl (.tmp 14) 169 rfl 34 Tryz.underlying169 info_ha (by decide) (by decide) (blist D).toArray (by rw [List.size_toArray, blist_length, HDL.out]; rfl) rfl ?_)
        | (go_at_call 137; refine (pwide_any ta tn tq tb tm tr t t.firm rfl w5 HAT5.out HSM.out HK5.out).mono ?_; rw [← HD.out]; rintro e w6 ⟨rfl, hb6⟩; have hO6 := HO5.out.below hb6; have hB6 := hB5.trans (hb6.mono hB5.size))
        | (refine wpList_load_run rfl 26 (.tmp 5) rfl _ _ rfl lX ?_))
      have hT7 := below_own_recs (hB6.alloc hB6.size _) hg' hO6.lt
      have HO2 := Lib.hid (show OwnR haRec 34 w.heap.size w7 v' ((Ch.wides (Ch.tsOf vs)).take (i + 1)) by rw [HT.out, ← HD.out]; exact ho')
      clear ho' hg' hl' lX hO6
      go_roundw
      case rel => exact ⟨i + 1, v', by omega, by go_num, rfl, HO2, hT7⟩
      case measure => (simp [intOf]; try omega)
    · have hii : ¬ (i : Int) < (n : Int) := by omega
      obtain rfl : i = n := by omega
      have HE := Lib.hid (show (Ch.wides (Ch.tsOf vs)).take i = Ch.wides (Ch.tsOf vs) by rw [List.take_of_length_le (by rw [Ch.wides_len, Ch.tsOf_len, HH.out.1.1]; omega)])
      go_wp2
      go_ret
      exact ⟨_, rfl, HE.out ▸ HO.out, hb⟩
set_option maxRecDepth 100000 in
set_option maxHeartbeats 8000000 in
theorem pbid_any (b : Ch.B) (w : World) (h : b.At w) (hs : ∀ x, x ∈ b.vs → Tx.Small x.t) (hn : b.n ≤ 1000) (hK : KDg w) :
    Calls Tryz.prog 40 #[.agg (bkCells b).toArray] w fun e w' => e = .returned (.agg (blist (Ch.idOf b.prev b.h (Ch.tsOf b.vs))).toArray) ∧ Below w.heap.size w w' := by
  obtain ⟨D, hD⟩ : ∃ D, D = Ch.idOf b.prev b.h (Ch.tsOf b.vs) := ⟨_, rfl⟩
  have hDl : D.length = 32 := by rw [hD]; exact Ch.idOf_len _ _ _
  obtain ⟨TR, hTR⟩ : ∃ T, T = Dg.tree (Ch.wides (Ch.tsOf b.vs)) := ⟨_, rfl⟩
  have HTL := Lib.hid (show TR.length = 32 by rw [hTR]; exact Dg.tree_len _ _ (fun x hx => by
    unfold Ch.wides at hx
    obtain ⟨t, _, rfl⟩ := List.mem_map.1 hx
    exact Tx.idOf_len _ _))
  have hD2 : D = Dg.double (([] ++ b.prev ++ Pk.num (BitVec.ofInt 64 b.h) 8) ++ TR) := by rw [hD, hTR]; rfl
  have HD := Lib.hid hD2
  have HTR := Lib.hid hTR
  rw [← hD]
  obtain ⟨W1, hW1⟩ : ∃ x, x = (w.alloc (.cells (bkCells b).toArray 79)).alloc (.cells z32 34) := ⟨_, rfl⟩
  have hBw : Below w.heap.size w W1 := by
    rw [hW1]
    exact ((Below.refl _ w).alloc (Nat.le_refl _) _).alloc (by simp) _
  have hX : Has W1 w.heap.size 79 (bkCells b).toArray := by rw [hW1]; exact (Has.fresh w _ _).past _
  have hR : Has W1 (w.heap.size + 1) 34 z32 := by rw [hW1]; exact Has.fresh_at _ _ _ (by simp)
  obtain ⟨g1, hg1⟩ : ∃ g, g = w.heap.size := ⟨_, rfl⟩
  obtain ⟨B, hB⟩ : ∃ g, g = W1.heap.size := ⟨_, rfl⟩
  have hBs : B = g1 + 2 := by rw [hB, hW1, hg1]; simp
  rw [← hg1] at hX hR
  obtain ⟨W2, hW2⟩ : ∃ x, x = W1.alloc (.cells #[.slice none 0 0] 165) := ⟨_, rfl⟩
  have hb2 : Below B W1 W2 := by rw [hW2, hB]; exact (Below.refl _ _).alloc (Nat.le_refl _) _
  have ho : OutS B W2 B (.slice none 0 0) [] := ⟨by rw [hW2, hB]; exact Has.fresh _ _ _, OwnB.nil _ _ _⟩
  have hS2 : B ≤ W2.heap.size := by rw [hB]; exact hb2.size
  have HP := Lib.hid h.p
  have HX := Lib.hid hX
  have HT := Lib.hid h.ts
  have HQ := Lib.hid h.nq
  have HS := Lib.hid hs
  have HN := Lib.hid hn
  have HK := Lib.hid hK
  have HBw := Lib.hid hBw
  have HB := Lib.hid hB
  have HBs := Lib.hid hBs
  have HW1 := Lib.hid hW1
  have HW2 := Lib.hid hW2
  have HG1 := Lib.hid hg1
  have HR := Lib.hid hR
  have HDL := Lib.hid hDl
  have HBB := Lib.hid (show w.heap.size ≤ B by omega)
  have HRB := Lib.hid (show g1 + 1 < B by omega)
  have lP := bk_load hX h.p
  have lP2 : (Instr.loadAt 34 (.pointer (some ⟨g1, 0, none⟩))).run Tryz.prog W2 = .ok (.agg (blist b.prev).toArray) W2 := bk_load (hX.under hb2 (by rw [hB]; exact hX.lt)) h.p
  clear h hs hn hK hX hR hBw hB hBs hW1 hW2 hg1 hDl hD hD2 hTR lP
  have hsz := size_hash' HDL.out
  have HO := Lib.hid (And.intro hsz (one_hash D))
  clear hsz
  go_enter Tryz.func40, Tryz.ntmps40
  go_upto_region 1 with fail
  rw [← HW1.out, ← HG1.out]
  go_upto_region 2 with fail
  rw [← HB.out, ← HW2.out]
  go_upto_region 3 with (first
    | (go_at_call 92; refine (outHash_any B B _ [] b.prev (by simp) HP.out W2 ho hS2).mono ?_; rintro e w3 ⟨⟨u_, rfl⟩, v3, ho3, hm3, hl3⟩)
    | (refine wpList_load_run rfl 34 (.tmp 4) rfl _ _ rfl lP2 ?_))
  have hb3 : Below B W1 w3 := hb2.trans (hm3.below (fun k hk => hk.elim (fun e => by omega) (fun e => ho.2.lt k e)) hS2)
  have hS3 := Nat.le_trans hS2 hm3.size
  clear ho hm3 hl3 lP2
  have hX3 := HX.out.under hb3 (by have := HX.out.lt; have := HB.out; omega)
  have c32 := bk_h hX3 HP.out
  have hw32 := int_to_u64 b.h
  clear hX3
  go_upto_region 4 with (first
    | (go_at_call 93; refine (outNum_any B B v3 ([] ++ b.prev) (BitVec.ofInt 64 b.h) 8 (by rw [List.nil_append, HP.out]; decide) w3 ho3 hS3).mono ?_; rintro e w4 ⟨⟨u_, rfl⟩, v4, ho4, hm4, hl4⟩))
  have hb4 : Below B W1 w4 := hb3.trans (hm4.below (fun k hk => hk.elim (fun e => by omega) (fun e => ho3.2.lt k e)) hS3)
  have hS4 := Nat.le_trans hS3 hm4.size
  clear ho3 hm4 hl4 c32 hw32
  have hX4 := HX.out.under hb4 (by have := HX.out.lt; have := HB.out; omega)
  have c33 := bk_ts hX4 HP.out
  clear hX4
  have hbB4 : Below w.heap.size w w4 := HBw.out.trans (hb4.mono (by have := HBs.out; have := HG1.out; omega))
  have hLe : ([] ++ b.prev ++ Pk.num (BitVec.ofInt 64 b.h) 8).length = 40 := by rw [List.nil_append, List.length_append, HP.out]; rfl
  have HLe := Lib.hid hLe
  clear hLe
  go_upto_region 5 with (first
    | (go_at_call 92; refine (outHash_any B B v4 _ TR (by rw [HLe.out]; decide) HTL.out w6 ho6 hS6).mono ?_; rintro e w7 ⟨⟨u_, rfl⟩, v7, ho7, hm7, hl7⟩)
    | (go_at_call 94; refine (dtree_any xa b.n xc _ w5 (HK.out.below (hbB4.trans (hb5.mono hbB4.size))) hrw hxc (by have := HN.out; omega)).mono ?_; rw [← HTR.out]; rintro e w6 ⟨rfl, hb6⟩; have ho6 := ho4.below (hb5.trans (hb6.mono hb5.size)); have hS6 : B ≤ w6.heap.size := Nat.le_trans hS4 (Nat.le_trans hb5.size hb6.size))
    | (go_at_call 95; refine (pwides_any b.a b.n b.q b.vs w4 (HT.out.below hbB4) HS.out (by have := HN.out; omega) (HK.out.below hbB4)).mono ?_; rintro e w5 ⟨v5, rfl, hov, hb5⟩; obtain ⟨xa, xc, rfl, hxc, _, _, hrr⟩ := hov.shape (K := b.n) (by rw [Ch.wides_len, Ch.tsOf_len, HT.out.1.1]); have hrw := hrr.rows8))
  have hb7 : Below B W1 w7 := (hb4.trans ((hb5.trans (hb6.mono hb5.size)).mono hS4)).trans (hm7.below (fun k hk => hk.elim (fun e => by omega) (fun e => ho6.2.lt k e)) hS6)
  have hS7 := Nat.le_trans hS6 hm7.size
  clear ho4 ho6 hm7 hl7 hov hrr hrw c33 hb5 hb6
  go_wp2_with (first
    | (refine wpList_store_mid rfl 34 (.tmp 2) (.tmp 18) rfl (g1 + 1) 0 (blist D).toArray rfl rfl hth HO.out.1 HO.out.2 ?_)
    | (go_at_call 96; refine hS9.mono ?_; rintro e w9 ⟨rfl, hb9⟩; have hR9 := hR8.under hb9 hR8.lt; have hth := hR9.there 0 (blist D).toArray.size (by rw [List.size_toArray, blist_length, HDL.out]; decide))
    | (go_at_call 97; refine (outBytes_any B B v7 _ (by rw [List.length_append, HLe.out, HTL.out]; decide) w7 ho7).mono ?_; rintro e w8 ⟨v8, rfl, hob, hb8x⟩; obtain ⟨x8, c8, rfl, hc8, h08, hby8⟩ := hob.shape (K := 72) (by rw [List.length_append, HLe.out, HTL.out]); have hb8 : Below B W1 w8 := hb7.trans (hb8x.mono hS7); have hT8 : Below w.heap.size w w8 := HBw.out.trans (hb8.mono HBB.out); have hT9 := hT8.alloc hT8.size (.cells #[.slice x8 72 c8] 163); have hR8 := (HR.out.under hb8 HRB.out).past (.cells #[.slice x8 72 c8] 163); have hS9 := ddouble_any (some ⟨w8.heap.size, 0, none⟩) 1 1 [_] _ (HK.out.below hT9) (parts_one (c := c8) 163 hby8 hc8 h08) (by decide) (by rw [List.flatten_singleton, List.length_append, HLe.out, HTL.out]; decide); rw [List.flatten_singleton, ← HD.out] at hS9))
  have hE := hR9.whole (l := D) (by rw [HDL.out]; rfl)
  have hS := size_hash HDL.out
  exact bodyPost_ret (results_one_cell rfl _ _ (g1 + 1) rfl _ (run_loadVar_mid _ _ 0 34 _ _ hE.range Tryz.underlying34 rfl hS)) rfl ⟨rfl, below_setAll (by have := HG1.out; omega) _ 0 (hT9.trans (hb9.mono hT9.size))⟩
end Go.Proofs.YtdfplenniamnoaaGreatDoor

/-! package chain: Contains, repeats, Check (mkchc.py) -/
namespace Go.Proofs.YtdfplenniamnoaaGreatDoor
open Go Go.RowKit Go.ChangeShapes Go.WideShapes
theorem ha_load {w : World} {x : Addr} {n i : Nat} {L : List (List (BitVec 8))} {t : List (BitVec 8)} (h : Recs haRec w (some x) n L) (hi : L[i]? = some t) : (Instr.loadAt 34 (.pointer (some (x.add (i * 32))))).run Tryz.prog w = .ok (.agg (blist t).toArray) w :=
  h.load_at Tryz.underlying34 rfl size_ha hi
set_option maxRecDepth 100000 in
set_option maxHeartbeats 8000000 in
theorem hindex_any (a : Option Addr) (n q : Nat) (L : List (List (BitVec 8))) (y : List (BitVec 8)) (hy : y.length = 32) (w : World) (h : Recs haRec w a n L) :
    Calls Tryz.prog 162 #[.slice a n q, .agg (blist y).toArray] w fun e w' => (∃ z : Int, e = .returned (.int .i64 z) ∧ (0 ≤ z ↔ y ∈ L)) ∧ Below w.heap.size w w' := by
  obtain ⟨W1, hW1⟩ : ∃ ww, ww = w.alloc (.cells (blist y).toArray 34) := ⟨_, rfl⟩
  have hB1 : Below w.heap.size w W1 := by rw [hW1]; exact (Below.refl _ _).alloc (Nat.le_refl _) _
  have hX : Has W1 w.heap.size 34 (blist y).toArray := by rw [hW1]; exact Has.fresh _ _ _
  have HH := Lib.hid h
  have HY := Lib.hid hy
  have HW := Lib.hid hW1
  have HX := Lib.hid hX
  have hnmx : n ≤ 9223372036854775807 := h.2.1
  have HNN := Lib.hid h.1
  clear h hy hW1 hX
  go_enter Tryz.func162, Tryz.ntmps162
  go_upto_region 1 with fail
  rw [← HW.out]
  go_wp2
  go_loopw [8] (fun iv wr => ∃ (i : Nat), i ≤ n ∧ iv = .int .i64 i ∧ RowKit.Hid (∀ (j : Nat) (u : List (BitVec 8)), j < i → L[j]? = some u → ¬ u = y) ∧ Below W1.heap.size W1 wr ∧ Below w.heap.size w wr) (fun iv _ => n - (intOf iv).toNat)
  case atStart => exact ⟨0, Nat.zero_le _, rfl, Lib.hid (fun j u hj => by omega), Below.refl _ _, hB1⟩
  case round =>
    obtain ⟨i, hi, rfl, HN, hb1, hb⟩ := hrel
    by_cases hlt : i < n
    · have hii : (i : Int) < (n : Int) := by omega
      have hi0 : (0 : Int) ≤ (i : Int) := by omega
      obtain ⟨u, ht⟩ := HH.out.get hlt
      obtain ⟨x, rfl, _⟩ := HH.out.2.2.2 i u ht
      have HU := Lib.hid (show u.length = 32 from HH.out.okay ht)
      obtain ⟨d, hd⟩ : ∃ d, d = decide (y = u) := ⟨_, rfl⟩
      have HD := Lib.hid hd
      clear hd
      go_upto_region 4 with fail
      obtain ⟨ws, hws⟩ : ∃ ww, ww = wr.drew := ⟨_, rfl⟩
      have hBs : Below w.heap.size w ws := by rw [hws]; exact hb.drew
      have hbs : Below wr.heap.size wr ws := by rw [hws]; exact (Below.refl _ _).drew
      have lY := fun (wq : World) (hSw : Held ws wq) => ((HX.out.under (hb1.trans (hbs.mono hb1.size)) HX.out.lt).under hSw.below (Nat.lt_of_lt_of_le HX.out.lt (hb1.trans (hbs.mono hb1.size)).size)).load_agg (P := Tryz.prog) (t := 34) Tryz.underlying34 rfl (size_hash HY.out)
      have lU := fun (wq : World) (hSw : Held ws wq) => ha_load ((HH.out.below hBs).below hSw.below) ht
      refine wp_region_held_drew (S := Held ws) (by kernel_rfl) (by rw [hws]; exact Held.refl _) (fun hHeld => ?_)
      rw [← hws] at hHeld ⊢
      clear hws
      refine take_at 0 11 rfl rfl (by kernel_rfl) (by kernel_rfl) (by kernel_rfl) (fun _ _ _ h => h) hHeld (yieldsIf_load_agg (by rfl) 34 (.tmp 3) rfl _ _ (by rfl) (fun wq hSw => lY wq hSw)) rfl ?_
      simp only [List.set_cons_zero, List.set_cons_succ]
      refine take_at (v := ?_) 1 12 rfl rfl (by kernel_rfl) (by kernel_rfl) (by kernel_rfl) (fun _ _ _ h => h) hHeld (Or.inl ⟨by rfl, ?_⟩) rfl ?_
      rotate_left
      · intro wq hSw
        go_simp
        try with_reducible rfl
      simp only [List.set_cons_zero, List.set_cons_succ]
      refine take_at (v := ?_) 2 13 rfl rfl (by kernel_rfl) (by kernel_rfl) (by kernel_rfl) (fun _ _ _ h => h) hHeld (Or.inl ⟨by rfl, ?_⟩) rfl ?_
      rotate_left
      · intro wq hSw
        go_simp
        try with_reducible rfl
      simp only [List.set_cons_zero, List.set_cons_succ]
      refine take_at (v := ?_) 3 14 rfl rfl (by kernel_rfl) (by kernel_rfl) (by kernel_rfl) (fun _ _ _ h => h) hHeld (Or.inl ⟨by rfl, ?_⟩) rfl ?_
      rotate_left
      · intro wq hSw
        go_simp
        try with_reducible rfl
      simp only [List.set_cons_zero, List.set_cons_succ]
      refine take_at 4 15 rfl rfl (by kernel_rfl) (by kernel_rfl) (by kernel_rfl) (fun _ _ _ h => h) hHeld (yieldsIf_load_agg (by rfl) 34 (.tmp 14) rfl _ _ (by rfl) (fun wq hSw => lU wq hSw)) rfl ?_
      simp only [List.set_cons_zero, List.set_cons_succ]
      refine take_at 5 16 rfl rfl (by kernel_rfl) (by kernel_rfl) (by kernel_rfl) (fun _ _ _ h => h) hHeld (yieldsIf_eql (by rfl) 34 5 34 32 (.tmp 11) (.tmp 15) rfl y u (by rfl) (by rfl) (by kernel_rfl) Tryz.underlying34 Tryz.underlying5 (by kernel_rfl) HY.out HU.out) rfl ?_
      simp only [List.set_cons_zero, List.set_cons_succ]
      refine wpAnyH_done (by kernel_rfl) ?_ _
      rw [← HD.out]
      have HT := Lib.hid ht
      clear ht lY lU hHeld
      have hB1s : Below W1.heap.size W1 ws := hb1.trans (hbs.mono hb1.size)
      cases d
      · go_wp2
        go_roundw
        case rel => exact ⟨i + 1, by omega, by go_num, Lib.hid (fun j v hj hv => by
          rcases Nat.lt_or_ge j i with h1 | h1
          · exact HN.out j v h1 hv
          · obtain rfl : j = i := by omega
            rw [HT.out] at hv
            obtain rfl := Option.some.inj hv
            exact fun e => of_decide_eq_false HD.out.symm e.symm), hB1s, hBs⟩
        case measure => (simp [intOf]; try omega)
      · go_wp2
        go_ret
        exact ⟨⟨_, rfl, ⟨fun _ => (of_decide_eq_true HD.out.symm) ▸ List.mem_of_getElem? HT.out, fun _ => hi0⟩⟩, hBs⟩
    · have hii : ¬ (i : Int) < (n : Int) := by omega
      go_wp2
      go_ret
      exact ⟨⟨_, rfl, ⟨fun h => by omega, fun hm => by
        obtain ⟨j, hj⟩ := List.mem_iff_getElem?.1 hm
        have h1 := (List.getElem?_eq_some_iff.1 hj).1
        exact absurd rfl (HN.out j y (by have := HNN.out; omega) hj)⟩⟩, hb⟩
set_option maxRecDepth 100000 in
set_option maxHeartbeats 8000000 in
theorem hcontains_any (a : Option Addr) (n q : Nat) (L : List (List (BitVec 8))) (y : List (BitVec 8)) (hy : y.length = 32) (w : World) (h : Recs haRec w a n L) :
    Calls Tryz.prog 142 #[.slice a n q, .agg (blist y).toArray] w fun e w' => e = .returned (.bool (decide (y ∈ L))) ∧ Below w.heap.size w w' := by
  obtain ⟨W1, hW1⟩ : ∃ ww, ww = w.alloc (.cells (blist y).toArray 34) := ⟨_, rfl⟩
  have hB1 : Below w.heap.size w W1 := by rw [hW1]; exact (Below.refl _ _).alloc (Nat.le_refl _) _
  have hX : Has W1 w.heap.size 34 (blist y).toArray := by rw [hW1]; exact Has.fresh _ _ _
  have lY := hX.load_agg (P := Tryz.prog) (t := 34) Tryz.underlying34 rfl (size_hash hy)
  have HC := Lib.hid (hindex_any a n q L y hy W1 (h.below hB1))
  have HW := Lib.hid hW1
  have HE : ∀ z : Int, (0 ≤ z ↔ y ∈ L) → decide (0 ≤ z) = decide (y ∈ L) := fun z hz => by by_cases h0 : 0 ≤ z <;> simp [h0, ← hz]
  have HE := Lib.hid HE
  clear h hy hW1 hX
  go_enter Tryz.func142, Tryz.ntmps142
  go_upto_region 1 with fail
  rw [← HW.out]
  go_wp2_with (first
    | (go_at_call 162; refine HC.out.mono ?_; rintro e w2 ⟨⟨z, rfl, hz⟩, hb2⟩; have HZ := Lib.hid hz; clear hz)
    | (refine wpList_load_run rfl 34 (.tmp 3) rfl _ _ rfl lY ?_))
  go_ret
  exact ⟨congrArg (fun b => Ending.returned (Value.bool b)) (HE.out z HZ.out), hB1.trans (hb2.mono hB1.size)⟩
set_option maxRecDepth 100000 in
set_option maxHeartbeats 8000000 in
theorem repeats_any (a : Option Addr) (n q : Nat) (L : List (List (BitVec 8))) (w : World) (h : Recs haRec w a n L) (hnq : n ≤ q) :
    Calls Tryz.prog 103 #[.slice a n q] w fun e w' => e = .returned (.bool (Ch.rep L)) ∧ Below w.heap.size w w' := by
  have HH := Lib.hid h
  have hnmx : n ≤ 9223372036854775807 := h.2.1
  have HNN := Lib.hid h.1
  clear h
  obtain ⟨rp, hrp⟩ : ∃ z, z = Ch.rep L := ⟨_, rfl⟩
  rw [← hrp]
  have HRP := Lib.hid hrp
  clear hrp
  go_enter Tryz.func103, Tryz.ntmps103
  go_wp2
  go_loopw [7] (fun iv wr => ∃ (i : Nat), i ≤ n ∧ iv = .int .i64 i ∧ RowKit.Hid ((L.take i).Nodup) ∧ Below w.heap.size w wr) (fun iv _ => n - (intOf iv).toNat)
  case atStart => exact ⟨0, Nat.zero_le _, rfl, Lib.hid (by simp), Below.refl _ _⟩
  case round =>
    obtain ⟨i, hi, rfl, HN, hb⟩ := hrel
    by_cases hlt : i < n
    · have hii : (i : Int) < (n : Int) := by omega
      have hi0 : (0 : Int) ≤ (i : Int) := by omega
      have hiq : (i : Int) ≤ (q : Int) := by omega
      obtain ⟨u, ht⟩ := HH.out.get hlt
      obtain ⟨x, rfl, _⟩ := HH.out.2.2.2 i u ht
      have HU := Lib.hid (show u.length = 32 from HH.out.okay ht)
      have hy := ha_load (HH.out.below hb) ht
      obtain ⟨d, hd⟩ : ∃ d, d = decide (u ∈ L.take i) := ⟨_, rfl⟩
      have HD := Lib.hid hd
      have HT := Lib.hid ht
      clear hd ht
      go_upto_region 4 with (first
        | (refine wpList_store_mid rfl 34 (.tmp 4) (.tmp 11) rfl wr.heap.size 0 (blist u).toArray rfl rfl (haRec.there wr 34 (by kernel_rfl) HU.out) (haRec.size_eq size_ha HU.out) (haRec.all_one u) ?_)
        | (refine wpList_load_run rfl 34 (.tmp 10) rfl _ _ rfl hy ?_))
      obtain ⟨w5, hw5⟩ : ∃ u', u' = (wr.alloc (.cells z32 34)).setCells wr.heap.size 0 (blist u) := ⟨_, rfl⟩
      obtain ⟨hF5, hb5⟩ := Rec.new (R := haRec) (by kernel_rfl) HU.out hw5
      rw [← hw5]
      have hB5 := hb.trans (hb5.mono hb.size)
      obtain ⟨g5, hg5⟩ : ∃ g, g = wr.heap.size := ⟨_, rfl⟩
      rw [← hg5] at hF5 ⊢
      clear hw5 hy hg5 hb5
      obtain ⟨ws, hws⟩ : ∃ ww, ww = w5.drew := ⟨_, rfl⟩
      have hBs : Below w.heap.size w ws := by rw [hws]; exact hB5.drew
      have hFs : Has ws g5 34 (blist u).toArray := by rw [hws]; exact hF5.draw
      have lU := fun (wq : World) (hSw : Held ws wq) => (hFs.under hSw.below hFs.lt).load_agg (P := Tryz.prog) (t := 34) Tryz.underlying34 rfl (size_hash HU.out)
      refine wp_region_held_drew (S := Held ws) (by kernel_rfl) (by rw [hws]; exact Held.refl _) (fun hHeld => ?_)
      rw [← hws] at hHeld ⊢
      clear hws
      refine take_at (v := ?_) 0 12 rfl rfl (by kernel_rfl) (by kernel_rfl) (by kernel_rfl) (fun _ _ _ h => h) hHeld (Or.inl ⟨by rfl, ?_⟩) rfl ?_
      rotate_left
      · intro wq hSw
        go_simp
        try with_reducible rfl
      simp only [List.set_cons_zero, List.set_cons_succ]
      refine take_at (v := ?_) 1 13 rfl rfl (by kernel_rfl) (by kernel_rfl) (by kernel_rfl) (fun _ _ _ h => h) hHeld (Or.inl ⟨by rfl, ?_⟩) rfl ?_
      rotate_left
      · intro wq hSw
        go_simp
        try with_reducible rfl
      simp only [List.set_cons_zero, List.set_cons_succ]
      refine take_at (v := ?_) 2 14 rfl rfl (by kernel_rfl) (by kernel_rfl) (by kernel_rfl) (fun _ _ _ h => h) hHeld (Or.inl ⟨by rfl, ?_⟩) rfl ?_
      rotate_left
      · intro wq hSw
        go_simp
        try with_reducible rfl
      simp only [List.set_cons_zero, List.set_cons_succ]
      refine take_at 3 15 rfl rfl (by kernel_rfl) (by kernel_rfl) (by kernel_rfl) (fun _ _ _ h => h) hHeld (yieldsIf_load_agg (by rfl) 34 (.tmp 4) rfl _ _ (by rfl) (fun wq hSw => lU wq hSw)) rfl ?_
      simp only [List.set_cons_zero, List.set_cons_succ]
      refine wpAnyH_ready (rs := [4]) (by kernel_rfl) (by simp) ?_
      refine AllReadyH.cons rfl (fun K hK => ?_) AllReadyH.nil
      go_simp
      go_at_call 142
      refine (hcontains_any (some x) i q (L.take i) u HU.out ws ((HH.out.below hBs).take (by omega))).mono ?_
      rw [← HD.out]
      rintro e w6 ⟨rfl, hb6⟩
      refine hK.out _ _ (Held.of hb6) (fun _ => ?_)
      clear hK K
      try simp only [Act.put, List.setIfInBounds_toArray, List.set_cons_zero, List.set_cons_succ]
      replace hHeld := Held.of hb6
      refine wpAnyH_done (by kernel_rfl) ?_ _
      clear lU hHeld
      have hB6 := hBs.trans (hb6.mono hBs.size)
      cases d
      · go_wp2
        go_roundw
        case rel => exact ⟨i + 1, by omega, by go_num, Lib.hid (Ch.nodup_step HT.out HN.out (of_decide_eq_false HD.out.symm)), hB6⟩
        case measure => (simp [intOf]; try omega)
      · obtain rfl : rp = true := by rw [HRP.out]; exact Ch.rep_at HT.out (of_decide_eq_true HD.out.symm)
        go_wp2
        go_ret
        exact ⟨rfl, hB6⟩
    · have hii : ¬ (i : Int) < (n : Int) := by omega
      obtain rfl : rp = false := by
        rw [HRP.out]
        refine Ch.rep_no ?_
        have h1 := HN.out
        rwa [show i = L.length by have := HNN.out; omega] at h1
      go_wp2
      go_ret
      exact ⟨rfl, hb⟩
set_option maxRecDepth 100000 in
set_option maxHeartbeats 8000000 in
theorem pchk_any (b : Ch.B) (w : World) (h : b.At w) (hs : b.n ≤ 60 → ∀ x, x ∈ b.vs → Tx.Small x.t) (hK : KDg w) :
    Calls Tryz.prog 42 #[.agg (bkCells b).toArray] w fun e w' => e = .returned (errn (Ch.chk b.h (Ch.tsOf b.vs))) ∧ Below w.heap.size w w' := by
  obtain ⟨z, hz⟩ : ∃ z, z = Ch.chk b.h (Ch.tsOf b.vs) := ⟨_, rfl⟩
  rw [← hz]
  obtain ⟨W1, hW1⟩ : ∃ ww, ww = w.alloc (.cells (bkCells b).toArray 79) := ⟨_, rfl⟩
  have hB1 : Below w.heap.size w W1 := by rw [hW1]; exact (Below.refl _ _).alloc (Nat.le_refl _) _
  have hX : Has W1 w.heap.size 79 (bkCells b).toArray := by rw [hW1]; exact Has.fresh _ _ _
  have c32 := bk_h hX h.p
  have c33 := bk_ts hX h.p
  have hnmx : b.n ≤ 9223372036854775807 := h.ts.1.2.1
  have hlen : (Ch.tsOf b.vs).length = b.n := by rw [Ch.tsOf_len, h.ts.1.1]
  have HZ := Lib.hid (show z = if 1 ≤ b.h ∧ b.h ≤ 2147483648 then if b.n ≤ 60 then if Ch.bad (Ch.tsOf b.vs) = 0 then if Ch.rep (Ch.wides (Ch.tsOf b.vs)) = true then 6 else 0 else Ch.bad (Ch.tsOf b.vs) else 3 else 2 by rw [hz, Ch.chk, hlen])
  have HLEN := Lib.hid hlen
  have HP := Lib.hid h.p
  have HX := Lib.hid hX
  have HT := Lib.hid (h.ts.below hB1)
  have HQ := Lib.hid h.nq
  have HS := Lib.hid hs
  have HK := Lib.hid (hK.below hB1)
  have HW1 := Lib.hid hW1
  obtain ⟨hh, hhe⟩ : ∃ x, x = b.h := ⟨_, rfl⟩
  rw [← hhe] at HZ c32
  clear h hs hK hX hW1 hz hlen hhe
  go_enter Tryz.func42, Tryz.ntmps42
  go_upto_region 1 with fail
  rw [← HW1.out]
  by_cases h1 : hh < 1
  · obtain rfl : z = 2 := HZ.out.trans (if_neg (by omega))
    go_wp2
    go_ret
    exact ⟨rfl, hB1⟩
  · by_cases h2 : 2147483648 < hh
    · obtain rfl : z = 2 := HZ.out.trans (if_neg (by omega))
      go_wp2
      go_ret
      exact ⟨rfl, hB1⟩
    · have HZ2 := Lib.hid (HZ.out.trans (if_pos ⟨by omega, by omega⟩))
      by_cases h3 : b.n ≤ 60
      · have h3i : ¬ (60 : Int) < (b.n : Int) := by omega
        have HZ3 := Lib.hid (HZ2.out.trans (if_pos h3))
        have HSM := Lib.hid (HS.out h3)
        have HN3 := Lib.hid h3
        go_wp2
        go_loopw [23] (fun iv wr => ∃ (i : Nat), i ≤ b.n ∧ iv = .int .i64 i ∧ RowKit.Hid (∀ (j : Nat) (u : Tx.T), j < i → (Ch.tsOf b.vs)[j]? = some u → Tx.check u = 0) ∧ Below W1.heap.size W1 wr) (fun iv _ => b.n - (intOf iv).toNat)
        case atStart => exact ⟨0, Nat.zero_le _, rfl, Lib.hid (fun j u hj => by omega), Below.refl _ _⟩
        case round =>
          obtain ⟨i, hi, rfl, HN, hb⟩ := hrel
          have c33r := bk_ts (HX.out.under hb HX.out.lt) HP.out
          by_cases hlt : i < b.n
          · have hii : (i : Int) < (b.n : Int) := by omega
            have hi0 : (0 : Int) ≤ (i : Int) := by omega
            obtain ⟨⟨ta, tn, tq, tb, tm, tr, t⟩, ht⟩ := HT.out.1.get hlt
            obtain ⟨x, hxe, hx, hat⟩ := (HT.out.below hb).load ht
            have HXE := Lib.hid hxe
            have HAT := Lib.hid hat
            have HST := Lib.hid (show Tx.Small t from HSM.out _ (List.mem_of_getElem? ht))
            have HTT := Lib.hid (show (Ch.tsOf b.vs)[i]? = some t by unfold Ch.tsOf; rw [List.getElem?_map, ht]; rfl)
            obtain ⟨c, hc⟩ : ∃ c, c = Tx.check t := ⟨_, rfl⟩
            have HC := Lib.hid hc
            have hxs : Value.slice b.a b.n b.q = .slice (some x) b.n b.q := by rw [hxe]
            have HXS := Lib.hid hxs
            clear ht hat hc hxe hxs
            rw [HXS.out]
            go_upto_region 8 with (first
              | (refine wpList_load_run rfl 26 (.tmp 25) rfl _ _ rfl hx ?_))
            obtain ⟨w5, hw5⟩ : ∃ x, x = wr.alloc (.cells #[.slice ta tn tq, .slice tb tm tr, .bool t.firm] 26) := ⟨_, rfl⟩
            have hF : Has w5 wr.heap.size 26 #[.slice ta tn tq, .slice tb tm tr, .bool t.firm] := by rw [hw5]; exact Has.fresh _ _ _
            have hb5 : Below wr.heap.size wr w5 := by rw [hw5]; exact (Below.refl _ _).alloc (Nat.le_refl _) _
            rw [← hw5]
            clear hw5 hx
            obtain ⟨gF, hgF⟩ : ∃ g, g = wr.heap.size := ⟨_, rfl⟩
            rw [← hgF] at hF ⊢
            have lX := hF.load_agg (P := Tryz.prog) (t := 26) Tryz.underlying26 rfl (by kernel_rfl)
            have hB5 := hb.trans (hb5.mono hb.size)
            have HCK := Lib.hid (pcheck_any ta tn tq tb tm tr t t.firm w5 (HAT.out.below hb5) (by have := HST.out.2.1; have := HAT.out.co.1; omega))
            clear hF hgF hb5
            by_cases h0 : c = 0
            · have HCE := Lib.hid (show errn (Tx.check t) = Value.nilIface by rw [← HC.out, h0]; rfl)
              have H0 := Lib.hid h0
              clear h0
              go_wp2_with (first
                | (go_at_call 19; refine HCK.out.mono ?_; rw [HCE.out]; rintro e w6 ⟨rfl, hb6⟩)
                | (refine wpList_load_run rfl 26 (.tmp 4) rfl _ _ rfl lX ?_))
              go_roundw
              case rel => exact ⟨i + 1, by omega, by go_num, Lib.hid (fun j u hj hu => by
                rcases Nat.lt_or_ge j i with h1 | h1
                · exact HN.out j u h1 hu
                · obtain rfl : j = i := by omega
                  rw [HTT.out] at hu
                  obtain rfl := Option.some.inj hu
                  exact HC.out.symm.trans H0.out), hB5.trans (hb6.mono hB5.size)⟩
              case measure => (simp [intOf]; try omega)
            · have HCE := Lib.hid (show errn (Tx.check t) = erro c by rw [← HC.out]; exact if_neg h0)
              have hE : z = c := by
                have hbd := Ch.bad_at HN.out HTT.out (by rw [← HC.out]; exact h0)
                rw [HZ3.out, if_neg (by rw [hbd, ← HC.out]; exact h0), hbd, HC.out]
              have HE := Lib.hid (show errn z = erro c by rw [hE]; exact if_neg h0)
              clear hE h0
              go_wp2_with (first
                | (go_at_call 19; refine HCK.out.mono ?_; rw [HCE.out]; rintro e w6 ⟨rfl, hb6⟩)
                | (refine wpList_load_run rfl 26 (.tmp 4) rfl _ _ rfl lX ?_))
              go_ret
              exact ⟨congrArg Ending.returned HE.out.symm, hB1.trans ((hB5.trans (hb6.mono hB5.size)).mono hB1.size)⟩
          · have hii : ¬ (i : Int) < (b.n : Int) := by omega
            obtain rfl : i = b.n := by omega
            have HBD := Lib.hid (show Ch.bad (Ch.tsOf b.vs) = 0 from Ch.bad_all (fun t ht => by
              obtain ⟨j, hj⟩ := List.mem_iff_getElem?.1 ht
              exact HN.out j t (by have := (List.getElem?_eq_some_iff.1 hj).1; have := HLEN.out; omega) hj))
            obtain ⟨d, hd⟩ : ∃ d, d = Ch.rep (Ch.wides (Ch.tsOf b.vs)) := ⟨_, rfl⟩
            have HD := Lib.hid hd
            have HZ4 := Lib.hid (show z = if d = true then 6 else 0 by rw [HZ3.out, if_pos HBD.out, hd])
            have HBT := Lib.hid (hB1.trans (hb.mono hB1.size))
            have HWD := Lib.hid (pwides_any b.a b.n b.q b.vs wr (HT.out.below hb) HSM.out (by have := HN3.out; omega) (HK.out.below hb))
            clear hd
            have HLN := Lib.hid HLEN.out
            cases d
            · obtain rfl : z = 0 := HZ4.out
              go_wp2_with (first
                | (go_at_call 103; refine (repeats_any x5 b.n c5 _ w5 hr5 hc5).mono ?_; rw [← HD.out]; rintro e w6 ⟨rfl, hb6⟩)
                | (go_at_call 95; refine HWD.out.mono ?_; rintro e w5 ⟨v5, rfl, ho5, hb5⟩; obtain ⟨x5, c5, rfl, hc5, h05, _, hr5⟩ := ho5.shape (K := b.n) (by rw [Ch.wides_len, HLN.out])))
              go_ret
              exact ⟨rfl, HBT.out.trans ((hb5.trans (hb6.mono hb5.size)).mono HBT.out.size)⟩
            · obtain rfl : z = 6 := HZ4.out
              go_wp2_with (first
                | (go_at_call 103; refine (repeats_any x5 b.n c5 _ w5 hr5 hc5).mono ?_; rw [← HD.out]; rintro e w6 ⟨rfl, hb6⟩)
                | (go_at_call 95; refine HWD.out.mono ?_; rintro e w5 ⟨v5, rfl, ho5, hb5⟩; obtain ⟨x5, c5, rfl, hc5, h05, _, hr5⟩ := ho5.shape (K := b.n) (by rw [Ch.wides_len, HLN.out])))
              go_ret
              exact ⟨rfl, HBT.out.trans ((hb5.trans (hb6.mono hb5.size)).mono HBT.out.size)⟩
      · have h3i : (60 : Int) < (b.n : Int) := by omega
        obtain rfl : z = 3 := HZ2.out.trans (if_neg h3)
        go_wp2
        go_ret
        exact ⟨rfl, hB1⟩
end Go.Proofs.YtdfplenniamnoaaGreatDoor
