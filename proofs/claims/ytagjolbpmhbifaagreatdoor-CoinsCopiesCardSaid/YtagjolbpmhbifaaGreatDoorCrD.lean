/- reference of coins: Do (mkcrd.py) -/
import Derived.Test.YtagjolbpmhbifaaGreatDoorCrC
import Derived.OwnWalk
namespace Go.Proofs.YtagjolbpmhbifaaGreatDoor
open Go Go.RowKit Go.ChangeShapes Go.WideShapes
theorem r12build_pt {ops : Array Oper} {S : World → Prop} {op : Oper} {a : Act} {PC : Array Value} (hw : Region.wanted op (yielded ops a.tmps) = true) (x y : Operand) (ho : op.op = .build 32 #[(0, x), (1, y)]) (D : List (BitVec 8)) (z : Int)
    (hx : a.eval x = .agg (blist D).toArray) (hy : a.eval y = .int .i64 z) (hPC : PC = (ptCells D z).toArray) (hD : D.length = 32) : YieldsIf Tryz.prog ops S op (.agg PC) a :=
  .inl ⟨hw, fun w _ => by
    have hr := run_build (P := Tryz.prog) w 32 #[(0, .agg (blist D).toArray), (1, .int .i64 z)] _ (built_pt D hD z)
    subst hPC
    unfold execOp
    simp only [ho, List.map_toArray, List.map_cons, List.map_nil, hx, hy, Sem.run_bind, Sem.run_pure, Result.andThen_ok, hr]⟩
namespace Cs
def rdo (L : List Hv) (id : List (BitVec 8)) (t : Tx.T) : List Hv := (ownL id t.co).foldl (fun l x => rwi l x.1 x.2) ((t.sp.map pt).foldl rwo L)
theorem fee_there {M : Mp} {t : Tx.T} (h : feeE M t = 0) : ∀ p, p ∈ t.sp.map pt → (look M p).isSome = true := by
  unfold feeE at h
  by_cases h1 : Tx.check t = 0
  · rw [if_pos h1] at h
    by_cases h2 : ∀ p, p ∈ t.sp.map pt → (look M p).isSome = true
    · exact h2
    · rw [if_neg h2] at h
      exact absurd h (by decide)
  · rw [if_neg h1] at h
    exact absurd h h1
theorem clash_at {M : Mp} {id : List (BitVec 8)} {t : Tx.T} {i : Nat} (hi : i < t.co.length) (h : (look M (id, (i : Int))).isSome = true) : clash M id t = true := by
  unfold clash
  rw [List.any_eq_true]
  exact ⟨((id, (i : Int)), t.co[i]), List.mem_of_getElem? (ownL_at.2 ⟨t.co[i], List.getElem?_eq_getElem hi, rfl⟩), h⟩
theorem clash_no {M : Mp} {id : List (BitVec 8)} {t : Tx.T} (h : ∀ i, i < t.co.length → (look M (id, (i : Int))).isSome = false) : clash M id t = false := by
  unfold clash
  rw [List.any_eq_false]
  intro x hx
  obtain ⟨i, hi⟩ := List.mem_iff_getElem?.1 hx
  obtain ⟨c, h1, rfl⟩ := ownL_at.1 hi
  rw [h i (List.getElem?_eq_some_iff.1 h1).1]
  exact Bool.false_ne_true
theorem rwo_len (l : List Hv) (p : Pt) : (rwo l p).length ≤ l.length := List.length_filter_le _ _
theorem rwos_len : ∀ (ps : List Pt) (l : List Hv), (ps.foldl rwo l).length ≤ l.length
  | [], _ => Nat.le_refl _
  | p :: ps, l => Nat.le_trans (rwos_len ps (rwo l p)) (rwo_len l p)
theorem rwis_len : ∀ (xs : List Hv) (l : List Hv), (xs.foldl (fun l x => rwi l x.1 x.2) l).length = l.length + xs.length
  | [], _ => rfl
  | x :: xs, l => by
    rw [List.foldl_cons, rwis_len xs, rwi_len, List.length_cons]
    omega
end Cs
set_option maxRecDepth 100000 in
set_option maxHeartbeats 8000000 in
theorem r12do (la : Option Addr) (ln lq : Nat) (L : List Cs.Hv) (a : Option Addr) (n q : Nat) (b : Option Addr) (m r : Nat) (t : Tx.T) (w : World) (hl : Recs hvRec w la ln L) (hlq : ln ≤ lq ∧ (la = none → lq = 0)) (ht : TxAt w a n q b m r t) (hs : Tx.Small t) (hT : Tab32 w 2 Dg.kL) (hln : ln ≤ 500000) (D : List (BitVec 8)) (hD : D = Tx.idOf false t) :
    Calls Tryz.prog 18 #[.slice la ln lq, txv a n q b m r t.firm] w fun e w' => ∃ (a' : Option Addr) (n' q' : Nat) (v : Value), e = .returned (.tuple #[.slice a' n' q', v, .int .i64 (Cs.doE L D t)]) ∧ Recs hvRec w' a' n' (if Cs.doE L D t = 0 then Cs.rdo L D t else L) ∧ (n' ≤ q' ∧ (a' = none → q' = 0)) ∧ (∀ x, a' = some x → la = some x ∨ (w.heap.size ≤ x.block ∧ x.block < w'.heap.size)) ∧ Below w.heap.size w w' := by
  have hn6 : n ≤ 30 := by have := hs.1; have := ht.sp.1; omega
  have hm6 : m ≤ 30 := by have := hs.2.1; have := ht.co.1; omega
  have hDl : D.length = 32 := by rw [hD]; exact Tx.idOf_len _ _
  obtain ⟨W1, hW1⟩ : ∃ ww, ww = w.alloc (.cells #[.slice a n q, .slice b m r, .bool t.firm] 39 ) := ⟨_, rfl⟩
  have hB1 : Below w.heap.size w W1 := by rw [hW1]; exact (Below.refl _ _).alloc (Nat.le_refl _) _
  have hX : Has W1 w.heap.size 39 #[.slice a n q, .slice b m r, .bool t.firm] := by rw [hW1]; exact Has.fresh _ _ _
  have lX := hX.load_agg (P := Tryz.prog) (t := 39 ) Tryz.underlying39 rfl (by kernel_rfl)
  have HX := Lib.hid (fun (w' : World) (hb : Below W1.heap.size W1 w') => (hX.under hb hX.lt).load_agg (P := Tryz.prog) (t := 39 ) Tryz.underlying39 rfl (by kernel_rfl))
  have HXH := Lib.hid (fun (w' : World) (hb : Below W1.heap.size W1 w') => hX.under hb hX.lt)
  obtain ⟨fv, hfv⟩ : ∃ c, c = Cs.feeV L t := ⟨_, rfl⟩
  obtain ⟨fe, hfe⟩ : ∃ c, c = Cs.feeE L t := ⟨_, rfl⟩
  have HF := Lib.hid (show Calls Tryz.prog 49 #[.slice la ln lq, txv a n q b m r t.firm] W1 fun e w' => e = .returned (.tuple #[.int .i64 fv, .int .i64 fe]) ∧ Below W1.heap.size W1 w' by
    rw [hfv, hfe]
    exact r12fee la ln lq L a n q b m r t W1 (hl.below hB1) (ht.below hB1) hs (hT.below hB1))
  have HT := Lib.hid (ht.below hB1)
  have HL := Lib.hid (hl.below hB1)
  have HLQ := Lib.hid hlq
  have HLL := Lib.hid hln
  have HLK := Lib.hid (Cs.hv_ok hl)
  have HSM := Lib.hid hs
  have HK := Lib.hid (hT.below hB1)
  have HN := Lib.hid (And.intro hn6 hm6)
  have HW := Lib.hid hW1
  have HDL := Lib.hid hDl
  have HB1 := Lib.hid hB1
  have HIN := Lib.hid (And.intro ht.sp.1 ht.co.1)
  have hnmx : n ≤ 9223372036854775807 := ht.sp.2.1
  have hmmx : m ≤ 9223372036854775807 := ht.co.2.1
  clear hW1 hX ht hs hT hl hn6 hm6 hfv hlq hln hDl
  by_cases h0 : fe = 0
  · obtain ⟨z, hz⟩ : ∃ z, z = Cs.doE L D t := ⟨_, rfl⟩
    have HZ1 := Lib.hid (show ∀ i, i < m → (Cs.look L (D, (i : Int))).isSome = true → z = 6 from fun i hi h => by
      rw [hz]
      unfold Cs.doE
      rw [← hfe, if_pos h0, if_pos (Cs.clash_at (by rw [HIN.out.2]; exact hi) h)])
    have HZ0 := Lib.hid (show (∀ i, i < m → (Cs.look L (D, (i : Int))).isSome = false) → z = 0 from fun h => by
      rw [hz]
      unfold Cs.doE
      rw [← hfe, if_pos h0, Cs.clash_no (fun i hi => h i (by rw [← HIN.out.2]; exact hi))]
      rfl)
    have HTH := Lib.hid (Cs.fee_there (hfe.symm.trans h0))
    have HI := Lib.hid (fun (w' : World) (hb : Below W1.heap.size W1 w') => rid_any a n q b m r t w' (HT.out.below hb) HSM.out (HK.out.below hb))
    rw [← hD] at HI
    have HSP := Lib.hid (fun (w' : World) (hb : Below W1.heap.size W1 w') => r12spent la ln lq L a n q b m r t w' (HL.out.below hb) (HT.out.below hb) (by have := HN.out.1; omega) true ⟨fun _ => HTH.out, fun _ => rfl⟩)
    rw [← hz]
    obtain ⟨RS, hRS⟩ : ∃ l, l = (if z = 0 then Cs.rdo L D t else L) := ⟨_, rfl⟩
    rw [← hRS]
    have HRS6 := Lib.hid (show z = 6 → RS = L from fun h => by rw [hRS, h]; rfl)
    have HRS0 := Lib.hid (show z = 0 → RS = Cs.rdo L D t from fun h => by rw [hRS, h]; rfl)
    have H0 := Lib.hid h0
    clear hz hfe hD hB1 hRS
    go_enter Tryz.func18, Tryz.ntmps18
    go_upto_region 1 with fail
    rw [← HW.out]
    go_upto_region 4 with (first
      | (go_at_call 49; refine HF.out.mono ?_; rintro e w2 ⟨rfl, hb2⟩)
      | (refine wpList_load_run rfl 39 (.tmp 3) rfl _ _ rfl lX ?_))
    clear lX
    have lX := HX.out w2 hb2
    have HI2 := Lib.hid (HI.out w2 hb2)
    go_upto_region 5 with (first
      | (refine wpList_store_mid rfl 30 (.tmp 9) (.tmp 28) rfl w3.heap.size 0 (blist D).toArray rfl rfl ((Has.fresh w3 30 z32).there 0 (blist D).toArray.size (by rw [List.size_toArray, blist_length, HDL.out]; decide)) (size_hash' HDL.out) (one_hash D) ?_)
      | (go_at_call 50; refine HI2.out.mono ?_; rintro e w3 ⟨rfl, hb3⟩)
      | (refine wpList_load_run rfl 39 (.tmp 3) rfl _ _ rfl lX ?_))
    obtain ⟨w4, hw4⟩ : ∃ u, u = (w3.alloc (.cells z32 30 )).setCells w3.heap.size 0 (blist D).toArray.toList := ⟨_, rfl⟩
    have hw4n : w4 = (w3.alloc (.cells z32 30 )).setCells w3.heap.size 0 (blist D) := hw4
    have hb34 : Below w3.heap.size w3 w4 := by rw [hw4]; exact below_setAll (Nat.le_refl _) _ 0 ((Below.refl _ _).alloc (Nat.le_refl _) _)
    have hH4 : Has w4 w3.heap.size 30 (blist D).toArray := by rw [hw4]; exact (Has.fresh w3 30 z32).whole_cs (by rw [List.size_toArray, blist_length, HDL.out]; rfl)
    first | rw [← hw4n] | rw [← hw4]
    obtain ⟨g4, hg4⟩ : ∃ g, g = w3.heap.size := ⟨_, rfl⟩
    rw [← hg4] at hH4 ⊢
    have hT4 := hb2.trans ((hb3.trans (hb34.mono hb3.size)).mono hb2.size)
    have HT4 := Lib.hid hT4
    have HH4 := Lib.hid hH4
    clear hw4 hw4n hg4 hb2 hb3 hb34 lX hH4 hT4
    go_wp2
    go_loopw [10] (fun iv wr => ∃ i : Nat, i ≤ m ∧ iv = .int .i64 i ∧ RowKit.Hid (∀ j, j < i → (Cs.look L (D, (j : Int))).isSome = false) ∧ Below w4.heap.size w4 wr) (fun iv _ => m - (intOf iv).toNat)
    case atStart => exact ⟨0, Nat.zero_le _, rfl, Lib.hid (fun j hj => absurd hj (by omega)), Below.refl _ _⟩
    case round =>
      obtain ⟨i, hi, rfl, HNO, hb⟩ := hrel
      have hTr := HT4.out.trans (hb.mono HT4.out.size)
      have c1 := (HXH.out wr hTr).cell_at (i := 1) (v := .slice b m r) rfl
      by_cases hlt : i < m
      · have hii : (i : Int) < (m : Int) := by omega
        have hi0 : (0 : Int) ≤ (i : Int) := by omega
        have lH := (HH4.out.under hb HH4.out.lt).load_agg (P := Tryz.prog) (t := 30 ) Tryz.underlying30 rfl (size_hash' HDL.out)
        obtain ⟨PC, hPC⟩ : ∃ PC, PC = (ptCells D (i : Int)).toArray := ⟨_, rfl⟩
        have HPC := Lib.hid hPC
        obtain ⟨oc, hoc⟩ : ∃ o, o = (Cs.look L (D, (i : Int))).isSome := ⟨_, rfl⟩
        obtain ⟨c, hc⟩ : ∃ c, c = (Cs.look L (D, (i : Int))).getD ⟨0, 0#64⟩ := ⟨_, rfl⟩
        have HGT := Lib.hid (show Calls Tryz.prog 47 #[.slice la ln lq, .agg PC] wr fun e w' => e = .returned (.tuple #[.agg (coCells c).toArray, .bool oc]) ∧ Below wr.heap.size wr w' by
          have h := r12get la ln lq L (D, (i : Int)) HDL.out wr (HL.out.below hTr)
          rw [← hc, ← hoc] at h
          rw [hPC]
          exact h)
        have HOC := Lib.hid hoc
        clear hoc hc hPC
        go_upto_region 9 with (first
          | (refine wpList_store_mid rfl 35 (.tmp 11) (.tmp 42) rfl w5.heap.size 0 (coCells c).toArray rfl rfl ((Has.fresh w5 35 #[.int .i64 0, .int .u64 0]).there 0 2 (Nat.le_refl _)) (size_co c) (coRec.all_one c) ?_)
          | (go_at_call 47; refine HGT.out.mono ?_; rintro e w5 ⟨rfl, hb5⟩)
          | (refine wpList_build_pt (PC := PC) rfl (.tmp 38) (.tmp 39) rfl D i rfl rfl HPC.out HDL.out ?_)
          | (refine wpList_load_run rfl 30 (.tmp 9) rfl _ _ rfl lH ?_))
        obtain ⟨w6, hw6⟩ : ∃ u, u = (w5.alloc (.cells #[.int .i64 0, .int .u64 0] 35 )).setCells w5.heap.size 0 (coCells c).toArray.toList := ⟨_, rfl⟩
        have hw6n : w6 = (w5.alloc (.cells #[.int .i64 0, .int .u64 0] 35 )).setCells w5.heap.size 0 (coCells c) := hw6
        have hb56 : Below w5.heap.size w5 w6 := by rw [hw6]; exact below_setAll (Nat.le_refl _) _ 0 ((Below.refl _ _).alloc (Nat.le_refl _) _)
        first | rw [← hw6] | rw [← hw6n]
        have hb6 := hb.trans ((hb5.trans (hb56.mono hb5.size)).mono hb.size)
        have hT6 := HT4.out.trans (hb6.mono HT4.out.size)
        clear hw6 hw6n hb56 lH
        cases oc
        · have HNO2 := Lib.hid (show ∀ j, j < i + 1 → (Cs.look L (D, (j : Int))).isSome = false from fun j hj => by
            rcases Nat.lt_or_ge j i with h | h
            · exact HNO.out j h
            · obtain rfl : j = i := by omega
              exact HOC.out.symm)
          go_wp2
          go_roundw
          case rel => exact ⟨i + 1, by omega, by go_num, HNO2, hb6⟩
          case measure => (simp [intOf]; try omega)
        · have HZ6 := Lib.hid (HZ1.out i hlt HOC.out.symm)
          go_wp2
          go_ret3
          rw [HZ6.out, HRS6.out HZ6.out]
          exact ⟨la, ln, lq, _, rfl, HL.out.below hT6, HLQ.out, fun _ h => .inl h, HB1.out.trans (hT6.mono HB1.out.size)⟩
      · have hii : ¬ (i : Int) < (m : Int) := by omega
        obtain rfl : m = i := by omega
        have hz0 := HZ0.out HNO.out
        have HZZ := Lib.hid hz0
        have lX := HX.out wr hTr
        have HSP2 := Lib.hid (HSP.out wr hTr)
        clear hz0 hi
        go_upto_region 12 with (first
          | (go_at_call 51; refine HSP2.out.mono ?_; rintro e w7 ⟨v7, rfl, ho7, hb7⟩)
          | (refine wpList_load_run rfl 39 (.tmp 3) rfl _ _ rfl lX ?_))
        have HH7 := Lib.hid ((HH4.out.under hb HH4.out.lt).under hb7 (HH4.out.under hb HH4.out.lt).lt)
        have HT7 := Lib.hid (hTr.trans (hb7.mono hTr.size))
        have HL7 := Lib.hid ((HL.out.below hTr).below hb7)
        clear ho7 hb7 hb hTr lX c1 HNO
        go_wp2
        go_loopw [0, 15] (fun lv iv wr => ∃ (k : Nat) (xa : Option Addr) (xn xq : Nat), k ≤ n ∧ iv = .int .i64 k ∧ lv = .slice xa xn xq ∧ RowKit.Hid (Recs hvRec wr xa xn (((t.sp.take k).map Cs.pt).foldl Cs.rwo L) ∧ (xn ≤ xq ∧ (xa = none → xq = 0)) ∧ (∀ x, xa = some x → la = some x ∨ (w.heap.size ≤ x.block ∧ x.block < wr.heap.size))) ∧ Below w7.heap.size w7 wr) (fun _ iv _ => n - (intOf iv).toNat)
        case atStart => exact ⟨0, la, ln, lq, Nat.zero_le _, rfl, rfl, Lib.hid ⟨HL7.out, HLQ.out, fun _ h => .inl h⟩, Below.refl _ _⟩
        case round =>
          rename World => wt
          obtain ⟨k, xa, xn, xq, hk, rfl, rfl, HR, hb⟩ := hrel
          have hTt := HT7.out.trans (hb.mono HT7.out.size)
          have c0 := (HXH.out wt hTt).cell_at (i := 0) (v := .slice a n q) rfl
          by_cases hlk : k < n
          · have hkk : (k : Int) < (n : Int) := by omega
            have hk0 : (0 : Int) ≤ (k : Int) := by omega
            have hS := HT.out.sp.below hTt
            obtain ⟨s, hs⟩ := hS.get hlk
            obtain ⟨x, hax, _⟩ := hS.2.2.2 k s hs
            subst hax
            have hy := point_at hS hs
            have hok := hS.okay hs
            obtain ⟨L2, hL2⟩ : ∃ l, l = ((t.sp.take k).map Cs.pt).foldl Cs.rwo L := ⟨_, rfl⟩
            have HTK := Lib.hid (show ((t.sp.take (k + 1)).map Cs.pt).foldl Cs.rwo L = Cs.rwo L2 (Cs.pt s) by
              obtain ⟨h2, h3⟩ := List.getElem?_eq_some_iff.1 hs
              rw [List.take_succ_eq_append_getElem h2, h3, List.map_append, List.map_singleton, List.foldl_append, ← hL2]
              rfl)
            rw [← hL2] at HR
            have HXN := Lib.hid (show xn ≤ 1000000 by
              have h1 := HR.out.1.1
              have h2 := Cs.rwos_len ((t.sp.take k).map Cs.pt) L
              rw [← hL2, h1, HL.out.1] at h2
              have := HLL.out
              omega)
            obtain ⟨L3, hL3⟩ : ∃ l, l = Cs.rwo L2 (Cs.pt s) := ⟨_, rfl⟩
            have HWO := Lib.hid (show Calls Tryz.prog 52 #[.slice xa xn xq, .agg (ptCells s.h s.n).toArray] wt fun e w' => ∃ v, e = .returned v ∧ OwnR hvRec 112 wt.heap.size w' v L3 ∧ Below wt.heap.size wt w' from hL3 ▸ r12without xa xn xq L2 (Cs.pt s) hok.1 wt HR.out.1 HXN.out)
            rw [← hL3] at HTK
            obtain ⟨K3, hK3⟩ : ∃ k, k = L3.length := ⟨_, rfl⟩
            have HK3 := Lib.hid hK3.symm
            clear hS hs hok hL2 hL3 hK3
            go_wp2_with (first
              | (go_at_call 52; refine HWO.out.mono ?_; rintro e w8 ⟨v8, rfl, ho8, hb8⟩; obtain ⟨sa, sc, rfl, hsc, h0s, hlo, hrs⟩ := ho8.shape HK3.out)
              | (refine wpList_load_run rfl 32 (.tmp 64) rfl _ _ rfl hy ?_))
            have HR2 := Lib.hid (show Recs hvRec w8 sa K3 (((t.sp.take (k + 1)).map Cs.pt).foldl Cs.rwo L) ∧ (K3 ≤ sc ∧ (sa = none → sc = 0)) ∧ (∀ x, sa = some x → la = some x ∨ (w.heap.size ≤ x.block ∧ x.block < w8.heap.size)) from ⟨HTK.out.symm ▸ hrs, ⟨hsc, h0s⟩, fun x h => .inr ⟨Nat.le_trans HB1.out.size (Nat.le_trans hTt.size (hlo x h).1), (hlo x h).2⟩⟩)
            have hb9 := hb.trans (hb8.mono hb.size)
            clear ho8 hsc h0s hrs hy hlo
            go_roundw
            case rel => exact ⟨k + 1, sa, K3, sc, by omega, by go_num, rfl, HR2, hb9⟩
            case measure => (simp [intOf]; try omega)
          · have hkk : ¬ (k : Int) < (n : Int) := by omega
            obtain rfl : n = k := by omega
            have htk : t.sp.take n = t.sp := List.take_of_length_le (by rw [HIN.out.1]; omega)
            obtain ⟨L2, hL2⟩ : ∃ l, l = (t.sp.map Cs.pt).foldl Cs.rwo L := ⟨_, rfl⟩
            rw [htk, ← hL2] at HR
            have HRD := Lib.hid (show (Cs.ownL D t.co).foldl (fun l x => Cs.rwi l x.1 x.2) L2 = Cs.rdo L D t by rw [hL2]; rfl)
            have HX2 := Lib.hid (show L2.length ≤ 500000 by
              have h2 := Cs.rwos_len (t.sp.map Cs.pt) L
              rw [← hL2, HL.out.1] at h2
              have := HLL.out
              omega)
            have HT8 := Lib.hid hTt
            have HH8 := Lib.hid (HH7.out.under hb HH7.out.lt)
            obtain ⟨OL, hOL⟩ : ∃ l, l = Cs.ownL D t.co := ⟨_, rfl⟩
            have HOL := Lib.hid hOL
            rw [← hOL] at HRD
            clear htk hL2 hk hb hTt hOL
            go_wp2
            go_loopw [0, 16] (fun lv iv wr => ∃ (k : Nat) (xa : Option Addr) (xn xq : Nat), k ≤ m ∧ iv = .int .i64 k ∧ lv = .slice xa xn xq ∧ RowKit.Hid (Recs hvRec wr xa xn ((OL.take k).foldl (fun l x => Cs.rwi l x.1 x.2) L2) ∧ (xn ≤ xq ∧ (xa = none → xq = 0)) ∧ (∀ x, xa = some x → la = some x ∨ (w.heap.size ≤ x.block ∧ x.block < wr.heap.size))) ∧ Below wt.heap.size wt wr) (fun _ iv _ => m - (intOf iv).toNat)
            case atStart => exact ⟨0, xa, xn, xq, Nat.zero_le _, rfl, rfl, HR, Below.refl _ _⟩
            case round =>
              rename World => wu
              obtain ⟨j, ya, yn, yq, hj, rfl, rfl, HY, hb⟩ := hrel
              have hTu := HT8.out.trans (hb.mono HT8.out.size)
              have c1 := (HXH.out wu hTu).cell_at (i := 1) (v := .slice b m r) rfl
              by_cases hlj : j < m
              · have hjj : (j : Int) < (m : Int) := by omega
                have hj0 : (0 : Int) ≤ (j : Int) := by omega
                go_upto_region 19 with fail
                obtain ⟨ws, hws⟩ : ∃ u, u = wu.drew := ⟨_, rfl⟩
                have hbs : Below wu.heap.size wu ws := by rw [hws]; exact (Below.refl _ _).drew
                have hTs := hb.trans (hbs.mono hb.size)
                have hTs8 := HT8.out.trans (hTs.mono HT8.out.size)
                have hHs := HH8.out.under hTs HH8.out.lt
                have lH := fun (wq : World) (hSw : Held ws wq) => (hHs.under hSw.below hHs.lt).load_agg (P := Tryz.prog) (t := 30 ) Tryz.underlying30 rfl (size_hash' HDL.out)
                have hXs := HXH.out ws hTs8
                have cB := fun (wq : World) (hSw : Held ws wq) => (hXs.under hSw.below hXs.lt).cell_at (i := 1) (v := .slice b m r) rfl
                have hC := HT.out.co.below hTs8
                obtain ⟨c, hc⟩ := hC.get hlj
                obtain ⟨x, hax, _⟩ := hC.2.2.2 j c hc
                subst hax
                have lC := fun (wq : World) (hSw : Held ws wq) => (hC.below hSw.below).load_at (P := Tryz.prog) (T := 35 ) Tryz.underlying35 rfl (by kernel_rfl) hc
                have hok := hC.okay hc
                obtain ⟨PC, hPC⟩ : ∃ PC, PC = (ptCells D (j : Int)).toArray := ⟨_, rfl⟩
                have HPC := Lib.hid hPC
                obtain ⟨L4, hL4⟩ : ∃ l, l = (OL.take j).foldl (fun l x => Cs.rwi l x.1 x.2) L2 := ⟨_, rfl⟩
                have HTK := Lib.hid (show (OL.take (j + 1)).foldl (fun l x => Cs.rwi l x.1 x.2) L2 = Cs.rwi L4 (D, (j : Int)) c by
                  have h1 : OL[j]? = some ((D, (j : Int)), c) := by rw [HOL.out]; exact Cs.ownL_at.2 ⟨c, hc, rfl⟩
                  obtain ⟨h2, h3⟩ := List.getElem?_eq_some_iff.1 h1
                  rw [List.take_succ_eq_append_getElem h2, h3, List.foldl_append, ← hL4]
                  rfl)
                rw [← hL4] at HY
                have HYN := Lib.hid (show yn ≤ 1000000 by
                  have h1 := HY.out.1.1
                  have h2 := Cs.rwis_len (OL.take j) L2
                  rw [← hL4, h1, List.length_take] at h2
                  have := HX2.out
                  have := HN.out.2
                  omega)
                obtain ⟨L5, hL5⟩ : ∃ l, l = Cs.rwi L4 (D, (j : Int)) c := ⟨_, rfl⟩
                have HWI := Lib.hid (show Calls Tryz.prog 48 #[.slice ya yn yq, .agg PC, .agg (coCells c).toArray] ws fun e w' => ∃ v, e = .returned v ∧ OwnR hvRec 112 ws.heap.size w' v L5 ∧ Below ws.heap.size ws w' by
                  rw [hPC, hL5]
                  exact r12with ya yn yq L4 (D, (j : Int)) c ⟨⟨HDL.out, by show -9223372036854775808 ≤ (j : Int); omega, by show (j : Int) < 9223372036854775808; omega⟩, hok⟩ ws (HY.out.1.below hbs) HYN.out)
                rw [← hL5] at HTK
                obtain ⟨K5, hK5⟩ : ∃ k, k = L5.length := ⟨_, rfl⟩
                have HK5 := Lib.hid hK5.symm
                clear hc hok hL4 hL5 hK5 hPC
                refine wp_region_held_drew (S := Held ws) (by kernel_rfl) (by rw [hws]; exact Held.refl _) (fun hHeld => ?_)
                rw [← hws] at hHeld ⊢
                clear hws
                refine take_at (v := ?_) 0 74 rfl rfl (by kernel_rfl) (by kernel_rfl) (by kernel_rfl) (fun _ _ _ h => h) hHeld (Or.inl ⟨by rfl, ?_⟩) rfl ?_
                rotate_left
                · intro wq hSw
                  go_simp
                  try with_reducible rfl
                simp only [List.set_cons_zero, List.set_cons_succ]
                refine take_at 1 75 rfl rfl (by kernel_rfl) (by kernel_rfl) (by kernel_rfl) (fun _ _ _ h => h) hHeld (yieldsIf_load_agg (by rfl) 30 (.tmp 9) rfl _ _ (by rfl) (fun wq hSw => lH wq hSw)) rfl ?_
                simp only [List.set_cons_zero, List.set_cons_succ]
                refine take_at (v := ?_) 2 76 rfl rfl (by kernel_rfl) (by kernel_rfl) (by kernel_rfl) (fun _ _ _ h => h) hHeld (Or.inl ⟨by rfl, ?_⟩) rfl ?_
                rotate_left
                · intro wq hSw
                  go_simp
                  try with_reducible rfl
                simp only [List.set_cons_zero, List.set_cons_succ]
                refine take_at (v := .agg PC) 3 77 rfl rfl (by kernel_rfl) (by kernel_rfl) (by kernel_rfl) (fun _ _ _ h => h) hHeld (r12build_pt (PC := PC) (by rfl) (.tmp 75) (.tmp 76) rfl D j (by rfl) (by rfl) HPC.out HDL.out) rfl ?_
                simp only [List.set_cons_zero, List.set_cons_succ]
                refine take_at (v := ?_) 4 78 rfl rfl (by kernel_rfl) (by kernel_rfl) (by kernel_rfl) (fun _ _ _ h => h) hHeld (Or.inl ⟨by rfl, ?_⟩) rfl ?_
                rotate_left
                · intro wq hSw
                  go_simp
                  try with_reducible rfl
                simp only [List.set_cons_zero, List.set_cons_succ]
                refine take_at (v := ?_) 5 79 rfl rfl (by kernel_rfl) (by kernel_rfl) (by kernel_rfl) (fun _ _ _ h => h) hHeld (Or.inl ⟨by rfl, ?_⟩) rfl ?_
                rotate_left
                · intro wq hSw
                  have hst := cB wq hSw
                  go_simp
                  try with_reducible rfl
                simp only [List.set_cons_zero, List.set_cons_succ]
                refine take_at (v := ?_) 6 80 rfl rfl (by kernel_rfl) (by kernel_rfl) (by kernel_rfl) (fun _ _ _ h => h) hHeld (Or.inl ⟨by rfl, ?_⟩) rfl ?_
                rotate_left
                · intro wq hSw
                  go_simp
                  try with_reducible rfl
                simp only [List.set_cons_zero, List.set_cons_succ]
                refine take_at (v := ?_) 7 81 rfl rfl (by kernel_rfl) (by kernel_rfl) (by kernel_rfl) (fun _ _ _ h => h) hHeld (Or.inl ⟨by rfl, ?_⟩) rfl ?_
                rotate_left
                · intro wq hSw
                  go_simp
                  try with_reducible rfl
                simp only [List.set_cons_zero, List.set_cons_succ]
                refine take_at 8 82 rfl rfl (by kernel_rfl) (by kernel_rfl) (by kernel_rfl) (fun _ _ _ h => h) hHeld (yieldsIf_load_agg (by rfl) 35 (.tmp 81) rfl _ _ (by rfl) (fun wq hSw => lC wq hSw)) rfl ?_
                simp only [List.set_cons_zero, List.set_cons_succ]
                refine wpAnyH_ready (rs := [9]) (by kernel_rfl) (by simp) ?_
                refine AllReadyH.cons rfl (fun K hK => ?_) AllReadyH.nil
                go_simp
                go_at_call 48
                refine HWI.out.mono ?_
                rintro e w8 ⟨v8, rfl, ho8, hb8⟩
                obtain ⟨sa, sc, rfl, hsc, h0s, hlo, hrs⟩ := ho8.shape HK5.out
                refine hK.out _ _ (Held.of hb8) (fun _ => ?_)
                clear hK K
                try simp only [Act.put, List.setIfInBounds_toArray, List.set_cons_zero, List.set_cons_succ]
                replace hHeld := Held.of hb8
                refine take_at (v := ?_) 10 0 rfl rfl (by kernel_rfl) (by kernel_rfl) (by kernel_rfl) (fun _ _ _ h => h) hHeld (Or.inl ⟨by rfl, ?_⟩) rfl ?_
                rotate_left
                · intro wq hSw
                  go_simp
                  try with_reducible rfl
                simp only [List.set_cons_zero]
                refine wpAnyH_done (by kernel_rfl) ?_ _
                have HY2 := Lib.hid (show Recs hvRec w8 sa K5 ((OL.take (j + 1)).foldl (fun l x => Cs.rwi l x.1 x.2) L2) ∧ (K5 ≤ sc ∧ (sa = none → sc = 0)) ∧ (∀ x, sa = some x → la = some x ∨ (w.heap.size ≤ x.block ∧ x.block < w8.heap.size)) from ⟨HTK.out.symm ▸ hrs, ⟨hsc, h0s⟩, fun x h => .inr ⟨Nat.le_trans HB1.out.size (Nat.le_trans hTs8.size (hlo x h).1), (hlo x h).2⟩⟩)
                have hb9 := hTs.trans (hb8.mono hTs.size)
                clear ho8 hsc h0s hrs lC lH cB hlo
                go_wp2
                go_roundw
                case rel => exact ⟨j + 1, sa, K5, sc, by omega, by go_num, rfl, HY2, hb9⟩
                case measure => (simp [intOf]; try omega)
              · have hjj : ¬ (j : Int) < (m : Int) := by omega
                obtain rfl : m = j := by omega
                have htk : OL.take m = OL := List.take_of_length_le (by rw [HOL.out, Cs.ownL, List.length_mapIdx, HIN.out.2]; omega)
                rw [htk, HRD.out] at HY
                clear htk
                go_wp2
                go_ret3
                rw [HZZ.out, HRS0.out HZZ.out]
                first | exact ⟨ya, yn, yq, _, rfl, HY.out.1, HY.out.2.1, HY.out.2.2, HB1.out.trans (hTu.mono HB1.out.size)⟩ | exact ⟨ya, yn, yq, rfl, HY.out.1, HY.out.2.1, HY.out.2.2, HB1.out.trans (hTu.mono HB1.out.size)⟩ | exact ⟨ya, yn, yq, ⟨_, rfl⟩, HY.out.1, HY.out.2.1, HY.out.2.2, HB1.out.trans (hTu.mono HB1.out.size)⟩
  · have hE : Cs.doE L D t = fe := by unfold Cs.doE; rw [← hfe]; exact if_neg h0
    rw [hE, if_neg h0]
    clear hE hfe
    go_enter Tryz.func18, Tryz.ntmps18
    go_upto_region 1 with fail
    rw [← HW.out]
    go_wp2_with (first
      | (go_at_call 49; refine HF.out.mono ?_; rintro e w2 ⟨rfl, hb2⟩)
      | (refine wpList_load_run rfl 39 (.tmp 3) rfl _ _ rfl lX ?_))
    go_ret3
    exact ⟨la, ln, lq, _, rfl, HL.out.below hb2, HLQ.out, fun _ h => .inl h, hB1.trans (hb2.mono hB1.size)⟩
end Go.Proofs.YtagjolbpmhbifaaGreatDoor
