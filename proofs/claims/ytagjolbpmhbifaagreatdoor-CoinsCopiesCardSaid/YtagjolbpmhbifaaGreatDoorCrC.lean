/- reference of coins: Spent, Fee (mkcrc.py) -/
import Derived.Test.YtagjolbpmhbifaaGreatDoorCrB
import Derived.Test.YtagjolbpmhbifaaGreatDoorCsy
namespace Go.Proofs.YtagjolbpmhbifaaGreatDoor
open Go Go.RowKit Go.ChangeShapes Go.WideShapes
theorem Cs.hv_ok {w : World} {a : Option Addr} {n : Nat} {L : List Cs.Hv} (h : Recs hvRec w a n L) : ∀ x, x ∈ L → hvRec.ok x := fun x hx => by
  obtain ⟨i, hi⟩ := List.mem_iff_getElem?.1 hx
  exact h.okay hi
theorem Cs.lk_ok {L : List Cs.Hv} (h : ∀ x, x ∈ L → hvRec.ok x) (p : Cs.Pt) : Tx.CoOk ((Cs.look L p).getD ⟨0, 0#64⟩) := by
  unfold Cs.look
  cases hi : Cs.idx p L with
  | none => exact ⟨by decide, by decide⟩
  | some r => exact (h _ (List.mem_of_getElem? (Cs.idx_at hi))).2
set_option maxRecDepth 100000 in
set_option maxHeartbeats 8000000 in
theorem r12spent (la : Option Addr) (ln lq : Nat) (L : List Cs.Hv) (a : Option Addr) (n q : Nat) (b : Option Addr) (m r : Nat) (t : Tx.T) (w : World) (hl : Recs hvRec w la ln L) (ht : TxAt w a n q b m r t) (hn : n ≤ 1000000) (o : Bool) (ho : o = true ↔ ∀ p, p ∈ t.sp.map Cs.pt → (Cs.look L p).isSome = true) :
    Calls Tryz.prog 51 #[.slice la ln lq, txv a n q b m r t.firm] w fun e w' => ∃ v, e = .returned (.tuple #[v, .bool o]) ∧ (o = true → OwnR coRec 35 w.heap.size w' v (Cs.spentOf L t)) ∧ Below w.heap.size w w' := by
  have hnmx : n ≤ 9223372036854775807 := ht.sp.2.1
  obtain ⟨W1, hW1⟩ : ∃ ww, ww = w.alloc (.cells #[.slice a n q, .slice b m r, .bool t.firm] 39 ) := ⟨_, rfl⟩
  have hB1 : Below w.heap.size w W1 := by rw [hW1]; exact (Below.refl _ _).alloc (Nat.le_refl _) _
  have hX : Has W1 w.heap.size 39 #[.slice a n q, .slice b m r, .bool t.firm] := by rw [hW1]; exact Has.fresh _ _ _
  have c0 := hX.cell_at (i := 0) (v := .slice a n q) rfl
  have HO := Lib.hid ho
  have HX := Lib.hid hX
  have HN := Lib.hid hn
  have HL := Lib.hid (hl.below hB1)
  have HLK := Lib.hid (Cs.hv_ok hl)
  have HS := Lib.hid (ht.sp.below hB1)
  have HW := Lib.hid hW1
  have HB1 := Lib.hid hB1
  obtain ⟨G, hG⟩ : ∃ G : Cs.Pt → Tx.Co, G = fun p => (Cs.look L p).getD ⟨0, 0#64⟩ := ⟨_, rfl⟩
  obtain ⟨CL, hCL⟩ : ∃ CL, CL = Cs.spentOf L t := ⟨_, rfl⟩
  have HCL := Lib.hid (show (t.sp.map Cs.pt).map G = CL by rw [hCL, hG]; rfl)
  have HG := Lib.hid hG
  rw [← hCL]
  obtain ⟨f, hf⟩ : ∃ f, f = t.firm := ⟨_, rfl⟩
  rw [← hf] at HW HX ⊢
  clear hW1 hX ht hn ho hl hG hCL hf hB1 c0
  go_enter Tryz.func51, Tryz.ntmps51
  go_upto_region 1 with fail
  rw [← HW.out]
  go_wp2
  have hO0 : RowKit.Hid (OwnR coRec 35 W1.heap.size W1 (.slice none 0 0) (((t.sp.take 0).map Cs.pt).map G)) := Lib.hid (OwnR.nil coRec 35 W1.heap.size W1)
  go_loopw [6, 7] (fun sv iv wr => ∃ (i : Nat) (ov : Value), i ≤ n ∧ iv = .int .i64 i ∧ ov = sv ∧ RowKit.Hid (OwnR coRec 35 W1.heap.size wr ov (((t.sp.take i).map Cs.pt).map G)) ∧ RowKit.Hid (∀ p, p ∈ (t.sp.take i).map Cs.pt → (Cs.look L p).isSome = true) ∧ Below W1.heap.size W1 wr) (fun _ iv _ => n - (intOf iv).toNat)
  case atStart => exact ⟨0, _, Nat.zero_le _, rfl, rfl, hO0, Lib.hid (fun p hp => by simp at hp), Below.refl _ _⟩
  case round =>
    clear hO0
    obtain ⟨i, ov, hi, rfl, rfl, HV, HA, hb⟩ := hrel
    have c0 := (HX.out.under hb HX.out.lt).cell_at (i := 0) (v := .slice a n q) rfl
    by_cases hlt : i < n
    · have hii : (i : Int) < (n : Int) := by omega
      have hi0 : (0 : Int) ≤ (i : Int) := by omega
      obtain ⟨s, hs⟩ := HS.out.get hlt
      obtain ⟨x, hax, _⟩ := HS.out.2.2.2 i s hs
      subst hax
      have hy := point_at (HS.out.below hb) hs
      have hok := HS.out.okay hs
      have HT := Lib.hid (show (t.sp.take (i + 1)).map Cs.pt = (t.sp.take i).map Cs.pt ++ [Cs.pt s] by
        obtain ⟨h2, h3⟩ := List.getElem?_eq_some_iff.1 hs
        rw [List.take_succ_eq_append_getElem h2, h3, List.map_append, List.map_singleton])
      have HSM := Lib.hid (List.mem_of_getElem? hs)
      have HLN := Lib.hid (show (((t.sp.take i).map Cs.pt).map G).length = i by rw [List.length_map, List.length_map, List.length_take, HS.out.1]; omega)
      obtain ⟨oc, hoc⟩ : ∃ o, o = (Cs.look L (Cs.pt s)).isSome := ⟨_, rfl⟩
      obtain ⟨c, hc⟩ : ∃ c, c = (Cs.look L (Cs.pt s)).getD ⟨0, 0#64⟩ := ⟨_, rfl⟩
      have HGT := Lib.hid (show Calls Tryz.prog 47 #[.slice la ln lq, .agg (ptCells s.h s.n).toArray] wr fun e w' => e = .returned (.tuple #[.agg (coCells c).toArray, .bool oc]) ∧ Below wr.heap.size wr w' by
        have h := r12get la ln lq L (Cs.pt s) hok.1 wr (HL.out.below hb)
        rw [← hc, ← hoc] at h
        exact h)
      have HCC := Lib.hid (show Tx.CoOk c by rw [hc]; exact Cs.lk_ok HLK.out _)
      have HGC := Lib.hid (show G (Cs.pt s) = c by rw [HG.out, hc])
      have HOC := Lib.hid hoc
      clear hs hok hoc hc
      go_upto_region 6 with (first
        | (refine wpList_store_mid rfl 35 (.tmp 8) (.tmp 26) rfl w2.heap.size 0 (coCells c).toArray rfl rfl ((Has.fresh w2 35 #[.int .i64 0, .int .u64 0]).there 0 2 (Nat.le_refl _)) (size_co c) (coRec.all_one c) ?_)
        | (go_at_call 47; refine HGT.out.mono ?_; rintro e w2 ⟨rfl, hb2⟩)
        | (refine wpList_load_run rfl 32 (.tmp 23) rfl _ _ rfl hy ?_))
      obtain ⟨w4, hw4⟩ : ∃ u, u = (w2.alloc (.cells #[.int .i64 0, .int .u64 0] 35 )).setCells w2.heap.size 0 (coCells c).toArray.toList := ⟨_, rfl⟩
      have hw4n : w4 = (w2.alloc (.cells #[.int .i64 0, .int .u64 0] 35 )).setCells w2.heap.size 0 (coCells c) := hw4
      have hb24 : Below w2.heap.size w2 w4 := by rw [hw4]; exact below_setAll (Nat.le_refl _) _ 0 ((Below.refl _ _).alloc (Nat.le_refl _) _)
      have hC4 : Has w4 w2.heap.size 35 (coCells c).toArray := by rw [hw4]; exact (Has.fresh w2 35 #[.int .i64 0, .int .u64 0]).whole_cs rfl
      first | rw [← hw4] | rw [← hw4n]
      obtain ⟨g4, hg4⟩ : ∃ g, g = w2.heap.size := ⟨_, rfl⟩
      rw [← hg4] at hC4 ⊢
      have hb4 := hb2.trans (hb24.mono hb2.size)
      have hT4 := hb.trans (hb4.mono hb.size)
      have hW4 := HB1.out.trans (hT4.mono HB1.out.size)
      have HV4 := Lib.hid (HV.out.below hb4)
      clear hw4 hw4n hg4 hy
      cases oc
      · obtain rfl : o = false := by
          cases o
          · rfl
          · have h := HO.out.1 rfl (Cs.pt s) (List.mem_map.2 ⟨s, HSM.out, rfl⟩)
            rw [← HOC.out] at h
            cases h
        go_wp2
        go_ret2
        exact ⟨_, rfl, by first | exact fun h => (by cases h) | trivial, hW4⟩
      · have lC := hC4.load_agg (P := Tryz.prog) (t := 35 ) Tryz.underlying35 rfl (size_co c)
        go_wp2_with (first
          | (at_builtin; refine wpList_append_recs (R := coRec) rfl (.tmp 30) (.tmp 32) 37 rfl 35 Tryz.underlying37 info_coin (by kernel_rfl) (by decide) W1.heap.size ov _ rfl (HV4.out.below ((Below.refl _ _).alloc (Nat.le_refl _) _)) (some ⟨w4.heap.size, 0, none⟩) 1 1 [c] rfl (co_fresh HCC.out) (fun e => by cases e) (by rw [HLN.out]; have := HN.out; omega) (by have := hT4.size; simp; omega) ?_; intro v' w6 ho' hg' hl')
          | (refine wpList_build_row rfl (.tmp 31) 37 rfl 35 Tryz.underlying37 info_coin (by decide) (by decide) (coCells c).toArray rfl rfl ?_)
          | (refine wpList_load_run rfl 35 (.tmp 8) rfl _ _ rfl lC ?_))
        have hT6 := below_own_recs (hT4.alloc hT4.size _) hg' HV4.out.lt
        have HO2 := Lib.hid (show OwnR coRec 35 W1.heap.size w6 v' (((t.sp.take (i + 1)).map Cs.pt).map G) by rw [HT.out, List.map_append, List.map_singleton, HGC.out]; exact ho')
        have HA2 := Lib.hid (show ∀ p, p ∈ (t.sp.take (i + 1)).map Cs.pt → (Cs.look L p).isSome = true from fun p hp => by
          rw [HT.out] at hp
          rcases List.mem_append.1 hp with h | h
          · exact HA.out p h
          · rw [List.mem_singleton.1 h, ← HOC.out])
        clear ho' hg' hl' lC
        go_roundw
        case rel => exact ⟨i + 1, v', by omega, by go_num, rfl, HO2, HA2, hT6⟩
        case measure => (simp [intOf]; try omega)
    · have hii : ¬ (i : Int) < (n : Int) := by omega
      obtain rfl : i = n := by omega
      have htk : t.sp.take i = t.sp := List.take_of_length_le (by rw [HS.out.1]; omega)
      have HE := Lib.hid (show ((t.sp.take i).map Cs.pt).map G = CL by rw [htk, HCL.out])
      obtain rfl : o = true := HO.out.2 (by have h := HA.out; rw [htk] at h; exact h)
      clear htk
      go_wp2
      go_ret2
      exact ⟨_, rfl, by first | exact fun _ => (HE.out ▸ HV.out).low HB1.out.size | exact (HE.out ▸ HV.out).low HB1.out.size, HB1.out.trans (hb.mono HB1.out.size)⟩
set_option maxRecDepth 100000 in
set_option maxHeartbeats 8000000 in
theorem r12fee (la : Option Addr) (ln lq : Nat) (L : List Cs.Hv) (a : Option Addr) (n q : Nat) (b : Option Addr) (m r : Nat) (t : Tx.T) (w : World) (hl : Recs hvRec w la ln L) (ht : TxAt w a n q b m r t) (hs : Tx.Small t) (hT : Tab32 w 2 Dg.kL) :
    Calls Tryz.prog 49 #[.slice la ln lq, txv a n q b m r t.firm] w fun e w' => e = .returned (.tuple #[.int .i64 (Cs.feeV L t), .int .i64 (Cs.feeE L t)]) ∧ Below w.heap.size w w' := by
  have hn6 : n ≤ 1000000 := by have := hs.1; have := ht.sp.1; omega
  have hm6 : m ≤ 1000000 := by have := hs.2.1; have := ht.co.1; omega
  obtain ⟨W1, hW1⟩ : ∃ ww, ww = w.alloc (.cells #[.slice a n q, .slice b m r, .bool t.firm] 39 ) := ⟨_, rfl⟩
  have hB1 : Below w.heap.size w W1 := by rw [hW1]; exact (Below.refl _ _).alloc (Nat.le_refl _) _
  have hX : Has W1 w.heap.size 39 #[.slice a n q, .slice b m r, .bool t.firm] := by rw [hW1]; exact Has.fresh _ _ _
  have lX := hX.load_agg (P := Tryz.prog) (t := 39 ) Tryz.underlying39 rfl (by kernel_rfl)
  have HX := Lib.hid (fun (w' : World) (hb : Below W1.heap.size W1 w') => (hX.under hb hX.lt).load_agg (P := Tryz.prog) (t := 39 ) Tryz.underlying39 rfl (by kernel_rfl))
  obtain ⟨c1, hc1⟩ : ∃ c, c = Tx.check t := ⟨_, rfl⟩
  have HC := Lib.hid (show Calls Tryz.prog 76 #[txv a n q b m r t.firm] W1 fun e w' => e = .returned (.int .i64 c1) ∧ Below W1.heap.size W1 w' from hc1 ▸ rcheck_any a n q b m r t W1 (ht.below hB1))
  have HT := Lib.hid (ht.below hB1)
  have HL := Lib.hid (hl.below hB1)
  have HSM := Lib.hid hs
  have HK := Lib.hid (hT.below hB1)
  have HN := Lib.hid (And.intro hn6 hm6)
  have HW := Lib.hid hW1
  have HLN := Lib.hid (show (Cs.spentOf L t).length = n by unfold Cs.spentOf; rw [List.length_map, List.length_map, ht.sp.1])
  clear hW1 hX ht hs hT hl hn6 hm6
  by_cases h0 : c1 = 0
  · have HC0 := Lib.hid (show Tx.check t = 0 from hc1.symm.trans h0)
    obtain ⟨o1, ho1⟩ : ∃ o : Bool, o = decide (∀ p, p ∈ t.sp.map Cs.pt → (Cs.look L p).isSome = true) := ⟨_, rfl⟩
    have HO := Lib.hid (show o1 = true ↔ ∀ p, p ∈ t.sp.map Cs.pt → (Cs.look L p).isSome = true by rw [ho1, decide_eq_true_eq])
    have HSP := Lib.hid (fun (w' : World) (hb : Below W1.heap.size W1 w') => r12spent la ln lq L a n q b m r t w' (HL.out.below hb) (HT.out.below hb) HN.out.1 o1 HO.out)
    clear ho1 hc1
    have H0 := Lib.hid h0
    cases o1
    · have hE : Cs.feeE L t = 7 := by unfold Cs.feeE; rw [if_pos HC0.out, if_neg (fun h => by cases HO.out.2 h)]
      have hV : Cs.feeV L t = 0 := by unfold Cs.feeV; rw [hE]; rfl
      rw [hE, hV]
      clear hE hV
      go_enter Tryz.func49, Tryz.ntmps49
      go_upto_region 1 with fail
      rw [← HW.out]
      go_wp2_with (first
        | (go_at_call 51; refine (HSP.out w2 hb2).mono ?_; rintro e w3 ⟨v3, rfl, _, hb3⟩)
        | (go_at_call 76; refine HC.out.mono ?_; rintro e w2 ⟨rfl, hb2⟩; have lX2 := HX.out w2 hb2)
        | (refine wpList_load_run rfl 39 (.tmp 3) rfl _ _ rfl lX ?_)
        | (refine wpList_load_run rfl 39 (.tmp 3) rfl _ _ rfl lX2 ?_))
      go_ret2
      exact ⟨rfl, hB1.trans ((hb2.trans (hb3.mono hb2.size)).mono hB1.size)⟩
    · have hall := HO.out.1 rfl
      have hpar := Cs.check_parts HC0.out
      obtain ⟨S, hS⟩ : ∃ S, S = Cs.spentOf L t := ⟨_, rfl⟩
      obtain ⟨c2, hc2⟩ : ∃ c, c = Lk.check t S := ⟨_, rfl⟩
      rw [← hS] at HSP HLN
      have HLC := Lib.hid (show ∀ w' sa sc, Below W1.heap.size W1 w' → Recs coRec w' sa n S → Calls Tryz.prog 77 #[txv a n q b m r t.firm, .slice sa n sc] w' fun e w2 => e = .returned (.int .i64 c2) ∧ Below w'.heap.size w' w2 from fun w' sa sc hb hr => hc2 ▸ rlcheck_any a n q b m r t sa n sc S w' (HT.out.below hb) HSM.out hr (HK.out.below hb))
      obtain ⟨T, hT⟩ : ∃ T, T = Am.total (Tx.vals S) 0 := ⟨_, rfl⟩
      obtain ⟨O, hO⟩ : ∃ O, O = (Cs.outT t).1 := ⟨_, rfl⟩
      have HE := Lib.hid (show Cs.feeE L t = if c2 = 0 then if T.2 = 0 then if T.1 < O then 9 else 0 else T.2 else c2 by
        unfold Cs.feeE
        rw [if_pos HC0.out, if_pos hall, ← hS, ← hc2, show Cs.inT L t = T by rw [hT, hS]; rfl, ← hO])
      have HVV := Lib.hid (show Cs.feeE L t = 0 → Cs.feeV L t = T.1 - O from fun h => by
        unfold Cs.feeV
        rw [if_pos h, show Cs.inT L t = T by rw [hT, hS]; rfl, ← hO])
      have HV0 := Lib.hid (show ¬ Cs.feeE L t = 0 → Cs.feeV L t = 0 from fun h => by unfold Cs.feeV; exact if_neg h)
      have HOG := Lib.hid (show Am.Good O by rw [hO]; exact Cs.total_isgood _ 0 (by decide) hpar.2.2)
      have HTG := Lib.hid (show T.2 = 0 → Am.Good T.1 from fun h => by
        rw [hT] at h ⊢
        exact Cs.total_isgood _ 0 (by decide) h)
      have HWS := Lib.hid (show ∀ w' sa sc, Recs coRec w' sa n S → Calls Tryz.prog 55 #[.slice sa n sc] w' fun e w2 => e = .returned (.tuple #[.int .i64 T.1, .int .i64 T.2]) ∧ Below w'.heap.size w' w2 from fun w' sa sc hr => hT ▸ r12worth sa n sc S w' hr HN.out.1)
      have HOU := Lib.hid (show ∀ w', Below W1.heap.size W1 w' → ∃ O2 : Int, Calls Tryz.prog 78 #[txv a n q b m r t.firm] w' fun e w2 => e = .returned (.tuple #[.int .i64 O, .int .i64 O2]) ∧ Below w'.heap.size w' w2 from fun w' hb => ⟨_, by
        rw [hO]
        exact rout_any a n q b m r t w' (HT.out.below hb) HN.out.2⟩)
      clear hS hc2 hT hO hall hpar HSM HK
      obtain ⟨T1, T2⟩ := T
      dsimp only at HE HVV HTG HWS
      go_enter Tryz.func49, Tryz.ntmps49
      go_upto_region 1 with fail
      rw [← HW.out]
      go_upto_region 4 with (first
        | (go_at_call 76; refine HC.out.mono ?_; rintro e w2 ⟨rfl, hb2⟩)
        | (refine wpList_load_run rfl 39 (.tmp 3) rfl _ _ rfl lX ?_))
      clear lX
      have lX := HX.out w2 hb2
      have HSP2 := Lib.hid (HSP.out w2 hb2)
      go_upto_region 7 with (first
        | (go_at_call 51; refine HSP2.out.mono ?_; rintro e w5 ⟨v5, rfl, ho5, hb5⟩; obtain ⟨sa, sc, rfl, hsc, h0s, _, hrs⟩ := (ho5 (by trivial)).shape HLN.out)
        | (refine wpList_load_run rfl 39 (.tmp 3) rfl _ _ rfl lX ?_))
      have hT5 := hb2.trans (hb5.mono hb2.size)
      clear lX ho5
      have lX := HX.out w5 hT5
      have HL5 := Lib.hid (HLC.out w5 sa sc hT5 hrs)
      clear hb2 hb5
      by_cases h2 : c2 = 0
      · have H2 := Lib.hid h2
        go_upto_region 10 with (first
          | (go_at_call 77; refine HL5.out.mono ?_; rintro e w6 ⟨rfl, hb6⟩)
          | (refine wpList_load_run rfl 39 (.tmp 3) rfl _ _ rfl lX ?_))
        have hT6 := hT5.trans (hb6.mono hT5.size)
        have HW6 := Lib.hid (HWS.out w6 sa sc (hrs.below hb6))
        clear lX hb6
        rw [if_pos H2.out] at HE
        by_cases h3 : T2 = 0
        · rw [if_pos h3] at HE
          have H3 := Lib.hid h3
          go_upto_region 13 with (go_at_call 55; refine HW6.out.mono ?_; rintro e w8 ⟨rfl, hb8⟩)
          have hT8 := hT6.trans (hb8.mono hT6.size)
          have lX := HX.out w8 hT8
          have hTg := HTG.out H3.out
          obtain ⟨O2, hO2⟩ := HOU.out w8 hT8
          have HO8 := Lib.hid hO2
          have hOg := HOG.out
          clear hb8 hT6 hT5 hO2
          obtain ⟨t1, t2⟩ := hTg
          obtain ⟨t3, t4⟩ := hOg
          by_cases h4 : T1 < O
          · rw [if_pos h4] at HE
            have hV := HV0.out (by rw [HE.out]; decide)
            go_wp2_with (first
              | (go_at_call 78; refine HO8.out.mono ?_; rintro e w9 ⟨rfl, hb9⟩)
              | (refine wpList_load_run rfl 39 (.tmp 3) rfl _ _ rfl lX ?_))
            go_ret2
            rw [HE.out, hV]
            exact ⟨rfl, hB1.trans ((hT8.trans (hb9.mono hT8.size)).mono hB1.size)⟩
          · rw [if_neg h4] at HE
            have hV := HVV.out HE.out
            go_wp2_with (first
              | (go_at_call 78; refine HO8.out.mono ?_; rintro e w9 ⟨rfl, hb9⟩)
              | (refine wpList_load_run rfl 39 (.tmp 3) rfl _ _ rfl lX ?_))
            go_ret2
            rw [HE.out, hV]
            exact ⟨rfl, hB1.trans ((hT8.trans (hb9.mono hT8.size)).mono hB1.size)⟩
        · rw [if_neg h3] at HE
          have hV := HV0.out (by rw [HE.out]; exact h3)
          go_wp2_with (go_at_call 55; refine HW6.out.mono ?_; rintro e w8 ⟨rfl, hb8⟩)
          go_ret2
          rw [HE.out, hV]
          exact ⟨rfl, hB1.trans ((hT6.trans (hb8.mono hT6.size)).mono hB1.size)⟩
      · rw [if_neg h2] at HE
        have hV := HV0.out (by rw [HE.out]; exact h2)
        go_wp2_with (first
          | (go_at_call 77; refine HL5.out.mono ?_; rintro e w6 ⟨rfl, hb6⟩)
          | (refine wpList_load_run rfl 39 (.tmp 3) rfl _ _ rfl lX ?_))
        go_ret2
        rw [HE.out, hV]
        exact ⟨rfl, hB1.trans ((hT5.trans (hb6.mono hT5.size)).mono hB1.size)⟩
  · have hE : Cs.feeE L t = c1 := by unfold Cs.feeE; rw [← hc1]; exact if_neg h0
    have hV : Cs.feeV L t = 0 := by unfold Cs.feeV; rw [hE]; exact if_neg h0
    rw [hE, hV]
    clear hE hV hc1
    go_enter Tryz.func49, Tryz.ntmps49
    go_upto_region 1 with fail
    rw [← HW.out]
    go_wp2_with (first
      | (go_at_call 76; refine HC.out.mono ?_; rintro e w2 ⟨rfl, hb2⟩)
      | (refine wpList_load_run rfl 39 (.tmp 3) rfl _ _ rfl lX ?_))
    go_ret2
    exact ⟨rfl, hB1.trans (hb2.mono hB1.size)⟩
end Go.Proofs.YtagjolbpmhbifaaGreatDoor
