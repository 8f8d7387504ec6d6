/- CoinsBack, over the premise (mkcsx.py; in work) -/
import Derived.Test.YtkfijllghbopkaaGreatDoorCsV
import Derived.Test.YtkfijllghbopkaaGreatDoorCsL
import Derived.Test.YtkfijllghbopkaaGreatDoorCsu
import Derived.Test.YtkfijllghbopkaaGreatDoorCth
namespace Go.Proofs.YtkfijllghbopkaaGreatDoor
open Go Go.RowKit Go.ChangeShapes Go.WideShapes
set_option maxRecDepth 100000 in
set_option maxHeartbeats 8000000 in
theorem cbackMain {S : World → Value → Fp → Cs.Mp → Prop} (ok : CoinsOk2 S) (a : Option Addr) (n q : Nat) (L : List Cs.Ac) (b : Option Addr) (m r : Nat) (K : List Tx.V) (W : World) (h : Recs (acIn W) W a n L) (hnq : n ≤ q ∧ (a = none → q = 0)) (hk : Recs (vIn W) W b m K) (hmr : m ≤ r ∧ (b = none → r = 0)) (hK : KDg W) :
    Calls Tryz.prog 3 #[.slice a n q, .slice b m r] W fun e w' => e = .returned (.bool true) ∧ Below W.heap.size W w' := by
  have HLA := Lib.hid h
  have HLK := Lib.hid hk
  have HKD := Lib.hid hK
  have HOK := ok.toCoinsOk
  have HO2 := ok
  have HQ := Lib.hid (And.intro hnq hmr)
  have hnmx : n ≤ 9223372036854775807 := h.2.1
  have hmmx : m ≤ 9223372036854775807 := hk.2.1
  clear h hk hK ok hnq hmr
  go_enter Tryz.func3, Tryz.ntmps3
  go_upto_region 3 with (go_at_call 5; refine (alive12 HOK W HKD.out).mono ?_; rintro e w2 ⟨rfl, hb2⟩)
  go_upto_region 5 with (first
    | (go_at_call 7; refine (large_any b m r K w3 (HLK.out.below hT3 |>.txs hT3)).mono ?_; rintro e w4 ⟨bl, rfl, hbl, hb4⟩; have HBL := Lib.hid hbl; clear hbl; have hT4 := hT3.trans (hb4.mono hT3.size))
    | (go_at_call 6; refine (clong_any a n q L w2 (HLA.out.below hb2) hb2).mono ?_; rintro e w3 ⟨z, rfl, hz, hb3⟩; have HZ := Lib.hid hz; clear hz; have hT3 := hb2.trans (hb3.mono hb2.size)))
  all_goals try (go_ret; first | exact ⟨rfl, hT4⟩ | exact ⟨rfl, hT3⟩)
  have hzf : z = false := by first | rfl | assumption | simp_all
  have hblf : bl = false := by first | rfl | assumption | simp_all
  have HSA := Lib.hid (HZ.out hzf)
  have HSK := Lib.hid (HBL.out hblf)
  clear hzf hblf HZ HBL hb2 hb3 hb4 hT3
  obtain ⟨B, hB⟩ : ∃ B, B = w4.heap.size := ⟨_, rfl⟩
  have HB := Lib.hid hB
  go_upto_region 6 with (go_at_call 8; refine (HOK.new w4).mono ?_; rintro e w5 ⟨v, F0, rfl, hS, hF, hb5⟩)
  rw [← hB] at hF hb5
  have hBw5 : B ≤ w5.heap.size := by rw [hB]; exact hb5.size
  clear hB
  have HS0 := Lib.hid (show ∃ (F : Fp) (M : Cs.Mp), S w5 v F M ∧ (∀ j, F j → B ≤ j) ∧ Below B w4 w5 ∧ B ≤ w5.heap.size ∧ M.length ≤ 0 from ⟨F0, [], hS, hF, hb5, hBw5, Nat.le_refl _⟩)
  clear hS hF hb5 hBw5
  go_wp2
  go_loopw [42] (fun iv wr => ∃ i : Nat, i ≤ n ∧ iv = .int .i64 i ∧ RowKit.Hid (∃ (F : Fp) (M : Cs.Mp), S wr v F M ∧ (∀ j, F j → B ≤ j) ∧ Below B w4 wr ∧ B ≤ wr.heap.size ∧ M.length ≤ i)) (fun iv _ => n - (intOf iv).toNat)
  case atStart => exact ⟨0, Nat.zero_le _, rfl, HS0⟩
  case round =>
    obtain ⟨i, hi, rfl, HS⟩ := hrel
    clear HS0
    by_cases hlt : i < n
    · have hii : (i : Int) < (n : Int) := by omega
      have hi0 : (0 : Int) ≤ (i : Int) := by omega
      obtain ⟨F1, M1, hS, hF, hbr, hBr, hLn⟩ := HS.out
      have hb4 : Below w4.heap.size w4 wr := by rw [← HB.out]; exact hbr
      have hTr := hT4.trans (hb4.mono hT4.size)
      obtain ⟨x, hx⟩ := HLA.out.get hlt
      have hok : x.At W := HLA.out.okay hx
      obtain ⟨y, hay, _⟩ := HLA.out.2.2.2 i x hx
      subst hay
      have hy := (HLA.out.below hTr).load_at Tryz.underlying41 rfl size_act hx
      have HOW := Lib.hid hok
      have HSZ := Lib.hid (show (acCells x).toArray.size = 40 by rw [List.size_toArray, acCells_len hok.pt.1])
      clear hx hok hb4 HS
      go_upto_region 9 with (first
        | (refine wpList_store_mid rfl 41 (.tmp 7) (.tmp 45) rfl wr.heap.size 0 (acCells x).toArray rfl rfl (by rw [HSZ.out]; exact (Has.fresh _ _ _).there 0 40 (by decide)) (by rw [HSZ.out]; exact size_act) ((acIn W).all_one x) ?_)
        | (refine wpList_load_run rfl 41 (.tmp 44) rfl _ _ rfl hy ?_))
      obtain ⟨w5', hw5⟩ : ∃ u, u = (wr.alloc (.cells zAc 41)).setCells wr.heap.size 0 (acCells x) := ⟨_, rfl⟩
      obtain ⟨hG, hb5⟩ := Rec.new (R := acIn W) rfl HOW.out hw5
      rw [← hw5]
      clear hw5 hy
      obtain ⟨g7, hg7⟩ : ∃ g, g = wr.heap.size := ⟨_, rfl⟩
      rw [← hg7] at hG ⊢
      clear hg7
      have hS5 := HOK.below hS hb5
      have hB5 : Below B w4 w5' := hbr.trans (hb5.mono hBr)
      have hBr5 : B ≤ w5'.heap.size := Nat.le_trans hBr hb5.size
      have c0 := hG.acKind
      have lP := hG.acPt HOW.out.pt.1
      have lC := hG.acCo HOW.out.pt.1
      clear hG hb5 hS hbr hBr
      by_cases hk0 : x.kind = 0
      · go_wp2_with (first
          | (go_at_call 9; refine (HOK.put hS5 x.p HOW.out.pt x.c HOW.out.co).mono ?_; rintro e w9 ⟨F2, M2, rfl, hS9, _, hg9, hm9, hl9⟩)
          | (refine wpList_load_run rfl 32 (.tmp 50) rfl _ _ rfl lP ?_)
          | (refine wpList_load_run rfl 35 (.tmp 52) rfl _ _ rfl lC ?_))
        have HS2 := Lib.hid (show ∃ (F : Fp) (M : Cs.Mp), S w9 v F M ∧ (∀ j, F j → B ≤ j) ∧ Below B w4 w9 ∧ B ≤ w9.heap.size ∧ M.length ≤ i + 1 from ⟨F2, M2, hS9, fun j h => (hg9 j h).elim (hF j) (fun h => Nat.le_trans hBr5 h), hB5.trans (hm9.below hF hBr5), Nat.le_trans hBr5 hm9.size, by omega⟩)
        go_roundw
        case rel => exact ⟨i + 1, by omega, by go_num, HS2⟩
        case measure => (simp [intOf]; try omega)
      · go_wp2
        have HS2 := Lib.hid (show ∃ (F : Fp) (M : Cs.Mp), S w5' v F M ∧ (∀ j, F j → B ≤ j) ∧ Below B w4 w5' ∧ B ≤ w5'.heap.size ∧ M.length ≤ i + 1 from ⟨F1, M1, hS5, hF, hB5, hBr5, by omega⟩)
        go_roundw
        case rel => exact ⟨i + 1, by omega, by go_num, HS2⟩
        case measure => (simp [intOf]; try omega)
    · have hii : ¬ (i : Int) < (n : Int) := by omega
      obtain rfl : i = n := by omega
      clear hi hlt
      obtain ⟨F1, M1, hS, hF, hbr, hBr, hLn⟩ := HS.out
      have hb4 : Below w4.heap.size w4 wr := by rw [← HB.out]; exact hbr
      have hTr := hT4.trans (hb4.mono hT4.size)
      clear HS hb4
      have hL41 : M1.length ≤ 41 := by
        have h1 := HSA.out.1
        have h2 : L.length = i := HLA.out.1
        omega
      have hwt := HOK.worth hS (by omega)
      obtain ⟨ez, hez⟩ : ∃ z, z = (Cs.worthT M1).2 := ⟨_, rfl⟩
      obtain ⟨wv, hwv⟩ : ∃ z, z = (Cs.worthT M1).1 := ⟨_, rfl⟩
      rw [← hez, ← hwv] at hwt
      by_cases he : ez = 0
      · rw [he, show errn 0 = Value.nilIface from rfl] at hwt
        have HWT := Lib.hid hwt
        have HGW := Lib.hid (show wv = Cs.worth M1 ∧ Am.Good (Cs.worth M1) from by
          have h := Cs.worthT_ok (M := M1) (by rw [← hez]; exact he)
          exact ⟨by rw [hwv]; exact h.1, h.2⟩)
        clear hwt hez hwv he
        go_upto_region 16 with (first
          | (go_at_call 11; refine (HO2.copy (HOK.below hS hb13)).mono ?_; rintro e w15 ⟨v0, F0, M0, rfl, hS0, hl0, hF0, hb15, hln0⟩)
          | (go_at_call 10; refine HWT.out.mono ?_; rintro e w13 ⟨rfl, hb13⟩))
        go_upto_region 17 with fail
        obtain ⟨w16, hw16⟩ : ∃ u, u = w15.alloc (.cells #[] 50) := ⟨_, rfl⟩
        have hb16 : Below w15.heap.size w15 w16 := by rw [hw16]; exact (Below.refl _ _).alloc (Nat.le_refl _) _
        obtain ⟨E, hE⟩ : ∃ E, E = w15.heap.size := ⟨_, rfl⟩
        have hoE : OwnR uRec 50 E w16 (.slice (some ⟨E, 0, none⟩) 0 0) [] := OwnR.empty (Nat.le_refl _) (by rw [hE, hw16]; exact Has.fresh _ _ _)
        rw [← hw16]
        have hb1 := hb13.trans ((hb15.trans (hb16.mono hb15.size)).mono hb13.size)
        have hlt := HOK.lt hS
        have hlt0 := HOK.lt hS0
        have HLP := Lib.hid (show Lp S B E w4 v v0 M0 w16 F1 F0 M1 (some ⟨E, 0, none⟩) 0 0 [] (Cs.pairs []) from
          { s := HOK.below hS hb1, s0 := HOK.below hS0 hb16, hF := hF
            hF0 := fun j hj => ⟨by have := hF0 j hj; have := hb13.size; omega, fun e => by have := hF0 j hj; have := hlt j e; have := hb13.size; omega⟩
            o := hoE
            oF := fun j hj => by
              have e : j = E := by injection hj with e; exact e.symm
              exact ⟨fun e2 => by have := hlt j e2; have := hb13.size; have := hb15.size; omega, fun e2 => by have := hlt0 j e2; omega⟩
            us := (fun x hx => by cases hx)
            ch := fun q => (hl0 q).symm
            bl := hbr.trans (hb1.mono hBr)
            sz := by rw [hE]; exact hb16.size
            bd := by have := hb13.size; have := hb15.size; omega })
        rw [← hE]
        have HWV := Lib.hid (show (Value.int .i64 wv) = .int .i64 (Cs.worth M1) from by rw [HGW.out.1])
        clear hw16 hb16 hE hoE hb1 hlt hlt0 hS hS0 hl0 hF0 hF hbr hBr hb13 hb15 HWT
        go_wp2
        go_loopw [8, 11, 68] (fun zv ov iv wr => ∃ (i : Nat) (oa : Option Addr) (oq : Nat) (U : List Cs.U) (F : Fp) (M : Cs.Mp), i ≤ m ∧ iv = .int .i64 i ∧ ov = .slice oa U.length oq ∧ RowKit.Hid (zv = .int .i64 (Cs.worth M) ∧ Lp S B E w4 v v0 M0 wr F F0 M oa U.length oq U (Cs.pairs U) ∧ Am.Good (Cs.worth M) ∧ U.length ≤ i ∧ M.length ≤ 41 + 30 * i)) (fun _ _ iv _ => m - (intOf iv).toNat)
        case atStart => exact ⟨0, _, 0, [], F1, M1, Nat.zero_le _, rfl, rfl, Lib.hid ⟨HWV.out, HLP.out, HGW.out.2, Nat.le_refl _, hL41⟩⟩
        case round =>
          rename World => wt
          obtain ⟨i2, oa, oq, U, F2, M2, hi2, rfl, rfl, HI⟩ := hrel
          clear HLP HWV HGW
          by_cases hlt2 : i2 < m
          · have hii2 : (i2 : Int) < (m : Int) := by omega
            have hi02 : (0 : Int) ≤ (i2 : Int) := by omega
            obtain ⟨hzv, hlp, hgw, hul, hln⟩ := HI.out
            subst hzv
            have hb4w : Below w4.heap.size w4 wt := by
              have h := hlp.bl
              rw [HB.out] at h
              exact h
            have hTw := hT4.trans (hb4w.mono hT4.size)
            obtain ⟨⟨xa, xn, xq, xb, xm, xr, xt⟩, hx⟩ := HLK.out.get hlt2
            obtain ⟨y, hay, hy, hat⟩ := ((HLK.out.below hTw).txs hTw).load hx
            subst hay
            have HAT4 := Lib.hid (show TxAt w4 xa xn xq xb xm xr xt from by
              obtain ⟨_, _, _, h9⟩ := ((HLK.out.below hT4).txs hT4).load hx
              exact h9)
            have HSX := Lib.hid (HSK.out.2 _ (List.mem_of_getElem? hx))
            clear hx hb4w HI
            go_upto_region 20 with (refine wpList_load_run rfl 39 (.tmp 70) rfl _ _ rfl hy ?_)
            obtain ⟨w19, hw19⟩ : ∃ u, u = wt.alloc (.cells #[.slice xa xn xq, .slice xb xm xr, .bool xt.firm] 39) := ⟨_, rfl⟩
            have hb19 : Below wt.heap.size wt w19 := by rw [hw19]; exact (Below.refl _ _).alloc (Nat.le_refl _) _
            have hX : Has w19 wt.heap.size 39 #[.slice xa xn xq, .slice xb xm xr, .bool xt.firm] := by rw [hw19]; exact Has.fresh _ _ _
            rw [← hw19]
            obtain ⟨g13, hg13⟩ : ∃ g, g = wt.heap.size := ⟨_, rfl⟩
            rw [← hg13] at hX ⊢
            have HF13 := Lib.hid (show ¬ F2 g13 from fun e => by have := HOK.lt hlp.s g13 e; omega)
            have hl19 := hlp.below HOK hb19
            have hT19 := hTw.trans (hb19.mono hTw.size)
            have HX := Lib.hid hX
            have HAT := Lib.hid (hat.below hb19)
            obtain ⟨de, hde⟩ : ∃ z, z = Cs.doE M2 (Tx.idOf false xt) xt := ⟨_, rfl⟩
            obtain ⟨ee, hee⟩ : ∃ z, z = errn (Cs.feeE M2 xt) := ⟨_, rfl⟩
            obtain ⟨fv, hfv⟩ : ∃ z, z = Cs.feeV M2 xt := ⟨_, rfl⟩
            have hfe := HOK.fee hl19.s xa xn xq xb xm xr xt HAT.out HSX.out (HKD.out.below hT19)
            rw [← hee, ← hfv] at hfe
            have HFE := Lib.hid hfe
            have HDE := Lib.hid (And.intro hde (And.intro hee hfv))
            have HL := Lib.hid hl19
            have HT := Lib.hid hT19
            have HDO := Lib.hid (fun (w20 : World) (hb : Below w19.heap.size w19 w20) => HOK.do_ (HL.out.below HOK hb).s xa xn xq xb xm xr xt (HAT.out.below hb) HSX.out ((HKD.out.below HT.out).below hb))
            clear hde hee hfv hfe hl19 hT19 hX hw19 hy hat hlp hg13 hb19
            have lX := (HX.out).load_agg (P := Tryz.prog) (t := 39) Tryz.underlying39 rfl (by kernel_rfl)
            go_upto_region 21 with (first
              | (go_at_call 12; refine HFE.out.mono ?_; rintro e w20 ⟨rfl, hb20⟩)
              | (refine wpList_load_run rfl 39 (.tmp 74) rfl _ _ rfl lX ?_)
              | (refine wpList_load_run rfl 39 (.tmp 13) rfl _ _ rfl lX ?_))
            clear lX
            have lX := (HX.out.under hb20 HX.out.lt).load_agg (P := Tryz.prog) (t := 39) Tryz.underlying39 rfl (by kernel_rfl)
            by_cases hd : de = 0
            · have hen : errn de = Value.nilIface := by rw [hd]; rfl
              have HDN := Lib.hid (HDO.out w20 hb20)
              have hd0 : Cs.doE M2 (Tx.idOf false xt) xt = 0 := HDE.out.1.symm.trans hd
              have hfe0 : Cs.feeE M2 xt = 0 := (Cs.do_parts hd0).1
              have hee0 : ee = Value.nilIface := by rw [HDE.out.2.1, hfe0]; rfl
              have HEE := Lib.hid hee0
              go_upto_region 22 with (first
                | (go_at_call 13; refine HDN.out.mono ?_; rintro e w21 ⟨F3, M3, ua, un, uq, ub, um, ur, uc, uk, ul, u, sp, rfl, hS3, hU3, hE0, _, hg3, hm3, hln3⟩; rw [← HDE.out.1, hen])
                | (refine wpList_load_run rfl 39 (.tmp 13) rfl _ _ rfl lX ?_))
              clear lX
              obtain ⟨hdo, hu, hsp⟩ := hE0 hd0
              have hu' : xt = u := hu.symm
              subst hu'
              have hsp' : Cs.spentOf M2 xt = sp := hsp.symm
              subst hsp'
              clear hu hsp hE0 HDN
              obtain ⟨w22, hw22⟩ : ∃ x, x = w21.alloc (.cells #[.slice ua un uq, .slice ub um ur, .bool xt.firm, .slice uc uk ul] 50) := ⟨_, rfl⟩
              have hb22 : Below w21.heap.size w21 w22 := by rw [hw22]; exact (Below.refl _ _).alloc (Nat.le_refl _) _
              have hY : Has w22 w21.heap.size 50 #[.slice ua un uq, .slice ub um ur, .bool xt.firm, .slice uc uk ul] := by rw [hw22]; exact Has.fresh _ _ _
              rw [← hw22]
              obtain ⟨g16, hg16⟩ : ∃ g, g = w21.heap.size := ⟨_, rfl⟩
              rw [← hg16] at hY ⊢
              clear hw22 hg16
              have hl20 := HL.out.below HOK hb20
              have hk2 := HOK.keys hl20.s
              have hk3 := HOK.keys hS3
              have hww := Cs.do_worthT hk2.1 hk3.1 (fun x hx => (hk3.2 x hx).2.2) hd0 hdo hgw
              have hl22 := (hl20.call HOK hS3 hm3 hg3 (Cs.chain_do hl20.ch hd0 hdo)).below HOK hb22
              obtain ⟨X, hXd⟩ : ∃ X : Cs.U, X = ⟨ua, un, uq, ub, um, ur, xt.firm, uc, uk, ul, xt, Cs.spentOf M2 xt⟩ := ⟨_, rfl⟩
              have hXat : X.At E w22 F3 := by
                rw [hXd]
                exact ⟨(hU3.low hl20.sz).below hb22, rfl, HSX.out, Cs.spent_good (fun x hx => (hk2.2 x hx).2.2) xt⟩
              have hXc : uCells X = [.slice ua un uq, .slice ub um ur, .bool xt.firm, .slice uc uk ul] := by rw [hXd]; rfl
              have hXp : (X.t, X.sp) = (xt, Cs.spentOf M2 xt) := by rw [hXd]
              have hln3b : M3.length ≤ 41 + 30 * (i2 + 1) := by have := HSX.out.2.1; omega
              obtain ⟨wn, hwn⟩ : ∃ z, z = Cs.worth M2 - fv := ⟨_, rfl⟩
              have hfvz : fv = Cs.feeV M2 xt := HDE.out.2.2
              have hwn3 : wn = Cs.worth M3 := by rw [hwn, hfvz]; exact hww.2.2.symm
              have hwtn : Cs.worthT M3 = (wn, 0) := by rw [hww.1, hwn, hfvz]
              have hwr : IntKind.i64.wrap (Cs.worth M2 - fv) = wn := by
                rw [← hwn]
                exact IntWalk.i64_in _ (by have := hww.2.1.1; have := hww.2.1.2; rw [hwn3]; omega)
              have hdn3 : ¬ Cs.doE M3 (Tx.idOf false xt) xt = 0 := Cs.twice_no hd0 hdo
              have HK := Lib.hid (And.intro hwn (And.intro hwn3 (And.intro hwtn (And.intro hdn3 (And.intro hXp (And.intro hXat (And.intro hXc (And.intro hww.2.1 hln3b))))))))
              have HL22 := Lib.hid hl22
              have HU := Lib.hid hul
              have lY := hY.load_agg (P := Tryz.prog) (t := 50) Tryz.underlying50 rfl (by kernel_rfl)
              have hT20 := HT.out.trans (hb20.mono HT.out.size)
              have HT22 := Lib.hid (show Below w4.heap.size w4 w22 from by
                have h := hl22.bl
                rw [HB.out] at h
                exact h)
              have hXF := Lib.hid (show ∀ w', Below w22.heap.size w22 w' → Recs uRec (w'.alloc (.cells #[.slice ua un uq, .slice ub um ur, .bool xt.firm, .slice uc uk ul] 50)) (some ⟨w'.heap.size, 0, none⟩) 1 [X] from fun w' _ =>
                recs_fresh (R := uRec) (L := [X]) (fun _ _ => True.intro) (Has.fresh _ _ _) (by show 1 ≤ maxLen; unfold maxLen; omega) (fun j z hj => by
                  have e : uRec.row [X] = uCells X := by show uRec.cells X ++ [] = _; rw [List.append_nil]; rfl
                  rw [e, hXc] at hj
                  rw [← Array.getElem?_toList]
                  exact hj))
              have H13 := Lib.hid (show Has w22 g13 39 #[.slice xa xn xq, .slice xb xm xr, .bool xt.firm] from by
                have h1 := (HX.out.under hb20 HX.out.lt).moved hm3 HF13.out
                exact h1.under hb22 h1.lt)
              clear hfvz hl22 hl20 hk2 hk3 hww hwn hwn3 hwtn hdn3 hXp hXat hXc hln3b hU3 hg3 hm3 hS3 hee0 hfe0
              go_upto_region 26 with (first
                | (at_builtin; refine wpList_append_recs (R := uRec) rfl (.tmp 88) (.tmp 90) 47 rfl 50 Tryz.underlying47 info_undo (by kernel_rfl) (by decide) E _ U rfl (HL22.out.o.below ((Below.refl _ _).alloc (Nat.le_refl _) _)) (some ⟨w22.heap.size, 0, none⟩) 1 1 [X] rfl (hXF.out w22 (Below.refl _ _)) (fun e => by cases e) (by have := HU.out; have := HSK.out.1; have e3 : K.length = m := HLK.out.1; omega) (by have := HL22.out.sz; simp; omega) ?_; intro v' w24 ho' hg' hl'; obtain ⟨oa2, oq2, rfl, hoq2, h02, _, _⟩ := ho'.shape (K := U.length + 1) (by simp))
                | (refine wpList_build_row rfl (.tmp 89) 47 rfl 50 Tryz.underlying47 info_undo (by decide) (by decide) #[.slice ua un uq, .slice ub um ur, .bool xt.firm, .slice uc uk ul] rfl rfl ?_)
                | (refine wpList_load_run rfl 50 (.tmp 16) rfl _ _ rfl lY ?_))
              clear lY
              have hbA : Below w22.heap.size w22 (w22.alloc (.cells #[.slice ua un uq, .slice ub um ur, .bool xt.firm, .slice uc uk ul] 50)) := (Below.refl _ _).alloc (Nat.le_refl _) _
              have hXA := HK.out.2.2.2.2.2.1
              have hl24 := (HL22.out.below HOK hbA).push HOK (x := X) ⟨hXA.u.below hbA, hXA.f, hXA.sm, hXA.gd⟩ hg' ho' hl'
              rw [show (xt, Cs.spentOf M2 xt) :: Cs.pairs U = Cs.pairs (U ++ [X]) by rw [Cs.pairs_snoc, HK.out.2.2.2.2.1]] at hl24
              have HWK := Lib.hid (show Calls Tryz.prog 10 #[v] w24 fun e w' => e = .returned (.tuple #[.int .i64 wn, .nilIface]) ∧ Below w24.heap.size w24 w' from by
                have h := HOK.worth hl24.s (by have := HK.out.2.2.2.2.2.2.2.2; have := HSK.out.1; have e3 : K.length = m := HLK.out.1; omega)
                rw [HK.out.2.2.1] at h
                exact h)
              have h13 := has_own (H13.out.past _) (HL22.out.o.below hbA) (by decide) hg'
              have HL24 := Lib.hid hl24
              have H24 := Lib.hid h13
              clear hl24 h13 ho' hg' hl' hXA hbA
              go_upto_region 30 with (go_at_call 10; refine HWK.out.mono ?_; rintro e w25 ⟨rfl, hb25⟩)
              have hl25 := HL24.out.below HOK hb25
              have hB25 : Below w4.heap.size w4 w25 := by
                have h := hl25.bl
                rw [HB.out] at h
                exact h
              have HD2 := Lib.hid (HOK.do_ hl25.s xa xn xq xb xm xr xt (HAT4.out.below hB25) HSX.out (HKD.out.below (hT4.trans (hB25.mono hT4.size))))
              have lX := (H24.out.under hb25 H24.out.lt).load_agg (P := Tryz.prog) (t := 39) Tryz.underlying39 rfl (by kernel_rfl)
              have HL25 := Lib.hid hl25
              clear hl25 hB25 hb25
              go_upto_region 31 with (first
                | (go_at_call 13; refine HD2.out.mono ?_; rintro e w26 ⟨F4, M4, ua4, un4, uq4, ub4, um4, ur4, uc4, uk4, ul4, u4, sp4, rfl, hS4, _, _, hE4, hg4, hm4, hln4⟩; rw [show errn (Cs.doE M3 (Tx.idOf false xt) xt) = erro (Cs.doE M3 (Tx.idOf false xt) xt) from if_neg HK.out.2.2.2.1])
                | (refine wpList_load_run rfl 39 (.tmp 13) rfl _ _ rfl lX ?_))
              clear lX
              obtain ⟨w27, hw27⟩ : ∃ x, x = w26.alloc (.cells #[.slice ua4 un4 uq4, .slice ub4 um4 ur4, .bool u4.firm, .slice uc4 uk4 ul4] 50) := ⟨_, rfl⟩
              have hb27 : Below w26.heap.size w26 w27 := by rw [hw27]; exact (Below.refl _ _).alloc (Nat.le_refl _) _
              rw [← hw27]
              have hM4 := hE4 HK.out.2.2.2.1
              have hl27 := (HL25.out.call HOK hS4 hm4 hg4 (Cs.chain_same HL25.out.ch hM4)).below HOK hb27
              have hpm := Cs.perm_of_look (HOK.keys hS4).1 (HOK.keys HL25.out.s).1 hM4
              have hwe : Cs.worth M4 = Cs.worth M3 := Cs.worth_perm hpm
              have HI2 := Lib.hid (show (Value.int .i64 wn) = .int .i64 (Cs.worth M4) ∧ Lp S B E w4 v v0 M0 w27 F4 F0 M4 oa2 (U ++ [X]).length oq2 (U ++ [X]) (Cs.pairs (U ++ [X])) ∧ Am.Good (Cs.worth M4) ∧ (U ++ [X]).length ≤ i2 + 1 ∧ M4.length ≤ 41 + 30 * (i2 + 1) from
                ⟨by rw [hwe, HK.out.2.1], by simpa using hl27, by rw [hwe]; exact HK.out.2.2.2.2.2.2.2.1, by have := HU.out; simp; omega, by rw [hpm.length_eq]; exact HK.out.2.2.2.2.2.2.2.2⟩)
              have HSV := Lib.hid (show (Value.slice oa2 (U.length + 1) oq2) = .slice oa2 (U ++ [X]).length oq2 from by simp)
              clear hw27 hb27 hl27 hpm hwe hM4 hS4 hE4 hg4 hm4 hln4 HD2
              go_wp2
              go_roundw
              case rel => exact ⟨i2 + 1, oa2, oq2, U ++ [X], F4, M4, by omega, by go_num, HSV.out, HI2⟩
              case measure => (simp [intOf]; try omega)
            · have HDN := Lib.hid (HDO.out w20 hb20)
              have hen : errn de = erro de := if_neg hd
              go_upto_region 22 with (first
                | (go_at_call 13; refine HDN.out.mono ?_; rintro e w21 ⟨F3, M3, ua, un, uq, ub, um, ur, uc, uk, ul, u, sp, rfl, hS3, _, _, hE1, hg3, hm3, hln3⟩; rw [← HDE.out.1, hen])
                | (refine wpList_load_run rfl 39 (.tmp 13) rfl _ _ rfl lX ?_))
              clear lX
              obtain ⟨w22, hw22⟩ : ∃ x, x = w21.alloc (.cells #[.slice ua un uq, .slice ub um ur, .bool u.firm, .slice uc uk ul] 50) := ⟨_, rfl⟩
              have hb22 : Below w21.heap.size w21 w22 := by rw [hw22]; exact (Below.refl _ _).alloc (Nat.le_refl _) _
              rw [← hw22]
              have hl20 := HL.out.below HOK hb20
              have hM := hE1 (by rw [← HDE.out.1]; exact hd)
              have hl22 := (hl20.call HOK hS3 hm3 hg3 (Cs.chain_same hl20.ch hM)).below HOK hb22
              have hwe : Cs.worth M3 = Cs.worth M2 := Cs.worth_perm (Cs.perm_of_look (HOK.keys hS3).1 (HOK.keys hl20.s).1 hM)
              have HI2 := Lib.hid (show (Value.int .i64 (Cs.worth M2)) = .int .i64 (Cs.worth M3) ∧ Lp S B E w4 v v0 M0 w22 F3 F0 M3 oa U.length oq U (Cs.pairs U) ∧ Am.Good (Cs.worth M3) ∧ U.length ≤ i2 + 1 ∧ M3.length ≤ 41 + 30 * (i2 + 1) from ⟨by rw [hwe], hl22, by rw [hwe]; exact hgw, by omega, by have := HSX.out.2.1; omega⟩)
              clear hw22 hb22 hl20 hl22 hM hwe hS3 hE1 hg3 hm3 HDN
              go_wp2
              go_roundw
              case rel => exact ⟨i2 + 1, oa, oq, U, F3, M3, by omega, by go_num, rfl, HI2⟩
              case measure => (simp [intOf]; try omega)
          · have hii2 : ¬ (i2 : Int) < (m : Int) := by omega
            obtain ⟨hzv, hlp, hgw, hul, hln⟩ := HI.out
            subst hzv
            have hU61 : U.length ≤ 61 := by
              have h1 := HSK.out.1
              have h2 : K.length = m := HLK.out.1
              omega
            have HJ0 := Lib.hid (show Lp S B E w4 v v0 M0 wt F2 F0 M2 oa U.length oq U (Cs.pairs (U.take U.length)) ∧ M2.length ≤ 41 + 30 * 61 + 30 * (U.length - U.length) from ⟨by rw [List.take_of_length_le (Nat.le_refl _)]; exact hlp, by have := HSK.out.1; have h2 : K.length = m := HLK.out.1; omega⟩)
            have hU0 : (0 : Int) ≤ (U.length : Int) := by omega
            have hU61i : (U.length : Int) ≤ 61 := by omega
            clear HI hlp hgw hul hln
            go_wp2
            go_loopw [22] (fun iv wr => ∃ (j : Nat) (z : Int) (F : Fp) (M : Cs.Mp), j ≤ U.length ∧ z + 1 = (j : Int) ∧ iv = .int .i64 z ∧ RowKit.Hid (Lp S B E w4 v v0 M0 wr F F0 M oa U.length oq U (Cs.pairs (U.take j)) ∧ M.length ≤ 41 + 30 * 61 + 30 * (U.length - j))) (fun iv _ => (intOf iv + 1).toNat)
            case atStart => exact ⟨U.length, (U.length : Int) - 1, F2, M2, Nat.le_refl _, by omega, by go_num, HJ0⟩
            case round =>
              rename World => wr3
              obtain ⟨j, z, F3, M3, hj, hz, rfl, HJ⟩ := hrel
              clear HJ0
              by_cases hj0 : 0 < j
              · obtain ⟨j', rfl⟩ : ∃ j', j = j' + 1 := ⟨j - 1, by omega⟩
                obtain rfl : z = (j' : Int) := by omega
                have hji : (j' : Int) < (U.length : Int) := by omega
                have hj00 : (0 : Int) ≤ (j' : Int) := by omega
                have hjn : j' < U.length := by omega
                obtain ⟨hlp, hln⟩ := HJ.out
                obtain ⟨x, hx⟩ : ∃ x, U[j']? = some x := ⟨U[j'], List.getElem?_eq_getElem hjn⟩
                obtain ⟨x0, hax, _⟩ := hlp.o.recs.1.2.2.2 j' x hx
                subst hax
                have hy := hlp.o.recs.1.load_at Tryz.underlying50 rfl size_undo hx
                have hat := hlp.us x (List.mem_of_getElem? hx)
                have htk : U.take (j' + 1) = U.take j' ++ [x] := by
                  obtain ⟨h2, h3⟩ := List.getElem?_eq_some_iff.1 hx
                  rw [List.take_succ_eq_append_getElem h2, h3]
                have hch := hlp.ch
                rw [htk, Cs.pairs_snoc] at hch
                have hbe := Cs.chain_may hch
                have hbl : Below w4.heap.size w4 wr3 := by
                  have h := hlp.bl
                  rw [HB.out] at h
                  exact h
                have hbk := HO2.back hlp.s x.a x.n x.q x.b x.m x.r x.t x.c x.k x.l x.sp hat.u.tx.at hat.sm hat.u.co.recs.1 hat.u.co.recs.2 hat.gd (HKD.out.below (hT4.trans (hbl.mono hT4.size)))
                rw [hbe, ← hat.f, show errn 0 = Value.nilIface from rfl] at hbk
                have HBK := Lib.hid (show Calls Tryz.prog 14 #[v, .agg (uRec.cells x).toArray] wr3 _ from hbk)
                have HLP := Lib.hid (And.intro hlp (And.intro hln (And.intro hch hat.sm.1)))
                clear hlp hln hch hbe hbl hbk hat htk hx HJ
                go_wp2_with (first
                  | (go_at_call 14; refine HBK.out.mono ?_; rintro e w6 ⟨F4, M4, rfl, hS4, hok4, _, hg4, hm4, hln4⟩)
                  | (refine wpList_load_run rfl 50 (.tmp 126) rfl _ _ rfl hy ?_))
                have HJ2 := Lib.hid (show Lp S B E w4 v v0 M0 w6 F4 F0 M4 (some x0) U.length oq U (Cs.pairs (U.take j')) ∧ M4.length ≤ 41 + 30 * 61 + 30 * (U.length - j') from
                  ⟨HLP.out.1.call HOK hS4 hm4 hg4 (Cs.chain_back HLP.out.2.2.1 (hok4 (by trivial))), by have := HLP.out.2.1; have := HLP.out.2.2.2; omega⟩)
                clear hS4 hok4 hg4 hm4 hln4
                go_roundw
                case rel => exact ⟨j', (j' : Int) - 1, F4, M4, by omega, by omega, by go_num, HJ2⟩
                case measure => (simp [intOf]; try omega)
              · obtain rfl : j = 0 := by omega
                obtain rfl : z = -1 := by omega
                obtain ⟨hlp, hln⟩ := HJ.out
                have hlk : ∀ q, Cs.look M3 q = Cs.look M0 q := hlp.ch
                have hln0b : M0.length ≤ 41 := by omega
                have hPA := HO2.points hlp.s (by omega)
                have HPA := Lib.hid hPA
                have HPB := Lib.hid (fun (w' : World) (hb : Below wr3.heap.size wr3 w') => HO2.points (HOK.below hlp.s0 hb) (by omega))
                have HLP := Lib.hid (And.intro hlp hlk)
                clear hlp hln hlk hPA HJ
                go_upto_region 40 with (first
                  | (go_at_call 15; refine (HPB.out wA hbA).mono ?_; rintro e wB ⟨qa, qn, qq, QL, rfl, hrb, hqb, hpwb, hppb, hbB⟩)
                  | (go_at_call 15; refine HPA.out.mono ?_; rintro e wA ⟨pa, pn, pq, PL, rfl, hra, hqa, hpwa, hppa, hbA⟩))
                have hk3 := HOK.keys HLP.out.1.s
                have hk0 := HOK.keys HLP.out.1.s0
                have hPQ : PL = QL := Cs.points_same hk3.1 hk0.1 HLP.out.2 hpwa hpwb hppa hppb
                subst hPQ
                obtain rfl : pn = qn := by rw [← hra.1, ← hrb.1]
                have hbAB := hbA.trans (hbB.mono hbA.size)
                have HSV := Lib.hid (And.intro (HOK.below HLP.out.1.s hbAB) (And.intro (HOK.below HLP.out.1.s0 hbAB) (And.intro (hra.below hbB) hrb)))
                have hbl : Below w4.heap.size w4 wr3 := by
                  have h := HLP.out.1.bl
                  rw [HB.out] at h
                  exact h
                have HTB := Lib.hid (show Below W.heap.size W wB from hT4.trans ((hbl.trans (hbAB.mono hbl.size)).mono hT4.size))
                have hpnx : pn ≤ 9223372036854775807 := hra.2.1
                have HLK := Lib.hid HLP.out.2
                clear hbl hk3 hk0 hra hrb hpwa hpwb hppa hppb hqa hqb hbA hbB hbAB HLP HPA HPB
                go_wp2
                go_loopw [141] (fun iv wr => ∃ i : Nat, i ≤ pn ∧ iv = .int .i64 i ∧ Below wB.heap.size wB wr) (fun iv _ => pn - (intOf iv).toNat)
                case atStart => exact ⟨0, Nat.zero_le _, rfl, Below.refl _ _⟩
                case round =>
                  rename World => wr4
                  obtain ⟨i4, hi4, rfl, hb4r⟩ := hrel
                  by_cases hlt4 : i4 < pn
                  · have hii4 : (i4 : Int) < (pn : Int) := by omega
                    have hi04 : (0 : Int) ≤ (i4 : Int) := by omega
                    obtain ⟨p, hp⟩ := HSV.out.2.2.1.get hlt4
                    obtain ⟨x, hax, _⟩ := HSV.out.2.2.1.2.2.2 i4 p hp
                    subst hax
                    obtain ⟨xb, hbx, _⟩ := HSV.out.2.2.2.2.2.2 i4 p hp
                    subst hbx
                    have hy := (HSV.out.2.2.1.below hb4r).load_at Tryz.underlying32 rfl size_ptr hp
                    have HP := Lib.hid (show Cs.ptOk p from HSV.out.2.2.1.okay hp)
                    have HPI := Lib.hid hp
                    obtain ⟨c, hc⟩ : ∃ c, c = (Cs.look M3 p).getD ⟨0, 0#64⟩ := ⟨_, rfl⟩
                    obtain ⟨o, ho⟩ : ∃ o, o = (Cs.look M3 p).isSome := ⟨_, rfl⟩
                    have HG1 := Lib.hid (show ∀ w', Below wB.heap.size wB w' → Calls Tryz.prog 16 #[v, .agg (ptCells p.1 p.2).toArray] w' fun e w2 => e = .returned (.tuple #[.agg (coCells c).toArray, .bool o]) ∧ Below w'.heap.size w' w2 from fun w' hb => by
                      rw [hc, ho]
                      exact HO2.get (HOK.below HSV.out.1 hb) p HP.out)
                    have HG2 := Lib.hid (show ∀ w', Below wB.heap.size wB w' → Calls Tryz.prog 16 #[v0, .agg (ptCells p.1 p.2).toArray] w' fun e w2 => e = .returned (.tuple #[.agg (coCells c).toArray, .bool o]) ∧ Below w'.heap.size w' w2 from fun w' hb => by
                      rw [hc, ho, HLK.out p]
                      exact HO2.get (HOK.below HSV.out.2.1 hb) p HP.out)
                    clear hp hc ho
                    go_upto_region 45 with (first
                      | (refine wpList_store_mid rfl 32 (.tmp 26) (.tmp 145) rfl wr4.heap.size 0 (ptCells p.1 p.2).toArray rfl rfl (ptRec.there wr4 32 (by kernel_rfl) HP.out) (ptRec.size_eq size_ptr HP.out) (ptRec.all_one p) ?_)
                      | (refine wpList_load_run rfl 32 (.tmp 144) rfl _ _ rfl hy ?_))
                    obtain ⟨w5b, hw5⟩ : ∃ u, u = (wr4.alloc (.cells zPt 32)).setCells wr4.heap.size 0 (ptCells p.1 p.2) := ⟨_, rfl⟩
                    obtain ⟨hG, hb5⟩ := Rec.new (R := ptRec) (by kernel_rfl) HP.out hw5
                    rw [← hw5]
                    obtain ⟨g5, hg5⟩ : ∃ g, g = wr4.heap.size := ⟨_, rfl⟩
                    rw [← hg5] at hG ⊢
                    have hT5 := hb4r.trans (hb5.mono hb4r.size)
                    have lP := (show Has w5b g5 32 (ptCells p.1 p.2).toArray from hG).load_agg (P := Tryz.prog) (t := 32) Tryz.underlying32 rfl (size_pt HP.out.1)
                    clear hw5 hg5 hy
                    go_upto_region 46 with (first
                      | (refine wpList_store_mid rfl 35 (.tmp 27) (.tmp 150) rfl w6.heap.size 0 (coCells c).toArray rfl rfl ((Has.fresh w6 35 #[.int .i64 0, .int .u64 0]).there 0 2 (Nat.le_refl _)) (size_co c) (coRec.all_one c) ?_)
                      | (go_at_call 16; refine (HG1.out w5b hT5).mono ?_; rintro e w6 ⟨rfl, hb6⟩)
                      | (refine wpList_load_run rfl 32 (.tmp 26) rfl _ _ rfl lP ?_))
                    obtain ⟨w7, hw7⟩ : ∃ u, u = (w6.alloc (.cells #[.int .i64 0, .int .u64 0] 35)).setCells w6.heap.size 0 (coCells c).toArray.toList := ⟨_, rfl⟩
                    have hw7n : w7 = (w6.alloc (.cells #[.int .i64 0, .int .u64 0] 35)).setCells w6.heap.size 0 (coCells c) := hw7
                    have hX7 : Has w7 w6.heap.size 35 (coCells c).toArray := by rw [hw7]; exact (Has.fresh w6 _ _).whole_cs rfl
                    have hb67 : Below w6.heap.size w6 w7 := by rw [hw7]; exact below_setAll (Nat.le_refl _) _ 0 ((Below.refl _ _).alloc (Nat.le_refl _) _)
                    first | rw [← hw7] | rw [← hw7n]
                    obtain ⟨g7, hg7⟩ : ∃ g, g = w6.heap.size := ⟨_, rfl⟩
                    rw [← hg7] at hX7 ⊢
                    have hb57 := hb6.trans (hb67.mono hb6.size)
                    have hT7 := hT5.trans (hb57.mono hT5.size)
                    have hG7 := hG.under hb57 hG.lt
                    clear lP hw7 hw7n hg7
                    have lP := (show Has w7 g5 32 (ptCells p.1 p.2).toArray from hG7).load_agg (P := Tryz.prog) (t := 32) Tryz.underlying32 rfl (size_pt HP.out.1)
                    go_upto_region 47 with (first
                      | (refine wpList_store_mid rfl 35 (.tmp 29) (.tmp 156) rfl w8.heap.size 0 (coCells c).toArray rfl rfl ((Has.fresh w8 35 #[.int .i64 0, .int .u64 0]).there 0 2 (Nat.le_refl _)) (size_co c) (coRec.all_one c) ?_)
                      | (go_at_call 16; refine (HG2.out w7 hT7).mono ?_; rintro e w8 ⟨rfl, hb8⟩)
                      | (refine wpList_load_run rfl 32 (.tmp 26) rfl _ _ rfl lP ?_))
                    obtain ⟨w9, hw9⟩ : ∃ u, u = (w8.alloc (.cells #[.int .i64 0, .int .u64 0] 35)).setCells w8.heap.size 0 (coCells c).toArray.toList := ⟨_, rfl⟩
                    have hw9n : w9 = (w8.alloc (.cells #[.int .i64 0, .int .u64 0] 35)).setCells w8.heap.size 0 (coCells c) := hw9
                    have hX9 : Has w9 w8.heap.size 35 (coCells c).toArray := by rw [hw9]; exact (Has.fresh w8 _ _).whole_cs rfl
                    have hb89 : Below w8.heap.size w8 w9 := by rw [hw9]; exact below_setAll (Nat.le_refl _) _ 0 ((Below.refl _ _).alloc (Nat.le_refl _) _)
                    first | rw [← hw9] | rw [← hw9n]
                    obtain ⟨g9, hg9⟩ : ∃ g, g = w8.heap.size := ⟨_, rfl⟩
                    rw [← hg9] at hX9 ⊢
                    have hb79 := hb8.trans (hb89.mono hb8.size)
                    have hT9 := hT7.trans (hb79.mono hT7.size)
                    clear lP hw9 hw9n hg9
                    obtain ⟨ws, hws⟩ : ∃ u, u = w9.drew := ⟨_, rfl⟩
                    have hbs : Below w9.heap.size w9 ws := by rw [hws]; exact (Below.refl _ _).drew
                    have hTs := hT9.trans (hbs.mono hT9.size)
                    have hGs := (hG7.under hb79 hG7.lt).under hbs (hG7.under hb79 hG7.lt).lt
                    have hX7s := (hX7.under hb79 hX7.lt).under hbs (hX7.under hb79 hX7.lt).lt
                    have hX9s := hX9.under hbs hX9.lt
                    have lB := fun (wq : World) (hSw : Held ws wq) => ((HSV.out.2.2.2.below hTs).below hSw.below).load_at Tryz.underlying32 rfl size_ptr HPI.out
                    have lG := fun (wq : World) (hSw : Held ws wq) => (show Has wq g5 32 (ptCells p.1 p.2).toArray from hGs.under hSw.below hGs.lt).load_agg (P := Tryz.prog) (t := 32) Tryz.underlying32 rfl (size_pt HP.out.1)
                    have l7 := fun (wq : World) (hSw : Held ws wq) => (hX7s.under hSw.below hX7s.lt).load_agg (P := Tryz.prog) (t := 35) Tryz.underlying35 rfl (size_co c)
                    have l9 := fun (wq : World) (hSw : Held ws wq) => (hX9s.under hSw.below hX9s.lt).load_agg (P := Tryz.prog) (t := 35) Tryz.underlying35 rfl (size_co c)
                    have HEQ := Lib.hid (show ∀ w, (binOp .neq 32 (.agg (ptCells p.1 p.2).toArray) (.agg (ptCells p.1 p.2).toArray)).run Tryz.prog w = .ok (.bool false) w from fun w => (neq_point w p.1 p.1 p.2 p.2 HP.out.1 HP.out.1).trans (by rw [decide_eq_true (show p.1 = p.1 ∧ p.2 = p.2 from ⟨rfl, rfl⟩)]; rfl))
                    have HEC := Lib.hid (show ∀ w, (binOp .neq 35 (.agg (coCells c).toArray) (.agg (coCells c).toArray)).run Tryz.prog w = .ok (.bool false) w from fun w => (neq_coin w c c).trans (by rw [decide_eq_true rfl]; rfl))
                    refine wp_region_held_drew (S := Held ws) (by kernel_rfl) (by rw [hws]; exact Held.refl _) (fun hHeld => ?_)
                    rw [← hws] at hHeld ⊢
                    clear hws
                    refine take_at (v := ?_) 0 158 rfl rfl (by kernel_rfl) (by kernel_rfl) (by kernel_rfl) (fun _ _ _ h => h) hHeld (Or.inl ⟨by rfl, ?_⟩) rfl ?_
                    rotate_left
                    · intro wq hSw
                      go_simp
                      try with_reducible rfl
                    simp only [List.set_cons_zero, List.set_cons_succ]
                    refine take_at (v := ?_) 1 159 rfl rfl (by kernel_rfl) (by kernel_rfl) (by kernel_rfl) (fun _ _ _ h => h) hHeld (Or.inl ⟨by rfl, ?_⟩) rfl ?_
                    rotate_left
                    · intro wq hSw
                      go_simp
                      try with_reducible rfl
                    simp only [List.set_cons_zero, List.set_cons_succ]
                    refine take_at (v := ?_) 2 160 rfl rfl (by kernel_rfl) (by kernel_rfl) (by kernel_rfl) (fun _ _ _ h => h) hHeld (Or.inl ⟨by rfl, ?_⟩) rfl ?_
                    rotate_left
                    · intro wq hSw
                      go_simp
                      try with_reducible rfl
                    simp only [List.set_cons_zero, List.set_cons_succ]
                    refine take_at 3 161 rfl rfl (by kernel_rfl) (by kernel_rfl) (by kernel_rfl) (fun _ _ _ h => h) hHeld (yieldsIf_load_agg (by rfl) 32 (.tmp 160) rfl _ _ (by rfl) (fun wq hSw => lB wq hSw)) rfl ?_
                    simp only [List.set_cons_zero, List.set_cons_succ]
                    refine take_at 4 162 rfl rfl (by kernel_rfl) (by kernel_rfl) (by kernel_rfl) (fun _ _ _ h => h) hHeld (yieldsIf_load_agg (by rfl) 32 (.tmp 26) rfl _ _ (by rfl) (fun wq hSw => lG wq hSw)) rfl ?_
                    simp only [List.set_cons_zero, List.set_cons_succ]
                    refine take_at (v := .bool false) 5 163 rfl rfl (by kernel_rfl) (by kernel_rfl) (by kernel_rfl) (fun _ _ _ h => h) hHeld (yieldsIf_bin (by rfl) .neq 32 (.tmp 161) (.tmp 162) _ rfl (ptCells p.1 p.2).toArray (ptCells p.1 p.2).toArray (by rfl) (by rfl) (by kernel_rfl) _ HEQ.out) rfl ?_
                    simp only [List.set_cons_zero, List.set_cons_succ]
                    refine take_at (v := ?_) 6 164 rfl rfl (by kernel_rfl) (by kernel_rfl) (by kernel_rfl) (fun _ _ _ h => h) hHeld (Or.inl ⟨by rfl, ?_⟩) rfl ?_
                    rotate_left
                    · intro wq hSw
                      go_simp
                      try with_reducible rfl
                    simp only [List.set_cons_zero, List.set_cons_succ]
                    refine take_at 7 165 rfl rfl (by kernel_rfl) (by kernel_rfl) (by kernel_rfl) (fun _ _ _ h => h) hHeld (yieldsIf_load_agg (by rfl) 35 (.tmp 27) rfl _ _ (by rfl) (fun wq hSw => l7 wq hSw)) rfl ?_
                    simp only [List.set_cons_zero, List.set_cons_succ]
                    refine take_at 8 166 rfl rfl (by kernel_rfl) (by kernel_rfl) (by kernel_rfl) (fun _ _ _ h => h) hHeld (yieldsIf_load_agg (by rfl) 35 (.tmp 29) rfl _ _ (by rfl) (fun wq hSw => l9 wq hSw)) rfl ?_
                    simp only [List.set_cons_zero, List.set_cons_succ]
                    refine take_at (v := .bool false) 9 167 rfl rfl (by kernel_rfl) (by kernel_rfl) (by kernel_rfl) (fun _ _ _ h => h) hHeld (yieldsIf_bin (by rfl) .neq 35 (.tmp 165) (.tmp 166) _ rfl (coCells c).toArray (coCells c).toArray (by rfl) (by rfl) (by kernel_rfl) _ HEC.out) rfl ?_
                    simp only [List.set_cons_zero, List.set_cons_succ]
                    refine take_at (v := ?_) 10 168 rfl rfl (by kernel_rfl) (by kernel_rfl) (by kernel_rfl) (fun _ _ _ h => h) hHeld (Or.inl ⟨by rfl, ?_⟩) rfl ?_
                    rotate_left
                    · intro wq hSw
                      go_simp
                      try with_reducible rfl
                    simp only [List.set_cons_zero, List.set_cons_succ]
                    refine wpAnyH_done (by kernel_rfl) ?_ _
                    go_wp2
                    go_roundw
                    case rel => exact ⟨i4 + 1, by omega, by go_num, hTs⟩
                    case measure => (simp [intOf]; try omega)
                  · have hii4 : ¬ (i4 : Int) < (pn : Int) := by omega
                    go_wp2
                    go_ret
                    exact ⟨rfl, HTB.out.trans (hb4r.mono HTB.out.size)⟩
      · rw [show errn ez = erro ez from if_neg he] at hwt
        have HWT := Lib.hid hwt
        clear hwt hez hwv
        go_wp2_with (go_at_call 10; refine HWT.out.mono ?_; rintro e w13 ⟨rfl, hb13⟩)
        go_ret
        exact ⟨rfl, hTr.trans (hb13.mono hTr.size)⟩
end Go.Proofs.YtkfijllghbopkaaGreatDoor
