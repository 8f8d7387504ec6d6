/- TxCopies over the premise -/
import Derived.Test.YtpbijcchdjppmaaTxK
namespace Go.Proofs.Ytpbijcchdjppmaa
open Go Go.RowKit Go.ChangeShapes Go.WideShapes
abbrev zSpoilt : Array Value := #[.int .u8 0, .int .u8 0, .int .u8 0, .int .u8 0, .int .u8 0, .int .u8 0, .int .u8 0, .int .u8 0, .int .u8 0, .int .u8 0, .int .u8 0, .int .u8 0, .int .u8 0, .int .u8 0, .int .u8 0, .int .u8 0, .int .u8 0, .int .u8 0, .int .u8 0, .int .u8 0, .int .u8 0, .int .u8 0, .int .u8 0, .int .u8 0, .int .u8 0, .int .u8 0, .int .u8 0, .int .u8 0, .int .u8 0, .int .u8 0, .int .u8 0, .int .u8 0, .int .i64 0, .string { data := #[115, 112, 111, 105, 108, 116] }, .int .u64 0]
theorem one_spoilt : zSpoilt.all (·.oneCell') = true := by simp [Value.oneCell']
theorem one_seven : (#[.int .i64 77, .int .u64 0] : Array Value).all (·.oneCell') = true := by simp [Value.oneCell']
theorem size_spoilt : (Try.prog.info? 54).map (·.size) = some zSpoilt.size := by kernel_rfl
theorem there_spoilt {w : World} {g o : Nat} {T : TypeId} {cur : Array Value} (h : Has w g T cur) (hb : o + 35 ≤ cur.size) : w.there g o zSpoilt.size := h.there o 35 hb
theorem size_seven : (Try.prog.info? 56).map (·.size) = some (#[.int .i64 77, .int .u64 0] : Array Value).size := by kernel_rfl
set_option maxRecDepth 100000 in
set_option maxHeartbeats 16000000 in
theorem copiesMain (ok : TxOk) (a : Option Addr) (n q : Nat) (b : Option Addr) (m r : Nat) (t : Tx.T) (W : World) (ht : TxAt W a n q b m r t) :
    Calls Try.prog 5 #[txv a n q b m r t.firm] W fun e w' => e = .returned (.bool true) ∧ Below W.heap.size W w' := by
  have HAT := Lib.hid ht
  clear ht
  go_enter Try.func5, Try.ntmps5
  go_upto_region 1 with fail
  obtain ⟨W1, hW1⟩ : ∃ x, x = W.alloc (.cells #[.slice a n q, .slice b m r, .bool t.firm] 25) := ⟨_, rfl⟩
  have hT1 : Below W.heap.size W W1 := by rw [hW1]; exact (Below.refl _ W).alloc (Nat.le_refl _) _
  have hX : Has W1 W.heap.size 25 #[.slice a n q, .slice b m r, .bool t.firm] := by rw [hW1]; exact Has.fresh W _ _
  rw [← hW1]
  clear hW1
  obtain ⟨g1, hg1⟩ : ∃ g, g = W.heap.size := ⟨_, rfl⟩
  rw [← hg1]
  rw [← hg1] at hX
  clear hg1
  go_upto_region 3 with (go_at_call 6; refine (alive10 ok.al W1).mono ?_; rintro e w2 ⟨rfl, hb2⟩)
  have hT2 := hT1.trans (hb2.mono hT1.size)
  replace hX := hX.under hb2 hX.lt
  replace HAT := Lib.hid (HAT.out.below hT2)
  have lX := hX.load_agg (P := Try.prog) (t := 25) Try.underlying25 rfl (by kernel_rfl)
  obtain ⟨w3, hw3⟩ : ∃ x, x = w2.alloc (.cells #[.slice a n q, .slice b m r, .bool t.firm] 25) := ⟨_, rfl⟩
  have hb3 : Below w2.heap.size w2 w3 := by rw [hw3]; exact (Below.refl _ _).alloc (Nat.le_refl _) _
  have HTS := Lib.hid (show Txs w3 (some ⟨w2.heap.size, 0, none⟩) 1 [⟨a, n, q, b, m, r, t⟩] from
    ⟨recs_fresh (R := vRec) (fun _ _ => trivial) (by rw [hw3]; exact Has.fresh _ _ _) (by show 1 ≤ maxLen; unfold maxLen; omega) (fun j v hj => by rw [List.getElem?_toArray]; exact hj),
      fun x hx => by
        obtain rfl := List.mem_singleton.1 hx
        exact HAT.out.below hb3⟩)
  have HW3 := Lib.hid hw3
  clear hw3 hb2 hT1
  go_upto_if 12 with (first
    | (go_at_call 7; rw [← HW3.out]; refine (large_any _ 1 1 _ w3 HTS.out).mono ?_; rintro e w4 ⟨bl, rfl, hsm, hb4⟩)
    | (refine wpList_load_run rfl 25 (.tmp 1) rfl _ _ rfl lX ?_))
  have hb24 := hb3.trans (hb4.mono hb3.size)
  have hT4 := hT2.trans (hb24.mono hT2.size)
  clear lX hb3 hb4 HTS HW3
  cases bl with
  | true =>
    clear hsm
    go_wp2
    go_ret
    exact ⟨rfl, hT4⟩
  | false =>
    have SA := Lib.hid ((hsm rfl).2 _ List.mem_cons_self)
    clear hsm
    replace hX := hX.under hb24 hX.lt
    replace HAT := Lib.hid (HAT.out.below hb24)
    clear hb24 hT2
    have HNM := Lib.hid (show n ≤ 30 ∧ m ≤ 30 from ⟨by have := SA.out.1; have e : t.sp.length = n := HAT.out.sp.1; show n ≤ 30; rw [← e]; exact this, by have := SA.out.2.1; have e : t.co.length = m := HAT.out.co.1; show m ≤ 30; rw [← e]; exact this⟩)
    have lX := hX.load_agg (P := Try.prog) (t := 25) Try.underlying25 rfl (by kernel_rfl)
    go_upto_region 6 with (first
      | (go_at_call 19; refine (copy_any a n q b m r t w4 HAT.out (by have := HNM.out.1; omega) (by have := HNM.out.2; omega)).mono ?_; rintro e w5 ⟨a2, q2, b2, r2, rfl, hown, hb5⟩)
      | (refine wpList_load_run rfl 25 (.tmp 1) rfl _ _ rfl lX ?_))
    clear lX
    obtain ⟨w6, hw6⟩ : ∃ x, x = w5.alloc (.cells #[.slice a2 n q2, .slice b2 m r2, .bool t.firm] 25) := ⟨_, rfl⟩
    have hb6 : Below w5.heap.size w5 w6 := by rw [hw6]; exact (Below.refl _ _).alloc (Nat.le_refl _) _
    have h3 : Has w6 w5.heap.size 25 #[.slice a2 n q2, .slice b2 m r2, .bool t.firm] := by rw [hw6]; exact Has.fresh _ _ _
    rw [← hw6]
    obtain ⟨g3, hg3⟩ : ∃ g, g = w5.heap.size := ⟨_, rfl⟩
    rw [← hg3]
    rw [← hg3] at h3
    have hb46 := hb5.trans (hb6.mono hb5.size)
    have HO := Lib.hid (hown.below hb6).at
    replace hX := hX.under hb46 hX.lt
    replace HAT := Lib.hid (HAT.out.below hb46)
    have hT6 := hT4.trans (hb46.mono hT4.size)
    clear hw6 hg3 hb5 hb6 hb46 hT4 hown
    have l3 := h3.load_agg (P := Try.prog) (t := 25) Try.underlying25 rfl (by kernel_rfl)
    go_upto_region 7 with (first
      | (go_at_call 20; refine (ok.copy a2 n q2 b2 m r2 t w6 HO.out SA.out).mono ?_; rintro e w7 ⟨a4, q4, b4, r4, rfl, hown, hb7⟩)
      | (refine wpList_load_run rfl 25 (.tmp 3) rfl _ _ rfl l3 ?_))
    clear l3
    obtain ⟨w8, hw8⟩ : ∃ x, x = w7.alloc (.cells #[.slice a4 n q4, .slice b4 m r4, .bool t.firm] 25) := ⟨_, rfl⟩
    have hb8 : Below w7.heap.size w7 w8 := by rw [hw8]; exact (Below.refl _ _).alloc (Nat.le_refl _) _
    have h4 : Has w8 w7.heap.size 25 #[.slice a4 n q4, .slice b4 m r4, .bool t.firm] := by rw [hw8]; exact Has.fresh _ _ _
    rw [← hw8]
    obtain ⟨g4, hg4⟩ : ∃ g, g = w7.heap.size := ⟨_, rfl⟩
    rw [← hg4]
    rw [← hg4] at h4
    have hb68 := hb7.trans (hb8.mono hb7.size)
    have HC := Lib.hid (hown.below hb8).at
    have HRS := Lib.hid (OwnR.rowed (hown.below hb8).sp)
    have HRC := Lib.hid (OwnR.rowed (hown.below hb8).co)
    have hX8 := hX.under hb68 hX.lt
    have HA8 := Lib.hid (HAT.out.below hb68)
    have l1 := hX8.load_agg (P := Try.prog) (t := 25) Try.underlying25 rfl (by kernel_rfl)
    have l4 := h4.load_agg (P := Try.prog) (t := 25) Try.underlying25 rfl (by kernel_rfl)
    clear hw8 hg4 hb7 hb8 hown
    go_upto_region 8 with (first
      | (go_at_call 14; refine (txeq_any a4 n q4 b4 m r4 t a n q b m r t w8 HC.out HA8.out).mono ?_; rw [decide_eq_true rfl]; rintro e w9 ⟨rfl, hb9⟩)
      | (refine wpList_load_run rfl 25 (.tmp 1) rfl _ _ rfl l1 ?_)
      | (refine wpList_load_run rfl 25 (.tmp 4) rfl _ _ rfl l4 ?_))
    have hb69 := hb68.trans (hb9.mono hb68.size)
    replace h4 := h4.under hb9 h4.lt
    replace HRS := Lib.hid (HRS.out.below hb9)
    replace HRC := Lib.hid (HRC.out.below hb9)
    clear l1 l4 hX8 HA8 hb68 hb9 HC
    have hn30 := HNM.out.1
    have hm30 := HNM.out.2
    have c40 : w9.cell? ⟨g4, 0, none⟩ = some (.slice a4 n q4) := h4.cell_at rfl
    go_wp2
    go_loopw [23] (fun iv wr => ∃ i : Nat, i ≤ n ∧ iv = .int .i64 i ∧ Rowed 54 35 w6.heap.size wr a4 n ∧ Rowed 56 2 w6.heap.size wr b4 m ∧ Has wr g4 25 #[.slice a4 n q4, .slice b4 m r4, .bool t.firm] ∧ Below w6.heap.size w6 wr) (fun iv _ => n - (intOf iv).toNat)
    case atStart => exact ⟨0, Nat.zero_le _, rfl, HRS.out, HRC.out, h4, hb69⟩
    case round =>
      clear HRS HRC h4 hb69 c40
      obtain ⟨i, hi, rfl, hrs, hrc, h4, hb⟩ := hrel
      by_cases hlt : i < n
      · have hii : (i : Int) < (n : Int) := by omega
        have hi0 : (0 : Int) ≤ (i : Int) := by omega
        obtain ⟨g, cur, rfl, hBg, hh, hsz⟩ := hrs.open hlt
        have c40 : wr.cell? ⟨g4, 0, none⟩ = some (.slice (some ⟨g, 0, none⟩) n q4) := h4.cell_at rfl
        have hbd : i * 35 + 35 ≤ cur.size := by omega
        have HRC := Lib.hid hrc
        clear hrs hrc
        obtain ⟨cs, hcs⟩ : ∃ cs : Array Value, cs = zSpoilt := ⟨_, rfl⟩
        have HCS := Lib.hid hcs
        clear hcs
        go_upto_region 12 with (first
          | (refine wpList_store_mid rfl 54 (.tmp 30) (.tmp 29) rfl g (i * 35) cs rfl (by rw [HCS.out]; rfl) (by rw [HCS.out]; exact there_spoilt hh hbd) (by rw [HCS.out]; exact size_spoilt) (by rw [HCS.out]; exact one_spoilt) ?_))
        obtain ⟨wn, hwn⟩ : ∃ x, x = wr.setCells g (i * 35) cs.toList := ⟨_, rfl⟩
        have k1 : Rowed 54 35 w6.heap.size wn (some ⟨g, 0, none⟩) n := by rw [hwn]; exact Rowed.put hBg hh hsz _ _
        have k2 : Rowed 56 2 w6.heap.size wn b4 m := by rw [hwn]; exact HRC.out.aside hh (by decide) _ _
        have k3 : Has wn g4 25 #[.slice (some ⟨g, 0, none⟩) n q4, .slice b4 m r4, .bool t.firm] := by rw [hwn]; exact h4.asideAll (h4.ne_type hh (by decide)) _ _
        have k4 : Below w6.heap.size w6 wn := by rw [hwn]; exact below_setAll hBg _ _ hb
        rw [← hwn]
        clear hwn hh c40 h4 hb
        have K := Lib.hid (And.intro k1 (And.intro k2 (And.intro k3 k4)))
        clear k1 k2 k3 k4
        go_wp2
        go_roundw
        case rel => exact ⟨i + 1, by omega, by go_num, K.out.1, K.out.2.1, K.out.2.2.1, K.out.2.2.2⟩
        case measure => (simp [intOf]; try omega)
      · have hii : ¬ (i : Int) < (n : Int) := by omega
        have c41 : wr.cell? ⟨g4, 1, none⟩ = some (.slice b4 m r4) := h4.cell_at rfl
        clear hrs
        have hbA := hb
        go_wp2
        go_loopw [35] (fun iv wr => ∃ i : Nat, i ≤ m ∧ iv = .int .i64 i ∧ Rowed 56 2 w6.heap.size wr b4 m ∧ Has wr g4 25 #[.slice a4 n q4, .slice b4 m r4, .bool t.firm] ∧ Below w6.heap.size w6 wr) (fun iv _ => m - (intOf iv).toNat)
        case atStart => exact ⟨0, Nat.zero_le _, rfl, hrc, h4, hbA⟩
        case round =>
          clear hrc h4 hb hbA c41
          obtain ⟨j, hj, rfl, hrc, h4, hb⟩ := hrel
          by_cases hlj : j < m
          · have hji : (j : Int) < (m : Int) := by omega
            have hj0 : (0 : Int) ≤ (j : Int) := by omega
            obtain ⟨g, cur, rfl, hBg, hh, hsz⟩ := hrc.open hlj
            have c41 : wr.cell? ⟨g4, 1, none⟩ = some (.slice (some ⟨g, 0, none⟩) m r4) := h4.cell_at rfl
            have hbd : j * 2 + 2 ≤ cur.size := by omega
            clear hrc
            obtain ⟨cs, hcs⟩ : ∃ cs : Array Value, cs = #[.int .i64 77, .int .u64 0] := ⟨_, rfl⟩
            have HCS := Lib.hid hcs
            clear hcs
            go_upto_region 17 with (first
              | (refine wpList_store_mid rfl 56 (.tmp 42) (.tmp 41) rfl g (j * 2) cs rfl (by rw [HCS.out]; rfl) (by rw [HCS.out]; exact hh.there (j * 2) 2 hbd) (by rw [HCS.out]; exact size_seven) (by rw [HCS.out]; exact one_seven) ?_))
            obtain ⟨wn, hwn⟩ : ∃ x, x = wr.setCells g (j * 2) cs.toList := ⟨_, rfl⟩
            have k2 : Rowed 56 2 w6.heap.size wn (some ⟨g, 0, none⟩) m := by rw [hwn]; exact Rowed.put hBg hh hsz _ _
            have k3 : Has wn g4 25 #[.slice a4 n q4, .slice (some ⟨g, 0, none⟩) m r4, .bool t.firm] := by rw [hwn]; exact h4.asideAll (h4.ne_type hh (by decide)) _ _
            have k4 : Below w6.heap.size w6 wn := by rw [hwn]; exact below_setAll hBg _ _ hb
            rw [← hwn]
            clear hwn hh c41 h4 hb
            have K := Lib.hid (And.intro k2 (And.intro k3 k4))
            clear k2 k3 k4
            go_wp2
            go_roundw
            case rel => exact ⟨j + 1, by omega, by go_num, K.out.1, K.out.2.1, K.out.2.2⟩
            case measure => (simp [intOf]; try omega)
          · have hji : ¬ (j : Int) < (m : Int) := by omega
            have h3r := h3.under hb h3.lt
            have hXr := hX.under hb hX.lt
            have l3 := h3r.load_agg (P := Try.prog) (t := 25) Try.underlying25 rfl (by kernel_rfl)
            have l1 := hXr.load_agg (P := Try.prog) (t := 25) Try.underlying25 rfl (by kernel_rfl)
            have c30 : wr.cell? ⟨g3, 0, none⟩ = some (.slice a2 n q2) := h3r.cell_at rfl
            have c31 : wr.cell? ⟨g3, 1, none⟩ = some (.slice b2 m r2) := h3r.cell_at rfl
            have c32 : wr.cell? ⟨g3, 2, none⟩ = some (.bool t.firm) := h3r.cell_at rfl
            have c10 : wr.cell? ⟨g1, 0, none⟩ = some (.slice a n q) := hXr.cell_at rfl
            have c11 : wr.cell? ⟨g1, 1, none⟩ = some (.slice b m r) := hXr.cell_at rfl
            have c12 : wr.cell? ⟨g1, 2, none⟩ = some (.bool t.firm) := hXr.cell_at rfl
            go_wp2_with (first
              | (go_at_call 14; refine (txeq_any a2 n q2 b2 m r2 t a n q b m r t wr (HO.out.below hb) (HAT.out.below hb)).mono ?_; rw [decide_eq_true rfl]; rintro e w10 ⟨rfl, hb10⟩))
            go_ret
            exact ⟨rfl, hT6.trans ((hb.trans (hb10.mono hb.size)).mono hT6.size)⟩
set_option maxRecDepth 100000 in
theorem txCopiesWalkK (ok : TxOk) {H : Type} {enc : TypeId × Value → H} (W : World) (base : Nat) (v0 : Value) (d0 : DataW H) (p0 : List MemPlace)
    (o0 : Value.okWide Try.prog W .any base 25 v0)
    (h0 : DataW.Trod enc Try.prog W 0 (fun _ => true) true 25 v0 d0 p0) :
    Calls Try.prog 5 #[v0] W fun e w' => e = .returned (.bool true) ∧ Below W.heap.size W w' := by
  obtain ⟨a, n, q, b, m, r, t, rfl, ht⟩ := arg_tx o0 h0
  exact copiesMain ok a n q b m r t W ht
end Go.Proofs.Ytpbijcchdjppmaa
