/- CoinsCopies, over the premise (mkcrx.py; in work) -/
import Derived.Test.YtagjolbpmhbifaaGreatDoorCrG
import Derived.Test.YtagjolbpmhbifaaGreatDoorCrH
import Derived.Test.YtagjolbpmhbifaaGreatDoorCsV
import Derived.Test.YtagjolbpmhbifaaGreatDoorCsL
import Derived.Test.YtagjolbpmhbifaaGreatDoorCsu
import Derived.Test.YtagjolbpmhbifaaGreatDoorCtp
namespace Go.Proofs.YtagjolbpmhbifaaGreatDoor
open Go Go.RowKit Go.ChangeShapes Go.WideShapes
/-- a set in the program, the reference's list beside it -/
structure Cc (S : World → Value → Fp → Cs.Mp → Prop) (B : Nat) (w : World) (v : Value) (F : Fp) (M : Cs.Mp) (xa : Option Addr) (xn xq : Nat) (m : List Cs.Hv) : Prop where
  s : S w v F M
  fr : ∀ j, F j → B ≤ j
  r : Recs hvRec w xa xn m
  q : xn ≤ xq ∧ (xa = none → xq = 0)
  nf : ∀ x, xa = some x → ¬ F x.block ∧ x.block < w.heap.size
  be : Cs.Beside M m
theorem Cc.ok {S : World → Value → Fp → Cs.Mp → Prop} {B : Nat} {w : World} {v : Value} {F : Fp} {M : Cs.Mp} {xa : Option Addr} {xn xq : Nat} {m : List Cs.Hv} (h : Cc S B w v F M xa xn xq m) : ∀ x, x ∈ m → x.1.1.length = 32 := fun x hx => (Cs.hv_ok h.r x hx).1.1
theorem Cc.aside {S : World → Value → Fp → Cs.Mp → Prop} (ok : CoinsOk S) {B : Nat} {w w' : World} {v : Value} {F G : Fp} {M : Cs.Mp} {xa : Option Addr} {xn xq : Nat} {m : List Cs.Hv} (h : Cc S B w v F M xa xn xq m) (hm : Moved G w w') (hFG : ∀ j, F j → ¬ G j) (hx : ∀ x, xa = some x → ¬ G x.block) : Cc S B w' v F M xa xn xq m :=
  ⟨ok.moved h.s hm hFG, h.fr, h.r.moved hm (fun _ => hx), h.q, fun x e => ⟨(h.nf x e).1, Nat.lt_of_lt_of_le (h.nf x e).2 hm.size⟩, h.be⟩
theorem Cc.below {S : World → Value → Fp → Cs.Mp → Prop} (ok : CoinsOk S) {B : Nat} {w w' : World} {v : Value} {F : Fp} {M : Cs.Mp} {xa : Option Addr} {xn xq : Nat} {m : List Cs.Hv} (h : Cc S B w v F M xa xn xq m) (hb : Below w.heap.size w w') : Cc S B w' v F M xa xn xq m :=
  h.aside ok (G := fun _ => False) (Moved.of_below hb) (fun _ _ e => e) (fun _ _ e => e)
theorem Cc.next {S : World → Value → Fp → Cs.Mp → Prop} (ok : CoinsOk S) {B : Nat} {w w9 wA : World} {v : Value} {F F2 : Fp} {M M2 : Cs.Mp} {xa a' : Option Addr} {xn xq n' q' : Nat} {m m' : List Cs.Hv} (h : Cc S B w v F M xa xn xq m) (hB : B ≤ w.heap.size)
    (hS9 : S w9 v F2 M2) (hg : Cs.Grown w F F2) (hm : Moved F w w9) (hr : Recs hvRec wA a' n' m') (hq : n' ≤ q' ∧ (a' = none → q' = 0)) (hx : ∀ x, a' = some x → xa = some x ∨ (w9.heap.size ≤ x.block ∧ x.block < wA.heap.size)) (hbA : Below w9.heap.size w9 wA) (hbe : Cs.Beside M2 m') : Cc S B wA v F2 M2 a' n' q' m' :=
  ⟨ok.below hS9 hbA, fun j hj => (hg j hj).elim (h.fr j) (fun e => Nat.le_trans hB e), hr, hq, fun x e => by
    rcases hx x e with h1 | h1
    · obtain ⟨h2, h3⟩ := h.nf x h1
      exact ⟨fun h4 => (hg _ h4).elim h2 (fun h5 => by omega), Nat.lt_of_lt_of_le h3 (Nat.le_trans hm.size hbA.size)⟩
    · exact ⟨fun h4 => by have := ok.lt hS9 _ h4; omega, h1.2⟩, hbe⟩
theorem r12wanted {P : Program} {ops : Array Oper} {Q : Exit → Act → World → Prop} {a : Act} {w : World} {rest : List Oper} {o : Oper} (hw : Region.wanted o (yielded ops a.tmps) = true)
    (h : ∀ K : Act → World → Prop, (∀ a w, wpList P ops Q rest a w → K a w) → o.wp P a w K Q) : wpList P ops Q (o :: rest) a w :=
  wpList_step fun K hK => by rw [if_pos hw]; exact h K hK
theorem r12load_if {P : Program} {ops : Array Oper} {rest : List Oper} {op : Oper} {a : Act} {w : World} {Q : Exit → Act → World → Prop} (hgd : Region.wanted op (yielded ops a.tmps) = true) (ty : TypeId) (x : Operand) (ho : op.op = .load ty x)
    (p v : Value) (hx : a.eval x = p) (hr : (Instr.loadAt ty p).run P w = .ok v w) (h : wpList P ops Q rest (a.put op.dst v) w) : wpList P ops Q (op :: rest) a w :=
  r12wanted hgd fun K hK => by
    unfold Oper.wp execOp
    simp only [ho, hx, Sem.run_bind, Sem.run_pure, Result.andThen_ok, hr]
    exact hK _ _ h
theorem r12build_und {ops : Array Oper} {rest : List Oper} {op : Oper} {a : Act} {w : World} {Q : Exit → Act → World → Prop} (hgd : Region.wanted op (yielded ops a.tmps) = true) (x : Operand) (ho : op.op = .build 50 #[(0, x)]) (ta : Option Addr) (tn tq : Nat) (tb : Option Addr) (tm tr : Nat) (f : Bool)
    (hx : a.eval x = .agg #[.slice ta tn tq, .slice tb tm tr, .bool f]) (h : wpList Tryz.prog ops Q rest (a.put op.dst (.agg #[.slice ta tn tq, .slice tb tm tr, .bool f, .slice none 0 0])) w) : wpList Tryz.prog ops Q (op :: rest) a w :=
  r12wanted hgd fun K hK => by
    have hr := run_build (P := Tryz.prog) w 50 #[(0, .agg #[.slice ta tn tq, .slice tb tm tr, .bool f])] #[.slice ta tn tq, .slice tb tm tr, .bool f, .slice none 0 0] (by kernel_rfl)
    unfold Oper.wp execOp
    simp only [ho, List.map_toArray, List.map_cons, List.map_nil, hx, Sem.run_bind, Sem.run_pure, Result.andThen_ok, hr]
    exact hK _ _ h
set_option maxRecDepth 100000 in
set_option maxHeartbeats 8000000 in
theorem ccopiesMain {S : World → Value → Fp → Cs.Mp → Prop} (ok : CoinsOk2 S) (a : Option Addr) (n q : Nat) (L : List Cs.Ac) (a2 : Option Addr) (n2 q2 : Nat) (L2 : List Cs.Ac) (ta : Option Addr) (tn tq : Nat) (tb : Option Addr) (tm tr : Nat) (t : Tx.T) (W : World) (h : Recs (acIn W) W a n L) (h2 : Recs (acIn W) W a2 n2 L2) (ht : TxAt W ta tn tq tb tm tr t) (hK : KDg W) (hT : Tab32 W 2 Dg.kL) :
    Calls Tryz.prog 4 #[.slice a n q, .slice a2 n2 q2, txv ta tn tq tb tm tr t.firm] W fun e w' => e = .returned (.bool true) ∧ Below W.heap.size W w' := by
  have HLA := Lib.hid h
  have HLB := Lib.hid h2
  have HTX := Lib.hid ht
  have HKD := Lib.hid (And.intro hK hT)
  have HOK := ok.toCoinsOk
  have HO2 := ok
  have hnmx : n ≤ 9223372036854775807 := h.2.1
  have hmmx : n2 ≤ 9223372036854775807 := h2.2.1
  obtain ⟨W1, hW1⟩ : ∃ ww, ww = W.alloc (.cells #[.slice ta tn tq, .slice tb tm tr, .bool t.firm] 39 ) := ⟨_, rfl⟩
  have hB1 : Below W.heap.size W W1 := by rw [hW1]; exact (Below.refl _ _).alloc (Nat.le_refl _) _
  have hX : Has W1 W.heap.size 39 #[.slice ta tn tq, .slice tb tm tr, .bool t.firm] := by rw [hW1]; exact Has.fresh _ _ _
  have HX := Lib.hid (fun (w' : World) (hb : Below W1.heap.size W1 w') => (hX.under hb hX.lt).load_agg (P := Tryz.prog) (t := 39 ) Tryz.underlying39 rfl (by kernel_rfl))
  have HXH := Lib.hid (fun (w' : World) (hb : Below W1.heap.size W1 w') => hX.under hb hX.lt)
  have HTS := Lib.hid (show ∀ w', Below W.heap.size W w' → Txs (w'.alloc (.cells #[.slice ta tn tq, .slice tb tm tr, .bool t.firm] 39 )) (some ⟨w'.heap.size, 0, none⟩) 1 [⟨ta, tn, tq, tb, tm, tr, t⟩] from fun w' hb =>
    ⟨recs_fresh (R := vRec) (fun _ _ => trivial) (Has.fresh _ _ _) (by show 1 ≤ maxLen; unfold maxLen; omega) (fun j v hj => by rw [List.getElem?_toArray]; exact hj),
      fun x hx => by
        obtain rfl := List.mem_singleton.1 hx
        exact HTX.out.below (hb.alloc hb.size _)⟩)
  have HW := Lib.hid hW1
  have HB1 := Lib.hid hB1
  have HAL := Lib.hid (alive12 HOK W1 (hK.below hB1))
  clear h h2 ht hK hT ok hX hW1 hB1
  go_enter Tryz.func4, Tryz.ntmps4
  go_upto_region 1 with fail
  rw [← HW.out]
  go_upto_region 3 with (go_at_call 5; refine HAL.out.mono ?_; rintro e w2 ⟨rfl, hb2⟩)
  have hT2 := HB1.out.trans (hb2.mono HB1.out.size)
  go_upto_region 5 with (first
    | (go_at_call 7; refine (large_any _ 1 1 _ _ (HTS.out w4 hT4)).mono ?_; rintro e w5 ⟨bl, rfl, hsm, hb5⟩; have HSM := Lib.hid hsm; clear hsm; have hT5 := (hT4.alloc hT4.size _).trans (hb5.mono (hT4.alloc hT4.size _).size))
    | (go_at_call 6; refine (clong_any a2 n2 q2 L2 w3 (HLB.out.below hT3) hT3).mono ?_; rintro e w4 ⟨z2, rfl, hz2, hb4⟩; have HZ2 := Lib.hid hz2; clear hz2; have hT4 := hT3.trans (hb4.mono hT3.size); have hX4 := HXH.out w4 (hb2.trans ((hb3.trans (hb4.mono hb3.size)).mono hb2.size)); have d0 := hX4.cell_at (i := 0) (v := .slice ta tn tq) rfl; have d1 := hX4.cell_at (i := 1) (v := .slice tb tm tr) rfl; have d2 := hX4.cell_at (i := 2) (v := .bool t.firm) rfl)
    | (go_at_call 6; refine (clong_any a n q L w2 (HLA.out.below hT2) hT2).mono ?_; rintro e w3 ⟨z1, rfl, hz1, hb3⟩; have HZ1 := Lib.hid hz1; clear hz1; have hT3 := hT2.trans (hb3.mono hT2.size)))
  all_goals try (go_ret; first | exact ⟨rfl, hT5⟩ | exact ⟨rfl, hT4⟩ | exact ⟨rfl, hT3⟩)
  have hz1f : z1 = false := by first | rfl | assumption | simp_all
  have hz2f : z2 = false := by first | rfl | assumption | simp_all
  have hblf : bl = false := by first | rfl | assumption | simp_all
  have HSA := Lib.hid (HZ1.out hz1f)
  have HSB := Lib.hid (HZ2.out hz2f)
  have HST := Lib.hid ((HSM.out hblf).2 _ List.mem_cons_self)
  have HT5 := Lib.hid hT5
  have H15 := Lib.hid (show Below W1.heap.size W1 w5 from by
    have h14 := hb2.trans ((hb3.trans (hb4.mono hb3.size)).mono hb2.size)
    exact (h14.alloc h14.size _).trans (hb5.mono (h14.alloc h14.size _).size))
  clear hz1f hz2f hblf HZ1 HZ2 HSM hb2 hb3 hb4 hb5 hT2 hT3 hT4 hT5 hX4 d0 d1 d2
  obtain ⟨B, hB⟩ : ∃ B, B = w5.heap.size := ⟨_, rfl⟩
  have HB := Lib.hid hB
  go_upto_region 6 with (go_at_call 8; refine (HOK.new w5).mono ?_; rintro e w6 ⟨v, F0, rfl, hS, hF, hb6⟩)
  have h67 : Below w6.heap.size w6 (w6.alloc (.cells #[] 112 )) := (Below.refl _ _).alloc (Nat.le_refl _) _
  have hE := (OwnR.empty (R := hvRec) (T := 112 ) (B := w6.heap.size) (w1 := w6.alloc (.cells #[] 112 )) (g := w6.heap.size) (Nat.le_refl _) (Has.fresh _ _ _)).recs
  have HC0 := Lib.hid (show Cc S B (w6.alloc (.cells #[] 112 )) v F0 [] (some ⟨w6.heap.size, 0, none⟩) 0 0 [] ∧ Below B w5 (w6.alloc (.cells #[] 112 )) ∧ B ≤ (w6.alloc (.cells #[] 112 )).heap.size ∧ ([] : List Cs.Hv).length ≤ 0 from
    ⟨⟨HOK.below hS h67, fun j hj => by rw [hB]; exact hF j hj, hE.1, hE.2, fun x e => by injection e with e; subst e; exact ⟨fun h => absurd (HOK.lt hS _ h) (Nat.lt_irrefl _), by simp⟩, Cs.beside_nil⟩, by rw [hB]; exact hb6.trans (h67.mono hb6.size), by rw [hB]; exact Nat.le_trans hb6.size h67.size, Nat.le_refl _⟩)
  clear hS hF hb6 h67 hE hB
  go_wp2
  go_loopw [8, 42] (fun lv iv wr => ∃ (i : Nat) (F : Fp) (M : Cs.Mp) (xa : Option Addr) (xn xq : Nat) (m : List Cs.Hv), i ≤ n ∧ iv = .int .i64 i ∧ lv = .slice xa xn xq ∧ RowKit.Hid (Cc S B wr v F M xa xn xq m ∧ Below B w5 wr ∧ B ≤ wr.heap.size ∧ m.length ≤ i)) (fun _ iv _ => n - (intOf iv).toNat)
  case atStart => exact ⟨0, F0, [], some ⟨w6.heap.size, 0, none⟩, 0, 0, [], Nat.zero_le _, rfl, rfl, HC0⟩
  case round =>
    clear HC0
    obtain ⟨i, F1, M1, xa, xn, xq, m, hi, rfl, rfl, HC⟩ := hrel
    by_cases hlt : i < n
    · have hii : (i : Int) < (n : Int) := by omega
      have hi0 : (0 : Int) ≤ (i : Int) := by omega
      have hb5r : Below w5.heap.size w5 wr := by
        have h := HC.out.2.1
        rw [HB.out] at h
        exact h
      have hTr := HT5.out.trans (hb5r.mono HT5.out.size)
      obtain ⟨x, hx⟩ := HLA.out.get hlt
      have hok : x.At W := HLA.out.okay hx
      have HMEM := Lib.hid (List.mem_of_getElem? hx)
      obtain ⟨y, hay, _⟩ := HLA.out.2.2.2 i x hx
      subst hay
      have hy := (HLA.out.below hTr).load_at Tryz.underlying41 rfl size_act hx
      have HOW := Lib.hid hok
      have HSZ := Lib.hid (show (acCells x).toArray.size = 40 by rw [List.size_toArray, acCells_len hok.pt.1])
      clear hx hok hb5r
      go_upto_region 10 with (first
        | (refine wpList_store_mid rfl 41 (.tmp 10) (.tmp 45) rfl wr.heap.size 0 (acCells x).toArray rfl rfl (by rw [HSZ.out]; exact (Has.fresh _ _ _).there 0 40 (by decide)) (by rw [HSZ.out]; exact size_act) ((acIn W).all_one x) ?_)
        | (refine wpList_load_run rfl 41 (.tmp 44) rfl _ _ rfl hy ?_))
      obtain ⟨w8, hw8⟩ : ∃ u, u = (wr.alloc (.cells zAc 41 )).setCells wr.heap.size 0 (acCells x) := ⟨_, rfl⟩
      obtain ⟨hG, hb8⟩ := Rec.new (R := acIn W) rfl HOW.out hw8
      rw [← hw8]
      clear hw8 hy
      obtain ⟨g7, hg7⟩ : ∃ g, g = wr.heap.size := ⟨_, rfl⟩
      rw [← hg7] at hG ⊢
      have hB8 : Below B w5 w8 := (HC.out.2.1).trans (hb8.mono (HC.out.2.2.1))
      have hBr8 : B ≤ w8.heap.size := Nat.le_trans (HC.out.2.2.1) hb8.size
      have c0 := hG.acKind
      have lP := hG.acPt HOW.out.pt.1
      have lC := hG.acCo HOW.out.pt.1
      have lT := hG.acTx HOW.out.pt.1
      have hC8 := HC.out.1.below HOK hb8
      have hgF : ¬ F1 g7 := fun e => by have := HOK.lt HC.out.1.s _ e; omega
      have HM := Lib.hid (show m.length ≤ i ∧ n ≤ 41 from ⟨HC.out.2.2.2, by have h8 := HLA.out.1; have := HSA.out.1; omega⟩)
      clear hg7 hb8 HC hTr
      by_cases hk0 : x.kind = 0
      · go_upto_region 12 with (first
          | (go_at_call 9; refine (HOK.put hC8.s x.p HOW.out.pt x.c HOW.out.co).mono ?_; rintro e w9 ⟨F2, M2, rfl, hS9, hlk9, hg9, hm9, hl9⟩)
          | (refine wpList_load_run rfl 32 (.tmp 50) rfl _ _ rfl lP ?_)
          | (refine wpList_load_run rfl 35 (.tmp 52) rfl _ _ rfl lC ?_))
        have hG9 : Has w9 g7 41 (acCells x).toArray := Has.moved hG hm9 hgF
        have lP9 := hG9.acPt HOW.out.pt.1
        have lC9 := hG9.acCo HOW.out.pt.1
        obtain ⟨z, hz⟩ : ∃ z, z = Cs.putE m x.p x.c := ⟨_, rfl⟩
        obtain ⟨m2, hm2⟩ : ∃ l, l = (if z = 0 then Cs.rwi m x.p x.c else m) := ⟨_, rfl⟩
        have hbe : Cs.Beside M2 m2 := by rw [hm2, hz]; exact hC8.be.put hC8.ok HOW.out.pt.1 hlk9
        have hml : m2.length ≤ m.length + 1 := by
          rw [hm2]
          split
          · rw [Cs.rwi_len]; exact Nat.le_refl _
          · omega
        have HRP := Lib.hid (show Calls Tryz.prog 17 #[.slice xa xn xq, Cs.ptV x.p, Cs.coV x.c] w9 fun e w' => ∃ (a' : Option Addr) (n' q' : Nat), e = .returned (.tuple #[.slice a' n' q', .int .i64 z]) ∧ Recs hvRec w' a' n' m2 ∧ (n' ≤ q' ∧ (a' = none → q' = 0)) ∧ (∀ x, a' = some x → xa = some x ∨ (w9.heap.size ≤ x.block ∧ x.block < w'.heap.size)) ∧ Below w9.heap.size w9 w' by
          rw [hm2, hz]
          exact r12put xa xn xq m x.p x.c ⟨HOW.out.pt, HOW.out.co⟩ w9 (hC8.r.moved hm9 (fun _ y hy => (hC8.nf y hy).1)) hC8.q (by have h8 := hC8.r.1; have := HM.out; omega))
        clear hz hm2

        go_wp2_with (first
          | (go_at_call 17; refine HRP.out.mono ?_; rintro e wA ⟨a', n', q', rfl, hrA, hqA, hxA, hbA⟩)
          | (refine wpList_load_run rfl 32 (.tmp 57) rfl _ _ rfl lP9 ?_)
          | (refine wpList_load_run rfl 35 (.tmp 59) rfl _ _ rfl lC9 ?_))
        have HC2 := Lib.hid (show Cc S B wA v F2 M2 a' n' q' m2 ∧ Below B w5 wA ∧ B ≤ wA.heap.size ∧ m2.length ≤ i + 1 from ⟨hC8.next HOK hBr8 hS9 hg9 hm9 hrA hqA hxA hbA hbe, (hB8.trans (hm9.below hC8.fr hBr8)).trans (hbA.mono (Nat.le_trans hBr8 hm9.size)), Nat.le_trans (Nat.le_trans hBr8 hm9.size) hbA.size, by have := HM.out.1; omega⟩)
        clear hrA hqA hxA hbA hbe hml hS9 hlk9 hg9 hm9 hl9 hG9 lP9 lC9 hC8 hB8 hBr8 hG lP lC lT c0
        go_roundw
        case rel => exact ⟨i + 1, F2, M2, a', n', q', m2, by omega, by go_num, rfl, HC2⟩
        case measure => (simp [intOf]; try omega)
      · go_wp2
        have HC2 := Lib.hid (show Cc S B w8 v F1 M1 xa xn xq m ∧ Below B w5 w8 ∧ B ≤ w8.heap.size ∧ m.length ≤ i + 1 from ⟨hC8, hB8, hBr8, by have := HM.out.1; omega⟩)
        clear hC8 hB8 hBr8 hG lP lC lT c0
        go_roundw
        case rel => exact ⟨i + 1, F1, M1, xa, xn, xq, m, by omega, by go_num, rfl, HC2⟩
        case measure => (simp [intOf]; try omega)
    · have hii : ¬ (i : Int) < (n : Int) := by omega
      obtain rfl : n = i := by omega
      clear hi hlt
      go_upto_region 15 with (go_at_call 11; refine (HO2.copy HC.out.1.s).mono ?_; rintro e w13 ⟨vc, Fc, Mc, rfl, hSc, hlc, hFc, hb13, hlnc⟩)
      have HQ0 := Lib.hid (show Cc S B w13 v F1 M1 xa xn xq m ∧ Cc S B w13 vc Fc Mc xa xn xq m ∧ (∀ j, F1 j → ¬ Fc j) ∧ (∀ x, xa = some x → ¬ Fc x.block) ∧ Below B w5 w13 ∧ B ≤ w13.heap.size ∧ m.length ≤ 41 + 31 * 0 from by
        have h1 := HC.out.1
        have h2 := HC.out.2.2.1
        have hnf : ∀ x, xa = some x → ¬ Fc x.block := fun x e h => by have h3 := hFc _ h; have h4 := (h1.nf x e).2; omega
        exact ⟨h1.below HOK hb13, ⟨hSc, fun j hj => Nat.le_trans h2 (hFc j hj), h1.r.below hb13, h1.q, fun x e => ⟨hnf x e, Nat.lt_of_lt_of_le (h1.nf x e).2 hb13.size⟩, ⟨h1.be.srt, fun q => (hlc q).trans (h1.be.look q)⟩⟩, fun j hj h => by have h3 := hFc _ h; have h4 := HOK.lt h1.s _ hj; omega, hnf, HC.out.2.1.trans (hb13.mono h2), Nat.le_trans h2 hb13.size, by have h8 := HLA.out.1; have h9 := HSA.out.1; have h7 := HC.out.2.2.2; omega⟩)
      have HM1 := Lib.hid (show m.length ≤ 41 by have h8 := HLA.out.1; have h9 := HSA.out.1; have h7 := HC.out.2.2.2; omega)
      clear hSc hlc hFc hb13 hlnc HC
      go_wp2
      go_loopw [12, 70] (fun lv iv wr => ∃ (i : Nat) (Fd : Fp) (Md : Cs.Mp) (ya : Option Addr) (yn yq : Nat) (k : List Cs.Hv), i ≤ n2 ∧ iv = .int .i64 i ∧ lv = .slice ya yn yq ∧ RowKit.Hid (Cc S B wr v F1 M1 xa xn xq m ∧ Cc S B wr vc Fd Md ya yn yq k ∧ (∀ j, F1 j → ¬ Fd j) ∧ (∀ x, xa = some x → ¬ Fd x.block) ∧ Below B w5 wr ∧ B ≤ wr.heap.size ∧ k.length ≤ 41 + 31 * i)) (fun _ iv _ => n2 - (intOf iv).toNat)
      case atStart => exact ⟨0, Fc, Mc, xa, xn, xq, m, Nat.zero_le _, rfl, rfl, HQ0⟩
      case round =>
        clear HQ0
        rename World => wr
        obtain ⟨i, Fd, Md, ya, yn, yq, k, hi, rfl, rfl, HQ⟩ := hrel
        by_cases hlt : i < n2
        · have hii : (i : Int) < (n2 : Int) := by omega
          have hi0 : (0 : Int) ≤ (i : Int) := by omega
          have hb5r : Below w5.heap.size w5 wr := by
            have h := HQ.out.2.2.2.2.1
            rw [HB.out] at h
            exact h
          have hTr := HT5.out.trans (hb5r.mono HT5.out.size)
          obtain ⟨x, hx⟩ := HLB.out.get hlt
          have hok : x.At W := HLB.out.okay hx
          have HMEM := Lib.hid (List.mem_of_getElem? hx)
          obtain ⟨y, hay, _⟩ := HLB.out.2.2.2 i x hx
          subst hay
          have hy := (HLB.out.below hTr).load_at Tryz.underlying41 rfl size_act hx
          have HOW := Lib.hid hok
          have HSZ := Lib.hid (show (acCells x).toArray.size = 40 by rw [List.size_toArray, acCells_len hok.pt.1])
          clear hx hok hb5r
          go_upto_region 18 with (first
            | (refine wpList_store_mid rfl 41 (.tmp 14) (.tmp 73) rfl wr.heap.size 0 (acCells x).toArray rfl rfl (by rw [HSZ.out]; exact (Has.fresh _ _ _).there 0 40 (by decide)) (by rw [HSZ.out]; exact size_act) ((acIn W).all_one x) ?_)
            | (refine wpList_load_run rfl 41 (.tmp 72) rfl _ _ rfl hy ?_))
          obtain ⟨w8, hw8⟩ : ∃ u, u = (wr.alloc (.cells zAc 41 )).setCells wr.heap.size 0 (acCells x) := ⟨_, rfl⟩
          obtain ⟨hG, hb8⟩ := Rec.new (R := acIn W) rfl HOW.out hw8
          rw [← hw8]
          clear hw8 hy
          obtain ⟨g7, hg7⟩ : ∃ g, g = wr.heap.size := ⟨_, rfl⟩
          rw [← hg7] at hG ⊢
          have hB8 : Below B w5 w8 := (HQ.out.2.2.2.2.1).trans (hb8.mono (HQ.out.2.2.2.2.2.1))
          have hBr8 : B ≤ w8.heap.size := Nat.le_trans (HQ.out.2.2.2.2.2.1) hb8.size
          have c0 := hG.acKind
          have lP := hG.acPt HOW.out.pt.1
          have lC := hG.acCo HOW.out.pt.1
          have lT := hG.acTx HOW.out.pt.1
          have hA8 := HQ.out.1.below HOK hb8
          have hC8 := HQ.out.2.1.below HOK hb8
          have HD := Lib.hid (And.intro HQ.out.2.2.1 HQ.out.2.2.2.1)
          have hgF : ¬ Fd g7 := fun e => by have := HOK.lt HQ.out.2.1.s _ e; omega
          have HM := Lib.hid (show k.length ≤ 41 + 31 * i ∧ i < n2 ∧ n2 ≤ 41 from ⟨HQ.out.2.2.2.2.2.2, hlt, by have h8 := HLB.out.1; have := HSB.out.1; omega⟩)
          have HT8 := Lib.hid (show Below W.heap.size W w8 from hTr.trans (hb8.mono hTr.size))
          clear hg7 hb8 HQ hTr
          by_cases hk0 : x.kind = 0
          · go_upto_region 21 with (first
              | (go_at_call 9; refine (HOK.put hC8.s x.p HOW.out.pt x.c HOW.out.co).mono ?_; rintro e w9 ⟨F2, M2, rfl, hS9, hlk9, hg9, hm9, hl9⟩)
              | (refine wpList_load_run rfl 32 (.tmp 79) rfl _ _ rfl lP ?_)
              | (refine wpList_load_run rfl 35 (.tmp 81) rfl _ _ rfl lC ?_))
            have hG9 : Has w9 g7 41 (acCells x).toArray := Has.moved hG hm9 hgF
            have lP9 := hG9.acPt HOW.out.pt.1
            have lC9 := hG9.acCo HOW.out.pt.1
            obtain ⟨z, hz⟩ : ∃ z, z = Cs.putE k x.p x.c := ⟨_, rfl⟩
            obtain ⟨m2, hm2⟩ : ∃ l, l = (if z = 0 then Cs.rwi k x.p x.c else k) := ⟨_, rfl⟩
            have hbe : Cs.Beside M2 m2 := by rw [hm2, hz]; exact hC8.be.put hC8.ok HOW.out.pt.1 hlk9
            have hml : m2.length ≤ k.length + 1 := by
              rw [hm2]
              split
              · rw [Cs.rwi_len]; exact Nat.le_refl _
              · omega
            have HRP := Lib.hid (show Calls Tryz.prog 17 #[.slice ya yn yq, Cs.ptV x.p, Cs.coV x.c] w9 fun e w' => ∃ (a' : Option Addr) (n' q' : Nat), e = .returned (.tuple #[.slice a' n' q', .int .i64 z]) ∧ Recs hvRec w' a' n' m2 ∧ (n' ≤ q' ∧ (a' = none → q' = 0)) ∧ (∀ x, a' = some x → ya = some x ∨ (w9.heap.size ≤ x.block ∧ x.block < w'.heap.size)) ∧ Below w9.heap.size w9 w' by
              rw [hm2, hz]
              exact r12put ya yn yq k x.p x.c ⟨HOW.out.pt, HOW.out.co⟩ w9 (hC8.r.moved hm9 (fun _ y hy => (hC8.nf y hy).1)) hC8.q (by have h8 := hC8.r.1; have := HM.out; omega))
            clear hz hm2

            go_wp2_with (first
              | (go_at_call 17; refine HRP.out.mono ?_; rintro e wA ⟨a', n', q', rfl, hrA, hqA, hxA, hbA⟩)
              | (refine wpList_load_run rfl 32 (.tmp 86) rfl _ _ rfl lP9 ?_)
              | (refine wpList_load_run rfl 35 (.tmp 88) rfl _ _ rfl lC9 ?_))
            have HQ2 := Lib.hid (show Cc S B wA v F1 M1 xa xn xq m ∧ Cc S B wA vc F2 M2 a' n' q' m2 ∧ (∀ j, F1 j → ¬ F2 j) ∧ (∀ x, xa = some x → ¬ F2 x.block) ∧ Below B w5 wA ∧ B ≤ wA.heap.size ∧ m2.length ≤ 41 + 31 * (i + 1) from
              ⟨(hA8.aside HOK hm9 HD.out.1 HD.out.2).below HOK hbA, hC8.next HOK hBr8 hS9 hg9 hm9 hrA hqA hxA hbA hbe, fun j hj h => (hg9 j h).elim (HD.out.1 j hj) (fun h => by have := HOK.lt hA8.s _ hj; omega), fun x e h => (hg9 _ h).elim (HD.out.2 x e) (fun h => by have := (hA8.nf x e).2; omega), (hB8.trans (hm9.below hC8.fr hBr8)).trans (hbA.mono (Nat.le_trans hBr8 hm9.size)), Nat.le_trans (Nat.le_trans hBr8 hm9.size) hbA.size, by have := HM.out.1; omega⟩)
            clear hrA hqA hxA hbA hbe hml hS9 hlk9 hg9 hm9 hl9 hG9 lP9 lC9 hC8 hA8 hB8 hBr8 hG lP lC lT c0
            go_roundw
            case rel => exact ⟨i + 1, F2, M2, a', n', q', m2, by omega, by go_num, rfl, HQ2⟩
            case measure => (simp [intOf]; try omega)
          · by_cases hk1 : x.kind = 1
            · obtain ⟨er, her⟩ : ∃ e, e = errn (Cs.doE Md (Tx.idOf false x.v.t) x.v.t) := ⟨_, rfl⟩
              have hdo := HOK.do_ hC8.s x.v.a x.v.n x.v.q x.v.b x.v.m x.v.r x.v.t (HOW.out.tx.below HT8.out) (HSB.out.2 x HMEM.out).1 (HKD.out.1.below HT8.out)
              rw [← her] at hdo
              have HDO := Lib.hid hdo
              clear her hdo
              go_upto_region 24 with (first
                | (go_at_call 13; refine HDO.out.mono ?_; rintro e w9 ⟨F2, M2, ua, un, uq, ub, um, ur, uc, uk, ul, u, sp, rfl, hS9, _, hd9, he9, hg9, hm9, hl9⟩)
                | (refine wpList_load_run rfl 39 (.tmp 97) rfl _ _ rfl lT ?_))
              have hG9 : Has w9 g7 41 (acCells x).toArray := Has.moved hG hm9 hgF
              have lT9 := hG9.acTx HOW.out.pt.1
              have hB9 := hB8.trans (hm9.below hC8.fr hBr8)
              have hT9 : Below W.heap.size W w9 := by
                have h := hB9
                rw [HB.out] at h
                exact HT5.out.trans (h.mono HT5.out.size)
              obtain ⟨D, hD⟩ : ∃ D, D = Tx.idOf false x.v.t := ⟨_, rfl⟩
              obtain ⟨z, hz⟩ : ∃ z, z = Cs.doE k D x.v.t := ⟨_, rfl⟩
              obtain ⟨m2, hm2⟩ : ∃ l, l = (if z = 0 then Cs.rdo k D x.v.t else k) := ⟨_, rfl⟩
              have hbe : Cs.Beside M2 m2 := by
                rw [hm2, hz]
                rw [← hD] at hd9 he9
                exact hC8.be.do_ hC8.ok (by rw [hD]; exact Tx.idOf_len _ _) (fun h => (hd9 h).1) he9
              have hml : m2.length ≤ k.length + 30 := by
                rw [hm2]
                have h1 := Cs.rdo_len k D x.v.t
                have h2 := (HSB.out.2 x HMEM.out).1.2.1
                split
                · omega
                · omega
              have HRP := Lib.hid (show Calls Tryz.prog 18 #[.slice ya yn yq, txv x.v.a x.v.n x.v.q x.v.b x.v.m x.v.r x.v.t.firm] w9 fun e w' => ∃ (a' : Option Addr) (n' q' : Nat) (v2 : Value), e = .returned (.tuple #[.slice a' n' q', v2, .int .i64 z]) ∧ Recs hvRec w' a' n' m2 ∧ (n' ≤ q' ∧ (a' = none → q' = 0)) ∧ (∀ x, a' = some x → ya = some x ∨ (w9.heap.size ≤ x.block ∧ x.block < w'.heap.size)) ∧ Below w9.heap.size w9 w' by
                rw [hm2, hz]
                exact r12do ya yn yq k x.v.a x.v.n x.v.q x.v.b x.v.m x.v.r x.v.t w9 (hC8.r.moved hm9 (fun _ y hy => (hC8.nf y hy).1)) hC8.q (HOW.out.tx.below hT9) (HSB.out.2 x HMEM.out).1 (HKD.out.2.below hT9) (by have h8 := hC8.r.1; have := HM.out; omega) D hD)
              clear hz hm2 hD hd9 he9 hT9
              go_wp2_with (first
                | (go_at_call 18; refine HRP.out.mono ?_; rintro e wA ⟨a', n', q', v2, rfl, hrA, hqA, hxA, hbA⟩)
                | (refine wpList_load_run rfl 39 (.tmp 104) rfl _ _ rfl lT9 ?_))
              have HQ2 := Lib.hid (show Cc S B wA v F1 M1 xa xn xq m ∧ Cc S B wA vc F2 M2 a' n' q' m2 ∧ (∀ j, F1 j → ¬ F2 j) ∧ (∀ x, xa = some x → ¬ F2 x.block) ∧ Below B w5 wA ∧ B ≤ wA.heap.size ∧ m2.length ≤ 41 + 31 * (i + 1) from
                ⟨(hA8.aside HOK hm9 HD.out.1 HD.out.2).below HOK hbA, hC8.next HOK hBr8 hS9 hg9 hm9 hrA hqA hxA hbA hbe, fun j hj h => (hg9 j h).elim (HD.out.1 j hj) (fun h => by have := HOK.lt hA8.s _ hj; omega), fun x e h => (hg9 _ h).elim (HD.out.2 x e) (fun h => by have := (hA8.nf x e).2; omega), hB9.trans (hbA.mono (Nat.le_trans hBr8 hm9.size)), Nat.le_trans (Nat.le_trans hBr8 hm9.size) hbA.size, by have := HM.out.1; omega⟩)
              clear hrA hqA hxA hbA hbe hml hS9 hg9 hm9 hl9 hG9 lT9 hC8 hA8 hB8 hBr8 hB9 hG lP lC lT c0
              go_roundw
              case rel => exact ⟨i + 1, F2, M2, a', n', q', m2, by omega, by go_num, rfl, HQ2⟩
              case measure => (simp [intOf]; try omega)
            · go_wp2
              have HQ2 := Lib.hid (show Cc S B w8 v F1 M1 xa xn xq m ∧ Cc S B w8 vc Fd Md ya yn yq k ∧ (∀ j, F1 j → ¬ Fd j) ∧ (∀ x, xa = some x → ¬ Fd x.block) ∧ Below B w5 w8 ∧ B ≤ w8.heap.size ∧ k.length ≤ 41 + 31 * (i + 1) from ⟨hA8, hC8, HD.out.1, HD.out.2, hB8, hBr8, by have := HM.out.1; omega⟩)
              clear hC8 hA8 hB8 hBr8 hG lP lC lT c0
              go_roundw
              case rel => exact ⟨i + 1, Fd, Md, ya, yn, yq, k, by omega, by go_num, rfl, HQ2⟩
              case measure => (simp [intOf]; try omega)
        · have hii : ¬ (i : Int) < (n2 : Int) := by omega
          obtain rfl : n2 = i := by omega
          clear hi hlt
          have h5r : Below w5.heap.size w5 wr := by
            have h := HQ.out.2.2.2.2.1
            rw [HB.out] at h
            exact h
          have HTr := Lib.hid (HT5.out.trans (h5r.mono HT5.out.size))
          have H1r := Lib.hid (H15.out.trans (h5r.mono H15.out.size))
          have HSN := Lib.hid (fun (w' : World) => (show SetN w' (.pointer none) (fun _ => False) [] from .inr ⟨rfl, rfl, rfl⟩))
          obtain ⟨fe, hfe⟩ : ∃ e, e = Cs.feeE [] t := ⟨_, rfl⟩
          obtain ⟨fv, hfv⟩ : ∃ e, e = Cs.feeV [] t := ⟨_, rfl⟩
          obtain ⟨ck, hck⟩ : ∃ e, e = Tx.check t := ⟨_, rfl⟩
          have HFE := Lib.hid (show fe = if ck = 0 then 7 else ck by
            rw [hfe, hck]
            unfold Cs.feeE
            by_cases h1 : Tx.check t = 0
            · rw [if_pos h1, if_pos h1, if_neg]
              intro h3
              obtain ⟨s, hs⟩ := List.exists_mem_of_length_pos (Cs.check_parts h1).1
              have h5 := h3 (Cs.pt s) (List.mem_map_of_mem hs)
              cases h5
            · rw [if_neg h1, if_neg h1])
          have hf0 : ¬ fe = 0 := by
            intro h
            rw [HFE.out] at h
            by_cases h1 : ck = 0
            · rw [if_pos h1] at h
              exact absurd h (by decide)
            · rw [if_neg h1] at h
              exact h1 h
          have HFC := Lib.hid (show ∀ w', Below wr.heap.size wr w' → Calls Tryz.prog 12 #[.pointer none, txv ta tn tq tb tm tr t.firm] w' fun e w2 => e = .returned (.tuple #[.int .i64 fv, errn fe]) ∧ Below w'.heap.size w' w2 from fun w' hb => by
            rw [hfe, hfv]
            have h1 := HTr.out.trans (hb.mono HTr.out.size)
            exact pfee_any (HSN.out w') (fun x hx => by cases hx) ta tn tq tb tm tr t (HTX.out.below h1) HST.out (HKD.out.1.below h1))
          have HDC := Lib.hid (show ∀ w', Below wr.heap.size wr w' → Calls Tryz.prog 13 #[.pointer none, txv ta tn tq tb tm tr t.firm] w' fun e w2 => e = .returned (.tuple #[.agg #[.slice none 0 0, .slice none 0 0, .bool false, .slice none 0 0], errn fe]) ∧ Below w'.heap.size w' w2 from fun w' hb => by
            rw [show errn fe = erro fe from if_neg hf0, hfe]
            have h1 := HTr.out.trans (hb.mono HTr.out.size)
            exact pdo_fail (HSN.out w') (fun x hx => by cases hx) ta tn tq tb tm tr t (HTX.out.below h1) HST.out (HKD.out.1.below h1) (by rw [← hfe]; exact hf0))
          have HCC := Lib.hid (show ∀ w', Below wr.heap.size wr w' → Calls Tryz.prog 20 #[txv ta tn tq tb tm tr t.firm] w' fun e w2 => e = .returned (errn ck) ∧ Below w'.heap.size w' w2 from fun w' hb => by
            rw [hck]
            have h1 := HTr.out.trans (hb.mono HTr.out.size)
            exact pcheck_any ta tn tq tb tm tr t t.firm w' (HTX.out.below h1) (by have h8 : t.co.length ≤ 30 := HST.out.2.1; have := HTX.out.co.1; omega))
          have HWC := Lib.hid (show ∀ w', Calls Tryz.prog 10 #[.pointer none] w' fun e w2 => e = .returned (.tuple #[.int .i64 0, .nilIface]) ∧ Below w'.heap.size w' w2 from fun w' => pworth_any (HSN.out w') (by simp) (fun x hx => by cases hx))
          have HGC := Lib.hid (show ∀ w', Calls Tryz.prog 16 #[.pointer none, .agg zPt] w' fun e w2 => e = .returned (.tuple #[.agg #[.int .i64 0, .int .u64 0], .bool false]) ∧ Below w'.heap.size w' w2 from fun w' => pget_any (HSN.out w') (Cs.z32L, 0) (by simp))
          have HLC := Lib.hid (show ∀ w', Calls Tryz.prog 23 #[.pointer none] w' fun e w2 => e = .returned (.int .i64 0) ∧ Below w'.heap.size w' w2 from fun w' => plen_any (HSN.out w'))
          have HPC := Lib.hid (show ∀ w', Calls Tryz.prog 15 #[.pointer none] w' fun e w2 => ∃ (a : Option Addr) (q : Nat), e = .returned (.slice a 0 q) ∧ Below w'.heap.size w' w2 from fun w' => (ppoints_any (HSN.out w') (by simp) List.nodup_nil).mono (by
            rintro e w2 ⟨a, n, q, L, rfl, hr, _, _, hp, hb⟩
            have hL : L = [] := hp.eq_nil
            rw [hL] at hr
            have h0 : n = 0 := hr.1.symm
            rw [h0]
            exact ⟨a, q, rfl, hb⟩))
          clear hfe hfv hck hf0 h5r
          have HQA := Lib.hid (fun (w' : World) (hb : Below wr.heap.size wr w') => stands_any HO2 (HQ.out.1.below HOK hb).s xa xn xq m (HQ.out.1.below HOK hb).r HQ.out.1.be (by have h1 := HQ.out.1.r.1; have h2 := HM1.out; omega))
          have HQB := Lib.hid (fun (w' : World) (hb : Below wr.heap.size wr w') => stands_any HO2 (HQ.out.2.1.below HOK hb).s ya yn yq k (HQ.out.2.1.below HOK hb).r HQ.out.2.1.be (by have h1 := HQ.out.2.1.r.1; have h2 := HQ.out.2.2.2.2.2.2; have := HSB.out.1; have := HLB.out.1; omega))
          have lXr := HX.out wr H1r.out
          go_upto_region 28 with (first
            | (go_at_call 12; refine (HFC.out wr (Below.refl _ _)).mono ?_; rintro e wa ⟨rfl, hba⟩)
            | (refine wpList_load_run rfl 39 (.tmp 5) rfl _ _ rfl lXr ?_))
          clear lXr
          have lXa := HX.out wa (H1r.out.trans (hba.mono H1r.out.size))
          go_upto_region 29 with (first
            | (go_at_call 13; refine (HDC.out wa hba).mono ?_; rintro e wb ⟨rfl, hbb⟩)
            | (refine wpList_load_run rfl 39 (.tmp 5) rfl _ _ rfl lXa ?_))
          obtain ⟨wc, hwc⟩ : ∃ u, u = wb.alloc (.cells #[.slice none 0 0, .slice none 0 0, .bool false, .slice none 0 0] 50 ) := ⟨_, rfl⟩
          have hbc : Below wr.heap.size wr wc := by
            have h := hba.trans (hbb.mono hba.size)
            rw [hwc]
            exact h.alloc h.size _
          rw [← hwc]
          clear hwc hbb lXa
          have lXc := HX.out wc (H1r.out.trans (hbc.mono H1r.out.size))
          go_upto_region 30 with (first
            | (go_at_call 19; refine (num_any ck _).mono ?_; rintro e wd2 ⟨rfl, rfl⟩)
            | (go_at_call 20; refine (HCC.out wc hbc).mono ?_; rintro e wd ⟨rfl, hbd⟩)
            | (refine wpList_load_run rfl 39 (.tmp 5) rfl _ _ rfl lXc ?_))
          clear lXc
          have hTd := hbc.trans (hbd.mono hbc.size)
          by_cases hc0 : ck = 0
          · obtain rfl : fe = 7 := HFE.out.trans (if_pos hc0)
            clear HFE HFC HDC HCC hbd hbc hba
            go_upto_region 33 with (go_at_call 10; refine (HWC.out _).mono ?_; rintro e we ⟨rfl, hbe⟩)
            go_upto_region 34 with (go_at_call 16; refine (HGC.out we).mono ?_; rintro e wf ⟨rfl, hbf⟩)
            obtain ⟨wg, hwg⟩ : ∃ u, u = wf.alloc (.cells #[.int .i64 0, .int .u64 0] 35 ) := ⟨_, rfl⟩
            have hbg : Below wr.heap.size wr wg := by
              have h := hTd.trans ((hbe.trans (hbf.mono hbe.size)).mono hTd.size)
              rw [hwg]
              exact h.alloc h.size _
            rw [← hwg]
            clear hwg hbe hbf
            have HQ1 := Lib.hid (HQA.out wg hbg)
            go_wp2_with (first
              | (go_at_call 11; refine (pcopyset_none _).mono ?_; rintro e wo ⟨rfl, rfl⟩)
              | (go_at_call 15; refine (HPC.out wl).mono ?_; rintro e wm ⟨pa, pq, rfl, hbm⟩)
              | (go_at_call 23; refine (HLC.out wk).mono ?_; rintro e wl ⟨rfl, hbl⟩)
              | (go_at_call 22; refine (is_erro 4 rfl _).mono ?_; rintro e wn ⟨rfl, rfl⟩)
              | (go_at_call 14; refine (pback_none _ wj).mono ?_; rintro e wk ⟨rfl, hbk⟩)
              | (refine r12build_und (by rfl) (.tmp 168) rfl ta tn tq tb tm tr t.firm rfl ?_)
              | (go_at_call 9; refine (pput_none _ _ wi).mono ?_; rintro e wj ⟨rfl, hbj⟩; have hXj := HXH.out wj (H1r.out.trans ((hbi.trans (hbj.mono hbi.size)).mono H1r.out.size)); have d0 := hXj.cell_at (i := 0) (v := .slice ta tn tq) rfl; have d1 := hXj.cell_at (i := 1) (v := .slice tb tm tr) rfl; have d2 := hXj.cell_at (i := 2) (v := .bool t.firm) rfl)
              | (go_at_call 19; refine (num_any 7 _).mono ?_; rintro e wn ⟨rfl, rfl⟩)
              | (go_at_call 21; refine (HQB.out wh hbh).mono ?_; rintro e wi ⟨rfl, hbi0⟩; have hbi := hbh.trans (hbi0.mono hbh.size))
              | (go_at_call 21; refine HQ1.out.mono ?_; rintro e wh ⟨rfl, hbh0⟩; have hbh := hbg.trans (hbh0.mono hbg.size)))
            go_ret
            have hbz := hbi.trans ((hbj.trans ((hbk.trans ((hbl.trans (hbm.mono hbl.size)).mono hbk.size)).mono hbj.size)).mono hbi.size)
            exact ⟨rfl, HTr.out.trans (hbz.mono HTr.out.size)⟩
          · obtain rfl : fe = ck := HFE.out.trans (if_neg hc0)
            clear HFE HFC HDC HCC hbd hbc hba
            go_upto_region 33 with (go_at_call 10; refine (HWC.out _).mono ?_; rintro e we ⟨rfl, hbe⟩)
            go_upto_region 34 with (go_at_call 16; refine (HGC.out we).mono ?_; rintro e wf ⟨rfl, hbf⟩)
            obtain ⟨wg, hwg⟩ : ∃ u, u = wf.alloc (.cells #[.int .i64 0, .int .u64 0] 35 ) := ⟨_, rfl⟩
            have hbg : Below wr.heap.size wr wg := by
              have h := hTd.trans ((hbe.trans (hbf.mono hbe.size)).mono hTd.size)
              rw [hwg]
              exact h.alloc h.size _
            rw [← hwg]
            clear hwg hbe hbf
            have HQ1 := Lib.hid (HQA.out wg hbg)
            go_wp2_with (first
              | (go_at_call 11; refine (pcopyset_none _).mono ?_; rintro e wo ⟨rfl, rfl⟩)
              | (go_at_call 15; refine (HPC.out wl).mono ?_; rintro e wm ⟨pa, pq, rfl, hbm⟩)
              | (go_at_call 23; refine (HLC.out wk).mono ?_; rintro e wl ⟨rfl, hbl⟩)
              | (go_at_call 22; refine (is_erro 4 rfl _).mono ?_; rintro e wn ⟨rfl, rfl⟩)
              | (go_at_call 14; refine (pback_none _ wj).mono ?_; rintro e wk ⟨rfl, hbk⟩)
              | (refine r12build_und (by rfl) (.tmp 168) rfl ta tn tq tb tm tr t.firm rfl ?_)
              | (go_at_call 9; refine (pput_none _ _ wi).mono ?_; rintro e wj ⟨rfl, hbj⟩; have hXj := HXH.out wj (H1r.out.trans ((hbi.trans (hbj.mono hbi.size)).mono H1r.out.size)); have d0 := hXj.cell_at (i := 0) (v := .slice ta tn tq) rfl; have d1 := hXj.cell_at (i := 1) (v := .slice tb tm tr) rfl; have d2 := hXj.cell_at (i := 2) (v := .bool t.firm) rfl)
              | (go_at_call 19; refine (num_any fe _).mono ?_; rintro e wn ⟨rfl, rfl⟩)
              | (go_at_call 21; refine (HQB.out wh hbh).mono ?_; rintro e wi ⟨rfl, hbi0⟩; have hbi := hbh.trans (hbi0.mono hbh.size))
              | (go_at_call 21; refine HQ1.out.mono ?_; rintro e wh ⟨rfl, hbh0⟩; have hbh := hbg.trans (hbh0.mono hbg.size)))
            go_ret
            have hbz := hbi.trans ((hbj.trans ((hbk.trans ((hbl.trans (hbm.mono hbl.size)).mono hbk.size)).mono hbj.size)).mono hbi.size)
            exact ⟨rfl, HTr.out.trans (hbz.mono HTr.out.size)⟩
end Go.Proofs.YtagjolbpmhbifaaGreatDoor
