/- the reference's ReadHash (mkpkw.py) -/
import Derived.Test.YtndcpclichpkaaaPkV
import Derived.Test.YtndcpclichpkaaaSm
import Derived.Test.YtndcpclichpkaaaHr
import Derived.Test.YtndcpclichpkaaaPkL
namespace Go.Proofs.Ytndcpclichpkaaa
open Go Go.RowKit Go.ChangeShapes Go.WideShapes
def HashPost8 (w0 : World) (p : Pk.Rd × List (BitVec 8)) (e : Ending) (w' : World) : Prop :=
  (∃ v, e = .returned (.tuple #[v, .agg (blist p.2).toArray]) ∧ InV w' p.1 v) ∧ Below w0.heap.size w0 w'
def Pk.hP (B : List (BitVec 8)) (i j : Nat) : Value := .int .u8 (nb8 (if j < i then cb B j else 0))
theorem hP_zero (B : List (BitVec 8)) : z32 = cellsOf 32 (Pk.hP B 0) := by rfl
theorem hP_step (B : List (BitVec 8)) (i : Nat) : (cellsOf 32 (Pk.hP B i)).setIfInBounds i (.int .u8 (nb8 (cb B i))) = cellsOf 32 (Pk.hP B (i + 1)) :=
  cellsOf_put _ _ i _ (by unfold Pk.hP; rw [if_pos (by omega)]) (fun j _ hne => by
    unfold Pk.hP
    by_cases h : j < i
    · rw [if_pos h, if_pos (by omega)]
    · rw [if_neg h, if_neg (by omega)])
theorem hP_end (B : List (BitVec 8)) (hB : 32 ≤ B.length) : cellsOf 32 (Pk.hP B 32) = (blist (B.take 32)).toArray := by
  apply Array.ext_getElem?
  intro j
  by_cases h : j < 32
  · rw [cellsOf_at _ h, List.getElem?_toArray, blist_at _ j (by rw [List.length_take]; omega)]
    unfold Pk.hP
    rw [if_pos h]
    congr 3
    unfold cb
    rw [List.getD_eq_getElem?_getD, List.getD_eq_getElem?_getD, List.getElem?_take, if_pos h]
  · have e1 : (cellsOf 32 (Pk.hP B 32))[j]? = none := Array.getElem?_eq_none (by rw [cellsOf_size]; omega)
    have e2 : (blist (B.take 32))[j]? = none := List.getElem?_eq_none (by rw [blist_length, List.length_take]; omega)
    rw [e1, List.getElem?_toArray, e2]
set_option maxRecDepth 100000 in
set_option maxHeartbeats 16000000 in
theorem rreadHash_any (s : Pk.Rd) (v : Value) (w : World) (hv : InV w s v) :
    Calls Try.prog 25 #[v] w (HashPost8 w (Pk.rdHash s)) := by
  obtain ⟨a, n, c, b, rfl, hB, hb⟩ := hv.cells
  have HB := Lib.hid (And.intro hv (And.intro hB hb))
  clear hB hb hv
  obtain ⟨R, hR⟩ : ∃ R, R = Pk.rdHash s := ⟨_, rfl⟩
  rw [← hR]
  have HR := Lib.hid hR
  clear hR
  go_enter Try.func25, Try.ntmps25
  go_upto_region 2 with fail
  obtain ⟨w0, hw0⟩ : ∃ x, x = (((w.alloc (.cells #[.slice a n c, .bool b] 46)).alloc (.cells #[.slice none 0 0, .bool false] 46)).alloc (.cells z32 31)).alloc (.cells z32 31) := ⟨_, rfl⟩
  rw [← hw0]
  have hb0 : Below w.heap.size w w0 := by rw [hw0]; exact ((((Below.refl _ _).alloc (Nat.le_refl _) _).alloc (by simp) _).alloc (by simp; omega) _).alloc (by simp; omega) _
  have hA : Has w0 w.heap.size 46 #[.slice a n c, .bool b] := by rw [hw0]; exact (((Has.fresh _ _ _).past _).past _).past _
  have hR2 : Has w0 (w.heap.size + 1) 46 #[.slice none 0 0, .bool false] := by rw [hw0]; exact ((Has.fresh_at _ _ _ (by simp)).past _).past _
  have hH3 : Has w0 (w.heap.size + 1 + 1) 31 z32 := by rw [hw0]; exact (Has.fresh_at _ _ _ (by simp)).past _
  have hH4 : Has w0 (w.heap.size + 1 + 1 + 1) 31 z32 := by rw [hw0]; exact Has.fresh_at _ _ _ (by simp)
  clear hw0
  obtain ⟨gi, hgi⟩ : ∃ x, x = w.heap.size := ⟨_, rfl⟩
  rw [← hgi] at hA hR2 hH3 hH4 ⊢
  obtain ⟨g2, hg2⟩ : ∃ x, x = gi + 1 := ⟨_, rfl⟩
  rw [← hg2] at hR2 hH3 hH4 ⊢
  obtain ⟨g3, hg3⟩ : ∃ x, x = g2 + 1 := ⟨_, rfl⟩
  rw [← hg3] at hH3 hH4 ⊢
  obtain ⟨g4, hg4⟩ : ∃ x, x = g3 + 1 := ⟨_, rfl⟩
  rw [← hg4] at hH4 ⊢
  have HNE := Lib.hid (show g4 ≠ g2 ∧ g4 ≠ g3 ∧ (∀ k, k = g2 ∨ k = g3 → w.heap.size ≤ k) ∧ g3 ≠ g2 from ⟨by omega, by omega, fun k hk => by omega, by omega⟩)
  have HNI := Lib.hid (show gi ≠ g2 ∧ gi ≠ g3 by omega)
  have HN4 := Lib.hid (show g4 ≠ gi ∧ w.heap.size ≤ g4 by omega)
  clear hgi hg2 hg3 hg4
  have c0 : w0.cell? ⟨gi, 0, none⟩ = some (.slice a n c) := hA.cell_at rfl
  have c1 : w0.cell? ⟨gi, 1, none⟩ = some (.bool b) := hA.cell_at rfl
  by_cases hbad : s = none ∨ n < 32
  · obtain rfl : R = (none, List.replicate 32 0#8) := by
      rw [HR.out]
      cases s with
      | none => rfl
      | some B =>
        show (if 32 ≤ B.length then _ else _) = _
        have := HB.out.2.1.1
        rw [if_neg (by
          rcases hbad with h | h
          · cases h
          · have h2 : B.length = n := this; omega)]
    have HX := Lib.hid (show b = true ∨ b = false ∧ (n : Int) < 32 by
      cases s with
      | none => exact .inl HB.out.2.2
      | some B =>
        right
        refine ⟨HB.out.2.2, ?_⟩
        rcases hbad with h | h
        · cases h
        · omega)
    have HRL := Lib.hid (show (List.replicate 32 0#8).length = 32 from List.length_replicate)
    clear hbad
    rcases HX.out with rfl | ⟨rfl, hd⟩
    all_goals
      go_upto_region 3 with fail
      obtain ⟨wd, hwd⟩ : ∃ x, x = w0.drew := ⟨_, rfl⟩
      have hmd : Below w0.heap.size w0 wd := by rw [hwd]; exact (Below.refl _ _).drew
      refine wp_region_held_drew (S := HeldM (fun k => k = g2 ∨ k = g3) wd) (by kernel_rfl) (by rw [hwd]; exact HeldM.refl _ _) (fun hHeld => ?_)
      rw [← hwd] at hHeld ⊢
      clear hwd
      have hG4 := hH4.under hmd hH4.lt
      have hG3 := hH3.under hmd hH3.lt
      have hG2 := hR2.under hmd hR2.lt
      have hBd := hb0.trans (hmd.mono hb0.size)
      refine take_at 1 15 rfl rfl (by kernel_rfl) (by kernel_rfl) (by kernel_rfl) (fun _ _ _ h => h) hHeld (yieldsIf_load_agg (by rfl) 31 (.tmp 4) rfl _ _ (by rfl) (fun wq hSw => (hG4.moved hSw.out (fun e => e.elim (fun e => HNE.out.1 e) (fun e => HNE.out.2.1 e))).load_agg Try.underlying31 rfl (size_hash' HRL.out))) rfl ?_
      simp only [List.set_cons_zero, List.set_cons_succ]
      refine wpAnyH_ready (rs := [0]) (by kernel_rfl) (by simp) ?_
      refine AllReadyH.cons rfl (fun K hK => ?_) AllReadyH.nil
      go_simp
      go_at_call 33; refine (rwrong_any _).mono ?_; rintro e w5 ⟨rfl, hb5⟩
      refine hK.out _ _ (HeldM.of (Moved.of_below hb5)) (fun _ => ?_)
      clear hK K
      try simp only [Act.put, List.setIfInBounds_toArray, List.set_cons_zero, List.set_cons_succ]
      refine heldM_grow (w1 := w5) (Moved.of_below hb5) ?_
      clear hHeld
      have hHeld : HeldM (fun k => k = g2 ∨ k = g3) w5 w5 := HeldM.refl _ _
      have hI2 := hG2.under hb5 hG2.lt
      have hI3 := hG3.under hb5 hG3.lt
      have hB5 := hBd.trans (hb5.mono hBd.size)
      refine wpAnyH_ready (rs := [2]) (by kernel_rfl) (by simp) ?_
      refine AllReadyH.cons rfl (fun K hK => ?_) AllReadyH.nil
      refine step_store_row (by rfl) 46 (.tmp 2) (.tmp 14) rfl g2 0 (#[.slice none 0 0, .bool true]) (by first | rfl | simp [Act.eval]) (by first | rfl | simp [Act.eval]) (hI2.there 0 2 (Nat.le_refl _)) (in_size _ _) (in_one _ _ rfl rfl) rfl ?_
      obtain ⟨ws, hws⟩ : ∃ ww, ww = w5.setCells g2 0 (#[.slice none 0 0, .bool true]).toList := ⟨_, rfl⟩
      rw [← hws]
      have hmws : Moved (fun k => k = g2 ∨ k = g3) w5 ws := by rw [hws]; exact Moved.putAll (F := fun k => k = g2 ∨ k = g3) (.inl (.inl rfl)) _ 0 (Moved.refl _ _)
      refine hK.out _ _ (HeldM.of hmws) (fun _ => ?_)
      clear hK K
      refine heldM_grow (w1 := ws) hmws ?_
      clear hHeld
      have hHeld : HeldM (fun k => k = g2 ∨ k = g3) ws ws := HeldM.refl _ _
      have hS2 : Has ws g2 46 (#[.slice none 0 0, .bool true]) := by rw [hws]; exact hI2.whole_cs rfl
      have hS3 : Has ws g3 31 z32 := by rw [hws]; exact hI3.asideAll HNE.out.2.2.2 _ 0
      clear hws
      refine wpAnyH_ready (rs := [3]) (by kernel_rfl) (by simp) ?_
      refine AllReadyH.cons rfl (fun K hK => ?_) AllReadyH.nil
      refine step_store_row (by rfl) 31 (.tmp 3) (.tmp 15) rfl g3 0 ((blist (List.replicate 32 0#8)).toArray) (by first | rfl | simp [Act.eval]) (by first | rfl | simp [Act.eval]) (hS3.there 0 _ (by rw [List.size_toArray, blist_length, HRL.out]; decide)) (size_hash' HRL.out) (one_hash _) rfl ?_
      obtain ⟨wt, hwt⟩ : ∃ ww, ww = ws.setCells g3 0 ((blist (List.replicate 32 0#8)).toArray).toList := ⟨_, rfl⟩
      rw [← hwt]
      have hmwt : Moved (fun k => k = g2 ∨ k = g3) ws wt := by rw [hwt]; exact Moved.putAll (F := fun k => k = g2 ∨ k = g3) (.inl (.inr rfl)) _ 0 (Moved.refl _ _)
      refine hK.out _ _ (HeldM.of hmwt) (fun _ => ?_)
      clear hK K
      refine heldM_grow (w1 := wt) hmwt ?_
      clear hHeld
      have hHeld : HeldM (fun k => k = g2 ∨ k = g3) wt wt := HeldM.refl _ _
      have hU3 : Has wt g3 31 (blist (List.replicate 32 0#8)).toArray := by rw [hwt]; exact hS3.whole_cs (by rw [List.size_toArray, blist_length, HRL.out]; rfl)
      have hU2 : Has wt g2 46 (#[.slice none 0 0, .bool true]) := by rw [hwt]; exact hS2.asideAll (fun e => HNE.out.2.2.2 e.symm) _ 0
      clear hwt
      refine wpAnyH_done (by kernel_rfl) ?_ _
      go_wp2
      refine bodyPost_ret (results_two_cells rfl _ _ g2 g3 rfl rfl _ _ (in_load hU2) (hU3.load_var Try.underlying31 rfl (size_hash' HRL.out))) rfl ?_
      refine ⟨⟨_, rfl, rfl⟩, ?_⟩
      exact (hB5.trans (hmws.below (B := w.heap.size) HNE.out.2.2.1 hB5.size)).trans (hmwt.below (B := w.heap.size) HNE.out.2.2.1 (hB5.trans (hmws.below (B := w.heap.size) HNE.out.2.2.1 hB5.size)).size)
  · obtain ⟨B, rfl⟩ : ∃ B, s = some B := by
      cases s with
      | none => exact absurd (.inl rfl) hbad
      | some B => exact ⟨B, rfl⟩
    obtain ⟨hbf, hBz, hnc, hac⟩ := HB.out.1.slice
    subst hbf
    have hn32 : ¬ (n : Int) < 32 := by omega
    have hn32n : 32 ≤ n := by omega
    obtain ⟨x, rfl, _⟩ := hBz.2.2 0 (by omega)
    have HBL := Lib.hid (show 32 ≤ B.length by have := hBz.1; omega)
    obtain rfl : R = (some (B.drop 32), B.take 32) := by
      rw [HR.out]
      show (if 32 ≤ B.length then _ else _) = _
      rw [if_pos HBL.out]
    have HRL := Lib.hid (show (B.take 32).length = 32 by rw [List.length_take]; have := HBL.out; omega)
    have HBY := Lib.hid hBz
    have hmx : n ≤ 9223372036854775807 := hBz.2.1
    have hcc : (n : Int) ≤ (c : Int) := by omega
    clear hbad hBz hac
    go_wp2_with fail
    go_loopw [5] (fun iv wr => ∃ i : Nat, i ≤ 32 ∧ iv = .int .i64 i ∧ Has wr g4 31 (cellsOf 32 (Pk.hP B i)) ∧ Moved (fun k => k = g4) w0 wr) (fun iv _ => 32 - (intOf iv).toNat)
    case atStart => exact ⟨0, Nat.zero_le _, rfl, by rw [← hP_zero]; exact hH4, Moved.refl _ _⟩
    case round =>
      obtain ⟨i, hi, rfl, hP, hm⟩ := hrel
      have hb := hb0.trans (hm.below (B := w.heap.size) (fun k e => by have e' : k = g4 := e; have := HN4.out.2; omega) hb0.size)
      have hA1 := hA.moved hm (fun e => HN4.out.1 e.symm)
      by_cases hlt : i < 32
      · have hii : (i : Int) < 32 := by omega
        have hin : (i : Int) < (n : Int) := by omega
        obtain ⟨y, hy, hx⟩ := (HBY.out.below hb).2.2 i (by omega)
        injection hy with hy
        subst hy
        obtain ⟨q, hq⟩ : ∃ q, q = cb B i := ⟨_, rfl⟩
        have HST := Lib.hid (show (cellsOf 32 (Pk.hP B i)).setIfInBounds i (.int .u8 (nb8 q)) = cellsOf 32 (Pk.hP B (i + 1)) by rw [hq]; exact hP_step B i)
        rw [← hq] at hx
        have c2 : wr.cell? ⟨gi, 0, none⟩ = some (.slice (some x) n c) := hA1.cell_at rfl
        have c4 : wr.cell? ⟨g4, i, none⟩ = some (Pk.hP B i i) := hP.cell_at (cellsOf_at _ hlt)
        have f4 : wr.frozen? ⟨g4, i, none⟩ = false := hP.loose i
        have HP := Lib.hid hP
        have HM := Lib.hid hm
        clear hq hP hm hA1 c0 c1
        go_wp2
        go_roundw
        case rel => exact ⟨i + 1, by omega, by go_num, by rw [← HST.out]; exact HP.out.put i _, HM.out.put (.inl rfl) i _⟩
        case measure => (simp [intOf]; try omega)
      · have hin : i = 32 := by omega
        subst hin
        rw [hP_end B HBL.out] at hP
        have hii : ¬ (32 : Int) < 32 := by omega
        have hR1 := hR2.moved hm (fun e => HNE.out.1 e.symm)
        have hH1 := hH3.moved hm (fun e => HNE.out.2.1 e.symm)
        clear hA hR2 hH3 hH4 c0 c1 hm hlt hi
        by_cases hc32 : c = 32
        · obtain rfl : n = 32 := by omega
          subst hc32
          go_upto_region 8 with fail
          obtain ⟨wd, hwd⟩ : ∃ x, x = wr.drew := ⟨_, rfl⟩
          have hmd : Below wr.heap.size wr wd := by rw [hwd]; exact (Below.refl _ _).drew
          refine wp_region_held_drew (S := HeldM (fun k => k = g2 ∨ k = g3) wd) (by kernel_rfl) (by rw [hwd]; exact HeldM.refl _ _) (fun hHeld => ?_)
          rw [← hwd] at hHeld ⊢
          clear hwd
          have hBd := hb.trans (hmd.mono hb.size)
          have hG1 := hA1.under hmd hA1.lt
          have hG2 := hR1.under hmd hR1.lt
          have hG3 := hH1.under hmd hH1.lt
          have hG4 := hP.under hmd hP.lt
          have HG1 := Lib.hid hG1
          refine take_at (v := ?_) 0 27 rfl rfl (by kernel_rfl) (by kernel_rfl) (by kernel_rfl) (fun _ _ _ h => h) hHeld (Or.inl ⟨by rfl, ?_⟩) rfl ?_
          rotate_left
          · intro wq hSw
            go_simp
            try with_reducible rfl
          simp only [List.set_cons_zero, List.set_cons_succ]
          refine take_at (v := ?_) 1 28 rfl rfl (by kernel_rfl) (by kernel_rfl) (by kernel_rfl) (fun _ _ _ h => h) hHeld (Or.inl ⟨by rfl, ?_⟩) rfl ?_
          rotate_left
          · intro wq hSw
            have hst := (HG1.out.moved hSw.out (fun e => e.elim (fun e => HNI.out.1 e) (fun e => HNI.out.2 e))).cell_at (i := 0) (v := .slice (some x) 32 32) rfl
            go_simp
            try with_reducible rfl
          simp only [List.set_cons_zero, List.set_cons_succ]
          refine take_at (v := ?_) 2 29 rfl rfl (by kernel_rfl) (by kernel_rfl) (by kernel_rfl) (fun _ _ _ h => h) hHeld (Or.inl ⟨by rfl, ?_⟩) rfl ?_
          rotate_left
          · intro wq hSw
            go_simp
            try with_reducible rfl
          simp only [List.set_cons_zero, List.set_cons_succ]
          refine take_at (v := ?_) 3 30 rfl rfl (by kernel_rfl) (by kernel_rfl) (by kernel_rfl) (fun _ _ _ h => h) hHeld (Or.inl ⟨by rfl, ?_⟩) rfl ?_
          rotate_left
          · intro wq hSw
            go_simp
            try with_reducible rfl
          simp only [List.set_cons_zero, List.set_cons_succ]
          refine take_at 4 31 rfl rfl (by kernel_rfl) (by kernel_rfl) (by kernel_rfl) (fun _ _ _ h => h) hHeld (yieldsIf_load_agg (by rfl) 31 (.tmp 4) rfl _ _ (by rfl) (fun wq hSw => (hG4.moved hSw.out (fun e => e.elim (fun e => HNE.out.1 e) (fun e => HNE.out.2.1 e))).load_agg Try.underlying31 rfl (size_hash' HRL.out))) rfl ?_
          simp only [List.set_cons_zero, List.set_cons_succ]
          refine wpAnyH_ready (rs := [5]) (by kernel_rfl) (by simp) ?_
          refine AllReadyH.cons rfl (fun K hK => ?_) AllReadyH.nil
          refine step_store_row (by rfl) 46 (.tmp 2) (.tmp 30) rfl g2 0 (#[.slice (some x) 0 0, .bool false]) (by first | rfl | simp [Act.eval]) (by first | rfl | simp [Act.eval]) (hG2.there 0 2 (Nat.le_refl _)) (in_size _ _) (in_one _ _ rfl rfl) rfl ?_
          obtain ⟨ws, hws⟩ : ∃ ww, ww = wd.setCells g2 0 (#[.slice (some x) 0 0, .bool false]).toList := ⟨_, rfl⟩
          rw [← hws]
          have hmws : Moved (fun k => k = g2 ∨ k = g3) wd ws := by rw [hws]; exact Moved.putAll (F := fun k => k = g2 ∨ k = g3) (.inl (.inl rfl)) _ 0 (Moved.refl _ _)
          refine hK.out _ _ (HeldM.of hmws) (fun _ => ?_)
          clear hK K
          refine heldM_grow (w1 := ws) hmws ?_
          clear hHeld
          have hHeld : HeldM (fun k => k = g2 ∨ k = g3) ws ws := HeldM.refl _ _
          have hS2 : Has ws g2 46 (#[.slice (some x) 0 0, .bool false]) := by rw [hws]; exact hG2.whole_cs rfl
          have hS3 : Has ws g3 31 z32 := by rw [hws]; exact hG3.asideAll HNE.out.2.2.2 _ 0
          clear hws
          refine wpAnyH_ready (rs := [6]) (by kernel_rfl) (by simp) ?_
          refine AllReadyH.cons rfl (fun K hK => ?_) AllReadyH.nil
          refine step_store_row (by rfl) 31 (.tmp 3) (.tmp 31) rfl g3 0 ((blist (B.take 32)).toArray) (by first | rfl | simp [Act.eval]) (by first | rfl | simp [Act.eval]) (hS3.there 0 _ (by rw [List.size_toArray, blist_length, HRL.out]; decide)) (size_hash' HRL.out) (one_hash _) rfl ?_
          obtain ⟨wt, hwt⟩ : ∃ ww, ww = ws.setCells g3 0 ((blist (B.take 32)).toArray).toList := ⟨_, rfl⟩
          rw [← hwt]
          have hmwt : Moved (fun k => k = g2 ∨ k = g3) ws wt := by rw [hwt]; exact Moved.putAll (F := fun k => k = g2 ∨ k = g3) (.inl (.inr rfl)) _ 0 (Moved.refl _ _)
          refine hK.out _ _ (HeldM.of hmwt) (fun _ => ?_)
          clear hK K
          refine heldM_grow (w1 := wt) hmwt ?_
          clear hHeld
          have hHeld : HeldM (fun k => k = g2 ∨ k = g3) wt wt := HeldM.refl _ _
          have hU3 : Has wt g3 31 (blist (B.take 32)).toArray := by rw [hwt]; exact hS3.whole_cs (by rw [List.size_toArray, blist_length, HRL.out]; rfl)
          have hU2 : Has wt g2 46 (#[.slice (some x) 0 0, .bool false]) := by rw [hwt]; exact hS2.asideAll (fun e => HNE.out.2.2.2 e.symm) _ 0
          clear hwt
          refine wpAnyH_done (by kernel_rfl) ?_ _
          go_wp2
          refine bodyPost_ret (results_two_cells rfl _ _ g2 g3 rfl rfl _ _ (in_load hU2) (hU3.load_var Try.underlying31 rfl (size_hash' HRL.out))) rfl ?_
          have hBs := hBd.trans (hmws.below (B := w.heap.size) HNE.out.2.2.1 hBd.size)
          have hBt := hBs.trans (hmwt.below (B := w.heap.size) HNE.out.2.2.1 hBs.size)
          have hBB := HBY.out.below hBt
          refine ⟨⟨_, rfl, ?_⟩, hBt⟩
          exact ⟨_, _, _, rfl, ⟨by rw [List.length_drop, hBB.1], by unfold maxLen; omega, fun i hi => by omega⟩, by omega, fun e => by cases e⟩
        · have hc32i : ¬ ((c : Int) = 32) := by omega
          go_upto_region 8 with fail
          obtain ⟨wd, hwd⟩ : ∃ x, x = wr.drew := ⟨_, rfl⟩
          have hmd : Below wr.heap.size wr wd := by rw [hwd]; exact (Below.refl _ _).drew
          refine wp_region_held_drew (S := HeldM (fun k => k = g2 ∨ k = g3) wd) (by kernel_rfl) (by rw [hwd]; exact HeldM.refl _ _) (fun hHeld => ?_)
          rw [← hwd] at hHeld ⊢
          clear hwd
          have hBd := hb.trans (hmd.mono hb.size)
          have hG1 := hA1.under hmd hA1.lt
          have hG2 := hR1.under hmd hR1.lt
          have hG3 := hH1.under hmd hH1.lt
          have hG4 := hP.under hmd hP.lt
          have HG1 := Lib.hid hG1
          refine take_at (v := ?_) 0 27 rfl rfl (by kernel_rfl) (by kernel_rfl) (by kernel_rfl) (fun _ _ _ h => h) hHeld (Or.inl ⟨by rfl, ?_⟩) rfl ?_
          rotate_left
          · intro wq hSw
            go_simp
            try with_reducible rfl
          simp only [List.set_cons_zero, List.set_cons_succ]
          refine take_at (v := ?_) 1 28 rfl rfl (by kernel_rfl) (by kernel_rfl) (by kernel_rfl) (fun _ _ _ h => h) hHeld (Or.inl ⟨by rfl, ?_⟩) rfl ?_
          rotate_left
          · intro wq hSw
            have hst := (HG1.out.moved hSw.out (fun e => e.elim (fun e => HNI.out.1 e) (fun e => HNI.out.2 e))).cell_at (i := 0) (v := .slice (some x) n c) rfl
            go_simp
            try with_reducible rfl
          simp only [List.set_cons_zero, List.set_cons_succ]
          refine take_at (v := ?_) 2 29 rfl rfl (by kernel_rfl) (by kernel_rfl) (by kernel_rfl) (fun _ _ _ h => h) hHeld (Or.inl ⟨by rfl, ?_⟩) rfl ?_
          rotate_left
          · intro wq hSw
            go_simp
            try with_reducible rfl
          simp only [List.set_cons_zero, List.set_cons_succ]
          refine take_at (v := ?_) 3 30 rfl rfl (by kernel_rfl) (by kernel_rfl) (by kernel_rfl) (fun _ _ _ h => h) hHeld (Or.inl ⟨by rfl, ?_⟩) rfl ?_
          rotate_left
          · intro wq hSw
            go_simp
            try with_reducible rfl
          simp only [List.set_cons_zero, List.set_cons_succ]
          refine take_at 4 31 rfl rfl (by kernel_rfl) (by kernel_rfl) (by kernel_rfl) (fun _ _ _ h => h) hHeld (yieldsIf_load_agg (by rfl) 31 (.tmp 4) rfl _ _ (by rfl) (fun wq hSw => (hG4.moved hSw.out (fun e => e.elim (fun e => HNE.out.1 e) (fun e => HNE.out.2.1 e))).load_agg Try.underlying31 rfl (size_hash' HRL.out))) rfl ?_
          simp only [List.set_cons_zero, List.set_cons_succ]
          refine wpAnyH_ready (rs := [5]) (by kernel_rfl) (by simp) ?_
          refine AllReadyH.cons rfl (fun K hK => ?_) AllReadyH.nil
          refine step_store_row (by rfl) 46 (.tmp 2) (.tmp 30) rfl g2 0 (#[.slice (some (x.add 32)) (n - 32) (c - 32), .bool false]) (by first | rfl | simp [Act.eval]) (by first | rfl | simp [Act.eval]) (hG2.there 0 2 (Nat.le_refl _)) (in_size _ _) (in_one _ _ rfl rfl) rfl ?_
          obtain ⟨ws, hws⟩ : ∃ ww, ww = wd.setCells g2 0 (#[.slice (some (x.add 32)) (n - 32) (c - 32), .bool false]).toList := ⟨_, rfl⟩
          rw [← hws]
          have hmws : Moved (fun k => k = g2 ∨ k = g3) wd ws := by rw [hws]; exact Moved.putAll (F := fun k => k = g2 ∨ k = g3) (.inl (.inl rfl)) _ 0 (Moved.refl _ _)
          refine hK.out _ _ (HeldM.of hmws) (fun _ => ?_)
          clear hK K
          refine heldM_grow (w1 := ws) hmws ?_
          clear hHeld
          have hHeld : HeldM (fun k => k = g2 ∨ k = g3) ws ws := HeldM.refl _ _
          have hS2 : Has ws g2 46 (#[.slice (some (x.add 32)) (n - 32) (c - 32), .bool false]) := by rw [hws]; exact hG2.whole_cs rfl
          have hS3 : Has ws g3 31 z32 := by rw [hws]; exact hG3.asideAll HNE.out.2.2.2 _ 0
          clear hws
          refine wpAnyH_ready (rs := [6]) (by kernel_rfl) (by simp) ?_
          refine AllReadyH.cons rfl (fun K hK => ?_) AllReadyH.nil
          refine step_store_row (by rfl) 31 (.tmp 3) (.tmp 31) rfl g3 0 ((blist (B.take 32)).toArray) (by first | rfl | simp [Act.eval]) (by first | rfl | simp [Act.eval]) (hS3.there 0 _ (by rw [List.size_toArray, blist_length, HRL.out]; decide)) (size_hash' HRL.out) (one_hash _) rfl ?_
          obtain ⟨wt, hwt⟩ : ∃ ww, ww = ws.setCells g3 0 ((blist (B.take 32)).toArray).toList := ⟨_, rfl⟩
          rw [← hwt]
          have hmwt : Moved (fun k => k = g2 ∨ k = g3) ws wt := by rw [hwt]; exact Moved.putAll (F := fun k => k = g2 ∨ k = g3) (.inl (.inr rfl)) _ 0 (Moved.refl _ _)
          refine hK.out _ _ (HeldM.of hmwt) (fun _ => ?_)
          clear hK K
          refine heldM_grow (w1 := wt) hmwt ?_
          clear hHeld
          have hHeld : HeldM (fun k => k = g2 ∨ k = g3) wt wt := HeldM.refl _ _
          have hU3 : Has wt g3 31 (blist (B.take 32)).toArray := by rw [hwt]; exact hS3.whole_cs (by rw [List.size_toArray, blist_length, HRL.out]; rfl)
          have hU2 : Has wt g2 46 (#[.slice (some (x.add 32)) (n - 32) (c - 32), .bool false]) := by rw [hwt]; exact hS2.asideAll (fun e => HNE.out.2.2.2 e.symm) _ 0
          clear hwt
          refine wpAnyH_done (by kernel_rfl) ?_ _
          go_wp2
          refine bodyPost_ret (results_two_cells rfl _ _ g2 g3 rfl rfl _ _ (in_load hU2) (hU3.load_var Try.underlying31 rfl (size_hash' HRL.out))) rfl ?_
          have hBs := hBd.trans (hmws.below (B := w.heap.size) HNE.out.2.2.1 hBd.size)
          have hBt := hBs.trans (hmwt.below (B := w.heap.size) HNE.out.2.2.1 hBs.size)
          have hBB := HBY.out.below hBt
          refine ⟨⟨_, rfl, ?_⟩, hBt⟩
          exact ⟨_, _, _, rfl, bytes_from hBB 32, by omega, fun e => by cases e⟩
end Go.Proofs.Ytndcpclichpkaaa
