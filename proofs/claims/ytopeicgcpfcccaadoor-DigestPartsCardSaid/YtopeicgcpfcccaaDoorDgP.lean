/- DigestParts over the premise -/
import Derived.Test.YtopeicgcpfcccaaDoorDgK
import Derived.Test.YtopeicgcpfcccaaDoorEq
namespace Go.Proofs.YtopeicgcpfcccaaDoor
open Go Go.RowKit Go.ChangeShapes Go.WideShapes
theorem bytes_of_has {w : World} {g : Nat} {T : TypeId} {l : List (BitVec 8)} (h : Has w g T (blist l).toArray) (hl : l.length = 32) : Bytes8 w (some ⟨g, 0, none⟩) 32 l :=
  ⟨hl, by unfold maxLen; omega, fun i hi => ⟨_, rfl, by
    rw [Addr.add_mid, Nat.zero_add]
    exact h.cell_at (by rw [List.getElem?_toArray]; exact blist_at l i (by omega))⟩⟩
theorem flatten_take {LL : List (List (BitVec 8))} {i : Nat} (h : i < LL.length) : (LL.take (i + 1)).flatten = (LL.take i).flatten ++ LL.getD i [] := by
  rw [List.take_succ_eq_append_getElem h, List.flatten_append, List.getD_eq_getElem?_getD, List.getElem?_eq_getElem h]
  simp
set_option maxRecDepth 100000 in
set_option maxHeartbeats 16000000 in
theorem digestPartsWalkK {KD : World → Prop} (ok : DigestOk KD) {H : Type} {enc : TypeId × Value → H} (W : World) (base : Nat) (v0 : Value) (d0 : DataW H) (p0 : List MemPlace)
    (o0 : Value.okWide Tryd.prog W .any base 31 v0) (h0 : DataW.Trod enc Tryd.prog W 0 (fun _ => true) true 31 v0 d0 p0) (hKD : KD W) :
    Calls Tryd.prog 4 #[v0] W fun e w' => e = .returned (.bool true) ∧ Below W.heap.size W w' := by
  obtain ⟨a, n, c, LL, rfl, hP, hnc, hc0⟩ := arg_parts Tryd.underlying31 Tryd.underlying22 Tryd.underlying5 (by kernel_rfl) (by kernel_rfl) o0 h0
  clear o0 h0
  have hmx : n ≤ 9223372036854775807 := hP.2.1
  have HL := Lib.hid hP.1
  go_enter Tryd.func4, Tryd.ntmps4
  go_upto_region 3 with (first | (go_at_call 8; refine (alive07 ok W hKD).mono ?_; rintro e w1 ⟨rfl, hb1⟩))
  go_upto_region 4 with fail
  have hoE : OwnB 5 w1.heap.size (w1.alloc (.cells #[] 5)) (.slice (some ⟨w1.heap.size, 0, none⟩) 0 0) [] := OwnB.empty (Nat.le_refl _) (Has.fresh w1 _ _)
  have hBE : Below w1.heap.size w1 (w1.alloc (.cells #[] 5)) := (Below.refl _ _).alloc (Nat.le_refl _) _
  generalize w1.alloc (.cells #[] 5) = w2 at hoE hBE ⊢
  go_wp2_with fail
  go_loopw [3, 12] (fun bv iv wr => ∃ i : Nat, i ≤ n ∧ i ≤ 21 ∧ iv = .int .i64 i ∧ OwnB 5 w1.heap.size wr bv ((LL.take i).flatten) ∧ (LL.take i).flatten.length ≤ 300 * i ∧ Below w1.heap.size w1 wr) (fun _ iv _ => n - (intOf iv).toNat)
  case atStart => exact ⟨0, Nat.zero_le _, by omega, rfl, by simpa using hoE, by simp, hBE⟩
  case round =>
    clear hoE hBE
    obtain ⟨i, hi, hi21, rfl, ho, hlen, hb⟩ := hrel
    have hTr := hb1.trans (hb.mono hb1.size)
    have HB := Lib.hid (And.intro hi (And.intro hi21 hlen))
    clear hi21 hlen
    by_cases hlt : i < n
    · have hii : (i : Int) < (n : Int) := by omega
      have hi0 : (0 : Int) ≤ (i : Int) := by omega
      obtain ⟨x, ad, m, c2, rfl, hx, hby, hmc, hm0⟩ := (hP.below hTr).2.2 i hlt
      have HF := Lib.hid (flatten_take (LL := LL) (i := i) (by rw [HL.out]; exact hlt))
      obtain ⟨lp, hlp⟩ : ∃ l, l = LL.getD i [] := ⟨_, rfl⟩
      rw [← hlp] at hby HF
      have hml := Lib.hid hby.1
      have hmm : m ≤ 9223372036854775807 := hby.2.1
      clear hlp
      by_cases h20 : (20 : Int) < (i : Int)
      · go_wp2_with fail
        go_ret
        exact ⟨rfl, hTr⟩
      · by_cases h300 : (300 : Int) < (m : Int)
        · go_wp2_with fail
          go_ret
          exact ⟨rfl, hTr⟩
        · have HM := Lib.hid (And.intro h20 h300)
          go_wp2_with (first
            | (at_builtin; refine wpList_append_bytes rfl (.tmp 24) (.tmp 25) 22 rfl 5 Tryd.underlying22 info_byte w1.heap.size _ ((LL.take i).flatten) rfl ho ad m c2 lp rfl hby hm0 (by have := HB.out; have := HM.out; omega) hb.size ?_; intro v3 w3 ho3 hg3))
          have hb3 := below_own_rowb hb hg3 ho.lt
          go_roundw
          case rel => exact ⟨i + 1, by omega, by have := HM.out; omega, by go_num, by rw [HF.out]; exact ho3, by rw [HF.out, List.length_append, hml.out]; have := HB.out; have := HM.out; omega, hb3⟩
          case measure => (simp [intOf]; try omega)
    · have hin : i = n := by omega
      have hii : ¬ (i : Int) < (n : Int) := by omega
      have htk : LL.take i = LL := List.take_of_length_le (by rw [HL.out, hin]; exact Nat.le_refl _)
      have HN := Lib.hid (And.intro (show n ≤ 21 by have := HB.out; omega) (show LL.flatten.length ≤ 6300 by have := HB.out.2.2; rw [htk] at this; have := HB.out; omega))
      rw [htk] at ho
      obtain ⟨M, hM⟩ : ∃ M, M = LL.flatten.length := ⟨_, rfl⟩
      obtain ⟨oa, oc, rfl, hoc, ho0, how⟩ := ho.shape hM.symm
      have HM := Lib.hid hM
      clear hin htk hM ho HB hi hlt
      obtain ⟨S, hS⟩ : ∃ x, x = Dg.sum LL.flatten := ⟨_, rfl⟩
      have HS := Lib.hid (And.intro hS (show S.length = 32 by rw [hS]; exact Dg.sum_len _))
      obtain ⟨DD, hDD⟩ : ∃ x, x = Dg.double LL.flatten := ⟨_, rfl⟩
      have HDD := Lib.hid (And.intro hDD (And.intro (show DD.length = 32 by rw [hDD]; exact Dg.double_len _) (show DD = Dg.sum S by rw [hDD, hS]; rfl)))
      have hPo := parts_one 22 how hoc ho0
      have hB3 := hTr.alloc hTr.size (.cells #[.slice oa M oc] 22)
      have hC := ok.sum _ 1 1 [LL.flatten] _ (ok.stay hKD hB3) hPo (Nat.le_refl _) (fun e => by cases e) (by omega) (by rw [show [LL.flatten].flatten = LL.flatten by simp]; have := HN.out.2; omega)
      rw [show [LL.flatten].flatten = LL.flatten by simp, ← hS] at hC
      have HC := Lib.hid hC
      clear hC hS hDD hPo
      have hT3 := hB3
      clear hB3
      go_upto_region 12 with (first
        | (refine wpList_store_mid rfl 25 (.tmp 6) (.tmp 30) rfl w4.heap.size 0 (blist S).toArray rfl rfl (there_new w4 25 HS.out.2) (size_hash' HS.out.2) (one_hash S) ?_)
        | (go_at_call 9; refine HC.out.mono ?_; rintro e w4 ⟨rfl, hb4⟩))
      obtain ⟨w5, hw5⟩ : ∃ x, x = (w4.alloc (.cells z32 25)).setCells w4.heap.size 0 (blist S) := ⟨_, rfl⟩
      rw [← hw5]
      obtain ⟨hD5, hB5⟩ := hash_new HS.out.2 hw5
      have hT4 := hT3.trans (hb4.mono hT3.size)
      have hT5 := hT4.trans (hB5.mono hT4.size)
      have ho5 := ((how.past (.cells #[.slice oa M oc] 22)).below hb4).below hB5
      clear hw5 hT3 hT4 how hTr hb
      refine wp_region_held_drew (S := Held w5.drew) (by kernel_rfl) (Held.refl _) (fun hHeld => ?_)
      obtain ⟨wd, hwd⟩ : ∃ x, x = w5.drew := ⟨_, rfl⟩
      rw [← hwd] at hHeld ⊢
      have hDd : Has wd w4.heap.size 25 (blist S).toArray := by rw [hwd]; exact hD5.draw
      have hTd : Below W.heap.size W wd := by rw [hwd]; exact hT5.drew
      have hod : Bytes8 wd oa M LL.flatten := by rw [hwd]; exact ho5.draw
      clear hwd
      have hCwd : Below wd.heap.size wd wd := Below.refl _ _
      refine take_at (v := ?_) 0 31 rfl rfl (by kernel_rfl) (by kernel_rfl) (by kernel_rfl) (fun _ _ _ h => h) hHeld (Or.inl ⟨by rfl, ?_⟩) rfl ?_
      rotate_left
      · intro wq hSw
        go_simp
        try with_reducible rfl
      simp only [List.set_cons_zero, List.set_cons_succ]
      refine take_at (v := .agg (blist S).toArray) 2 33 rfl rfl (by kernel_rfl) (by kernel_rfl) (by kernel_rfl) (fun _ _ _ h => h) hHeld (yieldsIf_load_mid (by rfl) 25 (.tmp 6) rfl w4.heap.size 0 (by rfl) (blist S) _ (fun wq hSw => Has.range8 (hDd.under hSw hDd.lt)) Tryd.underlying25 rfl (size_hash HS.out.2)) rfl ?_
      simp only [List.set_cons_zero, List.set_cons_succ]
      refine wpAnyH_ready (rs := [1]) (by kernel_rfl) (by simp) ?_
      refine AllReadyH.cons rfl (fun K hK => ?_) (AllReadyH.nil)
      have hx1 := ok.sum a n c LL _ (ok.stay hKD (hTd.trans (hCwd.mono hTd.size))) (hP.below (hTd.trans (hCwd.mono hTd.size))) hnc hc0 (by have := HN.out; omega) (by have := HN.out.2; omega)
      rw [← HS.out.1] at hx1
      go_simp
      go_at_call 9; refine hx1.mono ?_; rintro e x1 ⟨rfl, hbx1⟩; have hCx1 := hCwd.trans (hbx1.mono hCwd.size)
      refine hK.out _ _ (Held.of hCx1) (fun _ => ?_)
      clear hK K
      try simp only [Act.put, List.setIfInBounds_toArray, List.set_cons_zero, List.set_cons_succ]
      replace hHeld := Held.of hCx1
      refine take_at 3 34 rfl rfl (by kernel_rfl) (by kernel_rfl) (by kernel_rfl) (fun _ _ _ h => h) hHeld (yieldsIf_eql_same (by rfl) 25 5 25 32 (.tmp 32) (.tmp 33) rfl S (by rfl) (by rfl) (by kernel_rfl) Tryd.underlying25 Tryd.underlying5 (by kernel_rfl) HS.out.2) rfl ?_
      simp only [List.set_cons_zero, List.set_cons_succ]
      refine take_at (v := ?_) 4 35 rfl rfl (by kernel_rfl) (by kernel_rfl) (by kernel_rfl) (fun _ _ _ h => h) hHeld (Or.inl ⟨by rfl, ?_⟩) rfl ?_
      rotate_left
      · intro wq hSw
        go_simp
        try with_reducible rfl
      simp only [List.set_cons_zero, List.set_cons_succ]
      refine take_at (v := ?_) 5 36 rfl rfl (by kernel_rfl) (by kernel_rfl) (by kernel_rfl) (fun _ _ _ h => h) hHeld (Or.inl ⟨by rfl, ?_⟩) rfl ?_
      rotate_left
      · intro wq hSw
        go_simp
        try with_reducible rfl
      simp only [List.set_cons_zero, List.set_cons_succ]
      refine take_at (v := ?_) 7 38 rfl rfl (by kernel_rfl) (by kernel_rfl) (by kernel_rfl) (fun _ _ _ h => h) hHeld (Or.inl ⟨by rfl, ?_⟩) rfl ?_
      rotate_left
      · intro wq hSw
        go_simp
        try with_reducible rfl
      simp only [List.set_cons_zero, List.set_cons_succ]
      refine wpAnyH_ready (rs := [6, 8]) (by kernel_rfl) (by simp) ?_
      refine AllReadyH.cons rfl (fun K hK => ?_) (AllReadyH.cons rfl (fun K hK => ?_) (AllReadyH.nil))
      · have hx2 := ok.double a n c LL _ (ok.stay hKD (hTd.trans (hCx1.mono hTd.size))) (hP.below (hTd.trans (hCx1.mono hTd.size))) hnc hc0 (by have := HN.out; omega) (by have := HN.out.2; omega)
        rw [← HDD.out.1] at hx2
        go_simp
        go_at_call 11; refine hx2.mono ?_; rintro e x2 ⟨rfl, hbx2⟩; have hCx2 := hCx1.trans (hbx2.mono hCx1.size)
        refine hK.out _ _ (Held.of hCx2) (fun _ => ?_)
        clear hK K
        try simp only [Act.put, List.setIfInBounds_toArray, List.set_cons_zero, List.set_cons_succ]
        replace hHeld := Held.of hCx2
        refine wpAnyH_ready (rs := [8]) (by kernel_rfl) (by simp) ?_
        refine AllReadyH.cons rfl (fun K hK => ?_) (AllReadyH.nil)
        have hP8 := parts_one 22 (bytes_of_has (hDd.under hCx2 hDd.lt) HS.out.2) (Nat.le_refl _) (fun e => by cases e)
        obtain ⟨x3, hwx3⟩ : ∃ x, x = x2.alloc (.cells #[.slice (some ⟨w4.heap.size, 0, none⟩) 32 32] 22) := ⟨_, rfl⟩
        have hCx3 := hCx2.alloc hCx2.size (.cells #[.slice (some ⟨w4.heap.size, 0, none⟩) 32 32] 22)
        rw [← hwx3] at hP8 hCx3
        go_simp
        rw [← hwx3]; clear hwx3
        refine hK.out _ _ (Held.of hCx3) (fun _ => ?_)
        clear hK K
        try simp only [Act.put, List.setIfInBounds_toArray, List.set_cons_zero, List.set_cons_succ]
        replace hHeld := Held.of hCx3
        refine wpAnyH_ready (rs := [9]) (by kernel_rfl) (by simp) ?_
        refine AllReadyH.cons rfl (fun K hK => ?_) (AllReadyH.nil)
        have hx4 := ok.sum _ 1 1 [S] _ (ok.stay hKD (hTd.trans (hCx3.mono hTd.size))) hP8 (Nat.le_refl _) (fun e => by cases e) (by omega) (by rw [show [S].flatten = S by simp]; have := HS.out.2; omega)
        rw [show [S].flatten = S by simp, ← HDD.out.2.2] at hx4
        go_simp
        go_at_call 9; refine hx4.mono ?_; rintro e x4 ⟨rfl, hbx4⟩; have hCx4 := hCx3.trans (hbx4.mono hCx3.size); replace hP8 := hP8.below hbx4
        refine hK.out _ _ (Held.of hCx4) (fun _ => ?_)
        clear hK K
        try simp only [Act.put, List.setIfInBounds_toArray, List.set_cons_zero, List.set_cons_succ]
        replace hHeld := Held.of hCx4
        refine take_at 10 41 rfl rfl (by kernel_rfl) (by kernel_rfl) (by kernel_rfl) (fun _ _ _ h => h) hHeld (yieldsIf_eql_same (by rfl) 25 5 25 32 (.tmp 37) (.tmp 40) rfl DD (by rfl) (by rfl) (by kernel_rfl) Tryd.underlying25 Tryd.underlying5 (by kernel_rfl) HDD.out.2.1) rfl ?_
        simp only [List.set_cons_zero, List.set_cons_succ]
        refine take_at (v := ?_) 11 42 rfl rfl (by kernel_rfl) (by kernel_rfl) (by kernel_rfl) (fun _ _ _ h => h) hHeld (Or.inl ⟨by rfl, ?_⟩) rfl ?_
        rotate_left
        · intro wq hSw
          go_simp
          try with_reducible rfl
        simp only [List.set_cons_zero, List.set_cons_succ]
        refine take_at (v := ?_) 12 43 rfl rfl (by kernel_rfl) (by kernel_rfl) (by kernel_rfl) (fun _ _ _ h => h) hHeld (Or.inl ⟨by rfl, ?_⟩) rfl ?_
        rotate_left
        · intro wq hSw
          go_simp
          try with_reducible rfl
        simp only [List.set_cons_zero, List.set_cons_succ]
        refine take_at (v := ?_) 13 44 rfl rfl (by kernel_rfl) (by kernel_rfl) (by kernel_rfl) (fun _ _ _ h => h) hHeld (Or.inl ⟨by rfl, ?_⟩) rfl ?_
        rotate_left
        · intro wq hSw
          go_simp
          try with_reducible rfl
        simp only [List.set_cons_zero, List.set_cons_succ]
        refine take_at (v := ?_) 16 47 rfl rfl (by kernel_rfl) (by kernel_rfl) (by kernel_rfl) (fun _ _ _ h => h) hHeld (Or.inl ⟨by rfl, ?_⟩) rfl ?_
        rotate_left
        · intro wq hSw
          go_simp
          try with_reducible rfl
        simp only [List.set_cons_zero, List.set_cons_succ]
        refine wpAnyH_ready (rs := [14, 17]) (by kernel_rfl) (by simp) ?_
        refine AllReadyH.cons rfl (fun K hK => ?_) (AllReadyH.cons rfl (fun K hK => ?_) (AllReadyH.nil))
        · have hP14 := parts_one 22 (hod.below hCx4) hoc ho0
          obtain ⟨x5, hwx5⟩ : ∃ x, x = x4.alloc (.cells #[.slice oa M oc] 22) := ⟨_, rfl⟩
          have hCx5 := hCx4.alloc hCx4.size (.cells #[.slice oa M oc] 22)
          rw [← hwx5] at hP14 hCx5
          go_simp
          rw [← hwx5]; clear hwx5
          refine hK.out _ _ (Held.of hCx5) (fun _ => ?_)
          clear hK K
          try simp only [Act.put, List.setIfInBounds_toArray, List.set_cons_zero, List.set_cons_succ]
          replace hHeld := Held.of hCx5
          refine wpAnyH_ready (rs := [15, 17]) (by kernel_rfl) (by simp) ?_
          refine AllReadyH.cons rfl (fun K hK => ?_) (AllReadyH.cons rfl (fun K hK => ?_) (AllReadyH.nil))
          · have hx6 := ok.double _ 1 1 [LL.flatten] _ (ok.stay hKD (hTd.trans (hCx5.mono hTd.size))) hP14 (Nat.le_refl _) (fun e => by cases e) (by omega) (by rw [show [LL.flatten].flatten = LL.flatten by simp]; have := HN.out.2; omega)
            rw [show [LL.flatten].flatten = LL.flatten by simp, ← HDD.out.1] at hx6
            go_simp
            go_at_call 11; refine hx6.mono ?_; rintro e x6 ⟨rfl, hbx6⟩; have hCx6 := hCx5.trans (hbx6.mono hCx5.size); replace hP14 := hP14.below hbx6
            refine hK.out _ _ (Held.of hCx6) (fun _ => ?_)
            clear hK K
            try simp only [Act.put, List.setIfInBounds_toArray, List.set_cons_zero, List.set_cons_succ]
            replace hHeld := Held.of hCx6
            refine wpAnyH_ready (rs := [17]) (by kernel_rfl) (by simp) ?_
            refine AllReadyH.cons rfl (fun K hK => ?_) (AllReadyH.nil)
            have hP17 := parts_one 22 (bytes_of_has (hDd.under hCx6 hDd.lt) HS.out.2) (Nat.le_refl _) (fun e => by cases e)
            replace hP14 := hP14.past (.cells #[.slice (some ⟨w4.heap.size, 0, none⟩) 32 32] 22)
            obtain ⟨x7, hwx7⟩ : ∃ x, x = x6.alloc (.cells #[.slice (some ⟨w4.heap.size, 0, none⟩) 32 32] 22) := ⟨_, rfl⟩
            have hCx7 := hCx6.alloc hCx6.size (.cells #[.slice (some ⟨w4.heap.size, 0, none⟩) 32 32] 22)
            rw [← hwx7] at hP17 hCx7 hP14
            go_simp
            rw [← hwx7]; clear hwx7
            refine hK.out _ _ (Held.of hCx7) (fun _ => ?_)
            clear hK K
            try simp only [Act.put, List.setIfInBounds_toArray, List.set_cons_zero, List.set_cons_succ]
            replace hHeld := Held.of hCx7
            refine wpAnyH_ready (rs := [18]) (by kernel_rfl) (by simp) ?_
            refine AllReadyH.cons rfl (fun K hK => ?_) (AllReadyH.nil)
            have hx8 := ok.sum _ 1 1 [S] _ (ok.stay hKD (hTd.trans (hCx7.mono hTd.size))) hP17 (Nat.le_refl _) (fun e => by cases e) (by omega) (by rw [show [S].flatten = S by simp]; have := HS.out.2; omega)
            rw [show [S].flatten = S by simp, ← HDD.out.2.2] at hx8
            go_simp
            go_at_call 9; refine hx8.mono ?_; rintro e x8 ⟨rfl, hbx8⟩; have hCx8 := hCx7.trans (hbx8.mono hCx7.size); replace hP14 := hP14.below hbx8; replace hP17 := hP17.below hbx8
            refine hK.out _ _ (Held.of hCx8) (fun _ => ?_)
            clear hK K
            try simp only [Act.put, List.setIfInBounds_toArray, List.set_cons_zero, List.set_cons_succ]
            replace hHeld := Held.of hCx8
            refine take_at 19 50 rfl rfl (by kernel_rfl) (by kernel_rfl) (by kernel_rfl) (fun _ _ _ h => h) hHeld (yieldsIf_eql_same (by rfl) 25 5 25 32 (.tmp 46) (.tmp 49) rfl DD (by rfl) (by rfl) (by kernel_rfl) Tryd.underlying25 Tryd.underlying5 (by kernel_rfl) HDD.out.2.1) rfl ?_
            simp only [List.set_cons_zero, List.set_cons_succ]
            refine take_at (v := ?_) 20 51 rfl rfl (by kernel_rfl) (by kernel_rfl) (by kernel_rfl) (fun _ _ _ h => h) hHeld (Or.inl ⟨by rfl, ?_⟩) rfl ?_
            rotate_left
            · intro wq hSw
              go_simp
              try with_reducible rfl
            simp only [List.set_cons_zero, List.set_cons_succ]
            refine take_at (v := ?_) 21 2 rfl rfl (by kernel_rfl) (by kernel_rfl) (by kernel_rfl) (fun _ _ _ h => h) hHeld (Or.inl ⟨by rfl, ?_⟩) rfl ?_
            rotate_left
            · intro wq hSw
              go_simp
              try with_reducible rfl
            simp only [List.set_cons_zero, List.set_cons_succ]
            refine wpAnyH_done (by kernel_rfl) ?_ _
            go_wp2_with fail
            go_ret
            exact ⟨rfl, (hTd.trans (hCx8.mono hTd.size))⟩
          · have hP17 := parts_one 22 (bytes_of_has (hDd.under hCx5 hDd.lt) HS.out.2) (Nat.le_refl _) (fun e => by cases e)
            replace hP14 := hP14.past (.cells #[.slice (some ⟨w4.heap.size, 0, none⟩) 32 32] 22)
            obtain ⟨x9, hwx9⟩ : ∃ x, x = x5.alloc (.cells #[.slice (some ⟨w4.heap.size, 0, none⟩) 32 32] 22) := ⟨_, rfl⟩
            have hCx9 := hCx5.alloc hCx5.size (.cells #[.slice (some ⟨w4.heap.size, 0, none⟩) 32 32] 22)
            rw [← hwx9] at hP17 hCx9 hP14
            go_simp
            rw [← hwx9]; clear hwx9
            refine hK.out _ _ (Held.of hCx9) (fun _ => ?_)
            clear hK K
            try simp only [Act.put, List.setIfInBounds_toArray, List.set_cons_zero, List.set_cons_succ]
            replace hHeld := Held.of hCx9
            refine wpAnyH_ready (rs := [15]) (by kernel_rfl) (by simp) ?_
            refine AllReadyH.cons rfl (fun K hK => ?_) (AllReadyH.nil)
            have hx10 := ok.double _ 1 1 [LL.flatten] _ (ok.stay hKD (hTd.trans (hCx9.mono hTd.size))) hP14 (Nat.le_refl _) (fun e => by cases e) (by omega) (by rw [show [LL.flatten].flatten = LL.flatten by simp]; have := HN.out.2; omega)
            rw [show [LL.flatten].flatten = LL.flatten by simp, ← HDD.out.1] at hx10
            go_simp
            go_at_call 11; refine hx10.mono ?_; rintro e x10 ⟨rfl, hbx10⟩; have hCx10 := hCx9.trans (hbx10.mono hCx9.size); replace hP14 := hP14.below hbx10; replace hP17 := hP17.below hbx10
            refine hK.out _ _ (Held.of hCx10) (fun _ => ?_)
            clear hK K
            try simp only [Act.put, List.setIfInBounds_toArray, List.set_cons_zero, List.set_cons_succ]
            replace hHeld := Held.of hCx10
            refine wpAnyH_ready (rs := [18]) (by kernel_rfl) (by simp) ?_
            refine AllReadyH.cons rfl (fun K hK => ?_) (AllReadyH.nil)
            have hx11 := ok.sum _ 1 1 [S] _ (ok.stay hKD (hTd.trans (hCx10.mono hTd.size))) hP17 (Nat.le_refl _) (fun e => by cases e) (by omega) (by rw [show [S].flatten = S by simp]; have := HS.out.2; omega)
            rw [show [S].flatten = S by simp, ← HDD.out.2.2] at hx11
            go_simp
            go_at_call 9; refine hx11.mono ?_; rintro e x11 ⟨rfl, hbx11⟩; have hCx11 := hCx10.trans (hbx11.mono hCx10.size); replace hP14 := hP14.below hbx11; replace hP17 := hP17.below hbx11
            refine hK.out _ _ (Held.of hCx11) (fun _ => ?_)
            clear hK K
            try simp only [Act.put, List.setIfInBounds_toArray, List.set_cons_zero, List.set_cons_succ]
            replace hHeld := Held.of hCx11
            refine take_at 19 50 rfl rfl (by kernel_rfl) (by kernel_rfl) (by kernel_rfl) (fun _ _ _ h => h) hHeld (yieldsIf_eql_same (by rfl) 25 5 25 32 (.tmp 46) (.tmp 49) rfl DD (by rfl) (by rfl) (by kernel_rfl) Tryd.underlying25 Tryd.underlying5 (by kernel_rfl) HDD.out.2.1) rfl ?_
            simp only [List.set_cons_zero, List.set_cons_succ]
            refine take_at (v := ?_) 20 51 rfl rfl (by kernel_rfl) (by kernel_rfl) (by kernel_rfl) (fun _ _ _ h => h) hHeld (Or.inl ⟨by rfl, ?_⟩) rfl ?_
            rotate_left
            · intro wq hSw
              go_simp
              try with_reducible rfl
            simp only [List.set_cons_zero, List.set_cons_succ]
            refine take_at (v := ?_) 21 2 rfl rfl (by kernel_rfl) (by kernel_rfl) (by kernel_rfl) (fun _ _ _ h => h) hHeld (Or.inl ⟨by rfl, ?_⟩) rfl ?_
            rotate_left
            · intro wq hSw
              go_simp
              try with_reducible rfl
            simp only [List.set_cons_zero, List.set_cons_succ]
            refine wpAnyH_done (by kernel_rfl) ?_ _
            go_wp2_with fail
            go_ret
            exact ⟨rfl, (hTd.trans (hCx11.mono hTd.size))⟩
        · have hP17 := parts_one 22 (bytes_of_has (hDd.under hCx4 hDd.lt) HS.out.2) (Nat.le_refl _) (fun e => by cases e)
          obtain ⟨x12, hwx12⟩ : ∃ x, x = x4.alloc (.cells #[.slice (some ⟨w4.heap.size, 0, none⟩) 32 32] 22) := ⟨_, rfl⟩
          have hCx12 := hCx4.alloc hCx4.size (.cells #[.slice (some ⟨w4.heap.size, 0, none⟩) 32 32] 22)
          rw [← hwx12] at hP17 hCx12
          go_simp
          rw [← hwx12]; clear hwx12
          refine hK.out _ _ (Held.of hCx12) (fun _ => ?_)
          clear hK K
          try simp only [Act.put, List.setIfInBounds_toArray, List.set_cons_zero, List.set_cons_succ]
          replace hHeld := Held.of hCx12
          refine wpAnyH_ready (rs := [14]) (by kernel_rfl) (by simp) ?_
          refine AllReadyH.cons rfl (fun K hK => ?_) (AllReadyH.nil)
          have hP14 := parts_one 22 (hod.below hCx12) hoc ho0
          replace hP17 := hP17.past (.cells #[.slice oa M oc] 22)
          obtain ⟨x13, hwx13⟩ : ∃ x, x = x12.alloc (.cells #[.slice oa M oc] 22) := ⟨_, rfl⟩
          have hCx13 := hCx12.alloc hCx12.size (.cells #[.slice oa M oc] 22)
          rw [← hwx13] at hP14 hCx13 hP17
          go_simp
          rw [← hwx13]; clear hwx13
          refine hK.out _ _ (Held.of hCx13) (fun _ => ?_)
          clear hK K
          try simp only [Act.put, List.setIfInBounds_toArray, List.set_cons_zero, List.set_cons_succ]
          replace hHeld := Held.of hCx13
          refine wpAnyH_ready (rs := [15]) (by kernel_rfl) (by simp) ?_
          refine AllReadyH.cons rfl (fun K hK => ?_) (AllReadyH.nil)
          have hx14 := ok.double _ 1 1 [LL.flatten] _ (ok.stay hKD (hTd.trans (hCx13.mono hTd.size))) hP14 (Nat.le_refl _) (fun e => by cases e) (by omega) (by rw [show [LL.flatten].flatten = LL.flatten by simp]; have := HN.out.2; omega)
          rw [show [LL.flatten].flatten = LL.flatten by simp, ← HDD.out.1] at hx14
          go_simp
          go_at_call 11; refine hx14.mono ?_; rintro e x14 ⟨rfl, hbx14⟩; have hCx14 := hCx13.trans (hbx14.mono hCx13.size); replace hP17 := hP17.below hbx14; replace hP14 := hP14.below hbx14
          refine hK.out _ _ (Held.of hCx14) (fun _ => ?_)
          clear hK K
          try simp only [Act.put, List.setIfInBounds_toArray, List.set_cons_zero, List.set_cons_succ]
          replace hHeld := Held.of hCx14
          refine wpAnyH_ready (rs := [18]) (by kernel_rfl) (by simp) ?_
          refine AllReadyH.cons rfl (fun K hK => ?_) (AllReadyH.nil)
          have hx15 := ok.sum _ 1 1 [S] _ (ok.stay hKD (hTd.trans (hCx14.mono hTd.size))) hP17 (Nat.le_refl _) (fun e => by cases e) (by omega) (by rw [show [S].flatten = S by simp]; have := HS.out.2; omega)
          rw [show [S].flatten = S by simp, ← HDD.out.2.2] at hx15
          go_simp
          go_at_call 9; refine hx15.mono ?_; rintro e x15 ⟨rfl, hbx15⟩; have hCx15 := hCx14.trans (hbx15.mono hCx14.size); replace hP17 := hP17.below hbx15; replace hP14 := hP14.below hbx15
          refine hK.out _ _ (Held.of hCx15) (fun _ => ?_)
          clear hK K
          try simp only [Act.put, List.setIfInBounds_toArray, List.set_cons_zero, List.set_cons_succ]
          replace hHeld := Held.of hCx15
          refine take_at 19 50 rfl rfl (by kernel_rfl) (by kernel_rfl) (by kernel_rfl) (fun _ _ _ h => h) hHeld (yieldsIf_eql_same (by rfl) 25 5 25 32 (.tmp 46) (.tmp 49) rfl DD (by rfl) (by rfl) (by kernel_rfl) Tryd.underlying25 Tryd.underlying5 (by kernel_rfl) HDD.out.2.1) rfl ?_
          simp only [List.set_cons_zero, List.set_cons_succ]
          refine take_at (v := ?_) 20 51 rfl rfl (by kernel_rfl) (by kernel_rfl) (by kernel_rfl) (fun _ _ _ h => h) hHeld (Or.inl ⟨by rfl, ?_⟩) rfl ?_
          rotate_left
          · intro wq hSw
            go_simp
            try with_reducible rfl
          simp only [List.set_cons_zero, List.set_cons_succ]
          refine take_at (v := ?_) 21 2 rfl rfl (by kernel_rfl) (by kernel_rfl) (by kernel_rfl) (fun _ _ _ h => h) hHeld (Or.inl ⟨by rfl, ?_⟩) rfl ?_
          rotate_left
          · intro wq hSw
            go_simp
            try with_reducible rfl
          simp only [List.set_cons_zero, List.set_cons_succ]
          refine wpAnyH_done (by kernel_rfl) ?_ _
          go_wp2_with fail
          go_ret
          exact ⟨rfl, (hTd.trans (hCx15.mono hTd.size))⟩
      · have hP8 := parts_one 22 (bytes_of_has (hDd.under hCx1 hDd.lt) HS.out.2) (Nat.le_refl _) (fun e => by cases e)
        obtain ⟨x16, hwx16⟩ : ∃ x, x = x1.alloc (.cells #[.slice (some ⟨w4.heap.size, 0, none⟩) 32 32] 22) := ⟨_, rfl⟩
        have hCx16 := hCx1.alloc hCx1.size (.cells #[.slice (some ⟨w4.heap.size, 0, none⟩) 32 32] 22)
        rw [← hwx16] at hP8 hCx16
        go_simp
        rw [← hwx16]; clear hwx16
        refine hK.out _ _ (Held.of hCx16) (fun _ => ?_)
        clear hK K
        try simp only [Act.put, List.setIfInBounds_toArray, List.set_cons_zero, List.set_cons_succ]
        replace hHeld := Held.of hCx16
        refine wpAnyH_ready (rs := [6]) (by kernel_rfl) (by simp) ?_
        refine AllReadyH.cons rfl (fun K hK => ?_) (AllReadyH.nil)
        have hx17 := ok.double a n c LL _ (ok.stay hKD (hTd.trans (hCx16.mono hTd.size))) (hP.below (hTd.trans (hCx16.mono hTd.size))) hnc hc0 (by have := HN.out; omega) (by have := HN.out.2; omega)
        rw [← HDD.out.1] at hx17
        go_simp
        go_at_call 11; refine hx17.mono ?_; rintro e x17 ⟨rfl, hbx17⟩; have hCx17 := hCx16.trans (hbx17.mono hCx16.size); replace hP8 := hP8.below hbx17
        refine hK.out _ _ (Held.of hCx17) (fun _ => ?_)
        clear hK K
        try simp only [Act.put, List.setIfInBounds_toArray, List.set_cons_zero, List.set_cons_succ]
        replace hHeld := Held.of hCx17
        refine wpAnyH_ready (rs := [9]) (by kernel_rfl) (by simp) ?_
        refine AllReadyH.cons rfl (fun K hK => ?_) (AllReadyH.nil)
        have hx18 := ok.sum _ 1 1 [S] _ (ok.stay hKD (hTd.trans (hCx17.mono hTd.size))) hP8 (Nat.le_refl _) (fun e => by cases e) (by omega) (by rw [show [S].flatten = S by simp]; have := HS.out.2; omega)
        rw [show [S].flatten = S by simp, ← HDD.out.2.2] at hx18
        go_simp
        go_at_call 9; refine hx18.mono ?_; rintro e x18 ⟨rfl, hbx18⟩; have hCx18 := hCx17.trans (hbx18.mono hCx17.size); replace hP8 := hP8.below hbx18
        refine hK.out _ _ (Held.of hCx18) (fun _ => ?_)
        clear hK K
        try simp only [Act.put, List.setIfInBounds_toArray, List.set_cons_zero, List.set_cons_succ]
        replace hHeld := Held.of hCx18
        refine take_at 10 41 rfl rfl (by kernel_rfl) (by kernel_rfl) (by kernel_rfl) (fun _ _ _ h => h) hHeld (yieldsIf_eql_same (by rfl) 25 5 25 32 (.tmp 37) (.tmp 40) rfl DD (by rfl) (by rfl) (by kernel_rfl) Tryd.underlying25 Tryd.underlying5 (by kernel_rfl) HDD.out.2.1) rfl ?_
        simp only [List.set_cons_zero, List.set_cons_succ]
        refine take_at (v := ?_) 11 42 rfl rfl (by kernel_rfl) (by kernel_rfl) (by kernel_rfl) (fun _ _ _ h => h) hHeld (Or.inl ⟨by rfl, ?_⟩) rfl ?_
        rotate_left
        · intro wq hSw
          go_simp
          try with_reducible rfl
        simp only [List.set_cons_zero, List.set_cons_succ]
        refine take_at (v := ?_) 12 43 rfl rfl (by kernel_rfl) (by kernel_rfl) (by kernel_rfl) (fun _ _ _ h => h) hHeld (Or.inl ⟨by rfl, ?_⟩) rfl ?_
        rotate_left
        · intro wq hSw
          go_simp
          try with_reducible rfl
        simp only [List.set_cons_zero, List.set_cons_succ]
        refine take_at (v := ?_) 13 44 rfl rfl (by kernel_rfl) (by kernel_rfl) (by kernel_rfl) (fun _ _ _ h => h) hHeld (Or.inl ⟨by rfl, ?_⟩) rfl ?_
        rotate_left
        · intro wq hSw
          go_simp
          try with_reducible rfl
        simp only [List.set_cons_zero, List.set_cons_succ]
        refine take_at (v := ?_) 16 47 rfl rfl (by kernel_rfl) (by kernel_rfl) (by kernel_rfl) (fun _ _ _ h => h) hHeld (Or.inl ⟨by rfl, ?_⟩) rfl ?_
        rotate_left
        · intro wq hSw
          go_simp
          try with_reducible rfl
        simp only [List.set_cons_zero, List.set_cons_succ]
        refine wpAnyH_ready (rs := [14, 17]) (by kernel_rfl) (by simp) ?_
        refine AllReadyH.cons rfl (fun K hK => ?_) (AllReadyH.cons rfl (fun K hK => ?_) (AllReadyH.nil))
        · have hP14 := parts_one 22 (hod.below hCx18) hoc ho0
          obtain ⟨x19, hwx19⟩ : ∃ x, x = x18.alloc (.cells #[.slice oa M oc] 22) := ⟨_, rfl⟩
          have hCx19 := hCx18.alloc hCx18.size (.cells #[.slice oa M oc] 22)
          rw [← hwx19] at hP14 hCx19
          go_simp
          rw [← hwx19]; clear hwx19
          refine hK.out _ _ (Held.of hCx19) (fun _ => ?_)
          clear hK K
          try simp only [Act.put, List.setIfInBounds_toArray, List.set_cons_zero, List.set_cons_succ]
          replace hHeld := Held.of hCx19
          refine wpAnyH_ready (rs := [15, 17]) (by kernel_rfl) (by simp) ?_
          refine AllReadyH.cons rfl (fun K hK => ?_) (AllReadyH.cons rfl (fun K hK => ?_) (AllReadyH.nil))
          · have hx20 := ok.double _ 1 1 [LL.flatten] _ (ok.stay hKD (hTd.trans (hCx19.mono hTd.size))) hP14 (Nat.le_refl _) (fun e => by cases e) (by omega) (by rw [show [LL.flatten].flatten = LL.flatten by simp]; have := HN.out.2; omega)
            rw [show [LL.flatten].flatten = LL.flatten by simp, ← HDD.out.1] at hx20
            go_simp
            go_at_call 11; refine hx20.mono ?_; rintro e x20 ⟨rfl, hbx20⟩; have hCx20 := hCx19.trans (hbx20.mono hCx19.size); replace hP14 := hP14.below hbx20
            refine hK.out _ _ (Held.of hCx20) (fun _ => ?_)
            clear hK K
            try simp only [Act.put, List.setIfInBounds_toArray, List.set_cons_zero, List.set_cons_succ]
            replace hHeld := Held.of hCx20
            refine wpAnyH_ready (rs := [17]) (by kernel_rfl) (by simp) ?_
            refine AllReadyH.cons rfl (fun K hK => ?_) (AllReadyH.nil)
            have hP17 := parts_one 22 (bytes_of_has (hDd.under hCx20 hDd.lt) HS.out.2) (Nat.le_refl _) (fun e => by cases e)
            replace hP14 := hP14.past (.cells #[.slice (some ⟨w4.heap.size, 0, none⟩) 32 32] 22)
            obtain ⟨x21, hwx21⟩ : ∃ x, x = x20.alloc (.cells #[.slice (some ⟨w4.heap.size, 0, none⟩) 32 32] 22) := ⟨_, rfl⟩
            have hCx21 := hCx20.alloc hCx20.size (.cells #[.slice (some ⟨w4.heap.size, 0, none⟩) 32 32] 22)
            rw [← hwx21] at hP17 hCx21 hP14
            go_simp
            rw [← hwx21]; clear hwx21
            refine hK.out _ _ (Held.of hCx21) (fun _ => ?_)
            clear hK K
            try simp only [Act.put, List.setIfInBounds_toArray, List.set_cons_zero, List.set_cons_succ]
            replace hHeld := Held.of hCx21
            refine wpAnyH_ready (rs := [18]) (by kernel_rfl) (by simp) ?_
            refine AllReadyH.cons rfl (fun K hK => ?_) (AllReadyH.nil)
            have hx22 := ok.sum _ 1 1 [S] _ (ok.stay hKD (hTd.trans (hCx21.mono hTd.size))) hP17 (Nat.le_refl _) (fun e => by cases e) (by omega) (by rw [show [S].flatten = S by simp]; have := HS.out.2; omega)
            rw [show [S].flatten = S by simp, ← HDD.out.2.2] at hx22
            go_simp
            go_at_call 9; refine hx22.mono ?_; rintro e x22 ⟨rfl, hbx22⟩; have hCx22 := hCx21.trans (hbx22.mono hCx21.size); replace hP14 := hP14.below hbx22; replace hP17 := hP17.below hbx22
            refine hK.out _ _ (Held.of hCx22) (fun _ => ?_)
            clear hK K
            try simp only [Act.put, List.setIfInBounds_toArray, List.set_cons_zero, List.set_cons_succ]
            replace hHeld := Held.of hCx22
            refine take_at 19 50 rfl rfl (by kernel_rfl) (by kernel_rfl) (by kernel_rfl) (fun _ _ _ h => h) hHeld (yieldsIf_eql_same (by rfl) 25 5 25 32 (.tmp 46) (.tmp 49) rfl DD (by rfl) (by rfl) (by kernel_rfl) Tryd.underlying25 Tryd.underlying5 (by kernel_rfl) HDD.out.2.1) rfl ?_
            simp only [List.set_cons_zero, List.set_cons_succ]
            refine take_at (v := ?_) 20 51 rfl rfl (by kernel_rfl) (by kernel_rfl) (by kernel_rfl) (fun _ _ _ h => h) hHeld (Or.inl ⟨by rfl, ?_⟩) rfl ?_
            rotate_left
            · intro wq hSw
              go_simp
              try with_reducible rfl
            simp only [List.set_cons_zero, List.set_cons_succ]
            refine take_at (v := ?_) 21 2 rfl rfl (by kernel_rfl) (by kernel_rfl) (by kernel_rfl) (fun _ _ _ h => h) hHeld (Or.inl ⟨by rfl, ?_⟩) rfl ?_
            rotate_left
            · intro wq hSw
              go_simp
              try with_reducible rfl
            simp only [List.set_cons_zero, List.set_cons_succ]
            refine wpAnyH_done (by kernel_rfl) ?_ _
            go_wp2_with fail
            go_ret
            exact ⟨rfl, (hTd.trans (hCx22.mono hTd.size))⟩
          · have hP17 := parts_one 22 (bytes_of_has (hDd.under hCx19 hDd.lt) HS.out.2) (Nat.le_refl _) (fun e => by cases e)
            replace hP14 := hP14.past (.cells #[.slice (some ⟨w4.heap.size, 0, none⟩) 32 32] 22)
            obtain ⟨x23, hwx23⟩ : ∃ x, x = x19.alloc (.cells #[.slice (some ⟨w4.heap.size, 0, none⟩) 32 32] 22) := ⟨_, rfl⟩
            have hCx23 := hCx19.alloc hCx19.size (.cells #[.slice (some ⟨w4.heap.size, 0, none⟩) 32 32] 22)
            rw [← hwx23] at hP17 hCx23 hP14
            go_simp
            rw [← hwx23]; clear hwx23
            refine hK.out _ _ (Held.of hCx23) (fun _ => ?_)
            clear hK K
            try simp only [Act.put, List.setIfInBounds_toArray, List.set_cons_zero, List.set_cons_succ]
            replace hHeld := Held.of hCx23
            refine wpAnyH_ready (rs := [15]) (by kernel_rfl) (by simp) ?_
            refine AllReadyH.cons rfl (fun K hK => ?_) (AllReadyH.nil)
            have hx24 := ok.double _ 1 1 [LL.flatten] _ (ok.stay hKD (hTd.trans (hCx23.mono hTd.size))) hP14 (Nat.le_refl _) (fun e => by cases e) (by omega) (by rw [show [LL.flatten].flatten = LL.flatten by simp]; have := HN.out.2; omega)
            rw [show [LL.flatten].flatten = LL.flatten by simp, ← HDD.out.1] at hx24
            go_simp
            go_at_call 11; refine hx24.mono ?_; rintro e x24 ⟨rfl, hbx24⟩; have hCx24 := hCx23.trans (hbx24.mono hCx23.size); replace hP14 := hP14.below hbx24; replace hP17 := hP17.below hbx24
            refine hK.out _ _ (Held.of hCx24) (fun _ => ?_)
            clear hK K
            try simp only [Act.put, List.setIfInBounds_toArray, List.set_cons_zero, List.set_cons_succ]
            replace hHeld := Held.of hCx24
            refine wpAnyH_ready (rs := [18]) (by kernel_rfl) (by simp) ?_
            refine AllReadyH.cons rfl (fun K hK => ?_) (AllReadyH.nil)
            have hx25 := ok.sum _ 1 1 [S] _ (ok.stay hKD (hTd.trans (hCx24.mono hTd.size))) hP17 (Nat.le_refl _) (fun e => by cases e) (by omega) (by rw [show [S].flatten = S by simp]; have := HS.out.2; omega)
            rw [show [S].flatten = S by simp, ← HDD.out.2.2] at hx25
            go_simp
            go_at_call 9; refine hx25.mono ?_; rintro e x25 ⟨rfl, hbx25⟩; have hCx25 := hCx24.trans (hbx25.mono hCx24.size); replace hP14 := hP14.below hbx25; replace hP17 := hP17.below hbx25
            refine hK.out _ _ (Held.of hCx25) (fun _ => ?_)
            clear hK K
            try simp only [Act.put, List.setIfInBounds_toArray, List.set_cons_zero, List.set_cons_succ]
            replace hHeld := Held.of hCx25
            refine take_at 19 50 rfl rfl (by kernel_rfl) (by kernel_rfl) (by kernel_rfl) (fun _ _ _ h => h) hHeld (yieldsIf_eql_same (by rfl) 25 5 25 32 (.tmp 46) (.tmp 49) rfl DD (by rfl) (by rfl) (by kernel_rfl) Tryd.underlying25 Tryd.underlying5 (by kernel_rfl) HDD.out.2.1) rfl ?_
            simp only [List.set_cons_zero, List.set_cons_succ]
            refine take_at (v := ?_) 20 51 rfl rfl (by kernel_rfl) (by kernel_rfl) (by kernel_rfl) (fun _ _ _ h => h) hHeld (Or.inl ⟨by rfl, ?_⟩) rfl ?_
            rotate_left
            · intro wq hSw
              go_simp
              try with_reducible rfl
            simp only [List.set_cons_zero, List.set_cons_succ]
            refine take_at (v := ?_) 21 2 rfl rfl (by kernel_rfl) (by kernel_rfl) (by kernel_rfl) (fun _ _ _ h => h) hHeld (Or.inl ⟨by rfl, ?_⟩) rfl ?_
            rotate_left
            · intro wq hSw
              go_simp
              try with_reducible rfl
            simp only [List.set_cons_zero, List.set_cons_succ]
            refine wpAnyH_done (by kernel_rfl) ?_ _
            go_wp2_with fail
            go_ret
            exact ⟨rfl, (hTd.trans (hCx25.mono hTd.size))⟩
        · have hP17 := parts_one 22 (bytes_of_has (hDd.under hCx18 hDd.lt) HS.out.2) (Nat.le_refl _) (fun e => by cases e)
          obtain ⟨x26, hwx26⟩ : ∃ x, x = x18.alloc (.cells #[.slice (some ⟨w4.heap.size, 0, none⟩) 32 32] 22) := ⟨_, rfl⟩
          have hCx26 := hCx18.alloc hCx18.size (.cells #[.slice (some ⟨w4.heap.size, 0, none⟩) 32 32] 22)
          rw [← hwx26] at hP17 hCx26
          go_simp
          rw [← hwx26]; clear hwx26
          refine hK.out _ _ (Held.of hCx26) (fun _ => ?_)
          clear hK K
          try simp only [Act.put, List.setIfInBounds_toArray, List.set_cons_zero, List.set_cons_succ]
          replace hHeld := Held.of hCx26
          refine wpAnyH_ready (rs := [14]) (by kernel_rfl) (by simp) ?_
          refine AllReadyH.cons rfl (fun K hK => ?_) (AllReadyH.nil)
          have hP14 := parts_one 22 (hod.below hCx26) hoc ho0
          replace hP17 := hP17.past (.cells #[.slice oa M oc] 22)
          obtain ⟨x27, hwx27⟩ : ∃ x, x = x26.alloc (.cells #[.slice oa M oc] 22) := ⟨_, rfl⟩
          have hCx27 := hCx26.alloc hCx26.size (.cells #[.slice oa M oc] 22)
          rw [← hwx27] at hP14 hCx27 hP17
          go_simp
          rw [← hwx27]; clear hwx27
          refine hK.out _ _ (Held.of hCx27) (fun _ => ?_)
          clear hK K
          try simp only [Act.put, List.setIfInBounds_toArray, List.set_cons_zero, List.set_cons_succ]
          replace hHeld := Held.of hCx27
          refine wpAnyH_ready (rs := [15]) (by kernel_rfl) (by simp) ?_
          refine AllReadyH.cons rfl (fun K hK => ?_) (AllReadyH.nil)
          have hx28 := ok.double _ 1 1 [LL.flatten] _ (ok.stay hKD (hTd.trans (hCx27.mono hTd.size))) hP14 (Nat.le_refl _) (fun e => by cases e) (by omega) (by rw [show [LL.flatten].flatten = LL.flatten by simp]; have := HN.out.2; omega)
          rw [show [LL.flatten].flatten = LL.flatten by simp, ← HDD.out.1] at hx28
          go_simp
          go_at_call 11; refine hx28.mono ?_; rintro e x28 ⟨rfl, hbx28⟩; have hCx28 := hCx27.trans (hbx28.mono hCx27.size); replace hP17 := hP17.below hbx28; replace hP14 := hP14.below hbx28
          refine hK.out _ _ (Held.of hCx28) (fun _ => ?_)
          clear hK K
          try simp only [Act.put, List.setIfInBounds_toArray, List.set_cons_zero, List.set_cons_succ]
          replace hHeld := Held.of hCx28
          refine wpAnyH_ready (rs := [18]) (by kernel_rfl) (by simp) ?_
          refine AllReadyH.cons rfl (fun K hK => ?_) (AllReadyH.nil)
          have hx29 := ok.sum _ 1 1 [S] _ (ok.stay hKD (hTd.trans (hCx28.mono hTd.size))) hP17 (Nat.le_refl _) (fun e => by cases e) (by omega) (by rw [show [S].flatten = S by simp]; have := HS.out.2; omega)
          rw [show [S].flatten = S by simp, ← HDD.out.2.2] at hx29
          go_simp
          go_at_call 9; refine hx29.mono ?_; rintro e x29 ⟨rfl, hbx29⟩; have hCx29 := hCx28.trans (hbx29.mono hCx28.size); replace hP17 := hP17.below hbx29; replace hP14 := hP14.below hbx29
          refine hK.out _ _ (Held.of hCx29) (fun _ => ?_)
          clear hK K
          try simp only [Act.put, List.setIfInBounds_toArray, List.set_cons_zero, List.set_cons_succ]
          replace hHeld := Held.of hCx29
          refine take_at 19 50 rfl rfl (by kernel_rfl) (by kernel_rfl) (by kernel_rfl) (fun _ _ _ h => h) hHeld (yieldsIf_eql_same (by rfl) 25 5 25 32 (.tmp 46) (.tmp 49) rfl DD (by rfl) (by rfl) (by kernel_rfl) Tryd.underlying25 Tryd.underlying5 (by kernel_rfl) HDD.out.2.1) rfl ?_
          simp only [List.set_cons_zero, List.set_cons_succ]
          refine take_at (v := ?_) 20 51 rfl rfl (by kernel_rfl) (by kernel_rfl) (by kernel_rfl) (fun _ _ _ h => h) hHeld (Or.inl ⟨by rfl, ?_⟩) rfl ?_
          rotate_left
          · intro wq hSw
            go_simp
            try with_reducible rfl
          simp only [List.set_cons_zero, List.set_cons_succ]
          refine take_at (v := ?_) 21 2 rfl rfl (by kernel_rfl) (by kernel_rfl) (by kernel_rfl) (fun _ _ _ h => h) hHeld (Or.inl ⟨by rfl, ?_⟩) rfl ?_
          rotate_left
          · intro wq hSw
            go_simp
            try with_reducible rfl
          simp only [List.set_cons_zero, List.set_cons_succ]
          refine wpAnyH_done (by kernel_rfl) ?_ _
          go_wp2_with fail
          go_ret
          exact ⟨rfl, (hTd.trans (hCx29.mono hTd.size))⟩
end Go.Proofs.YtopeicgcpfcccaaDoor
