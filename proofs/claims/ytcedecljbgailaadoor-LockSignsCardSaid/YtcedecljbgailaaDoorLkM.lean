/- package lock: Check, where it asks Opens of each spend, in order (mklkm.py) -/
import Derived.Test.YtcedecljbgailaaDoorLkH
import Derived.Test.YtcedecljbgailaaDoorLkQ
import Derived.Test.YtcedecljbgailaaDoorTxI
import Derived.Test.YtcedecljbgailaaDoorTxN
namespace Go.Proofs.YtcedecljbgailaaDoor
open Go Go.RowKit Go.ChangeShapes Go.WideShapes
set_option maxRecDepth 100000 in
set_option maxHeartbeats 8000000 in
theorem lockChk : LockChk KDg := by
  intro a n q b m r t ca cn cq cl w hT ht hs hc hcq
  obtain ⟨W1, hW1⟩ : ∃ x, x = w.alloc (.cells #[.slice a n q, .slice b m r, .bool t.firm] 38) := ⟨_, rfl⟩
  have hb1 : Below w.heap.size w W1 := by rw [hW1]; exact (Below.refl _ w).alloc (Nat.le_refl _) _
  have hX : Has W1 w.heap.size 38 #[.slice a n q, .slice b m r, .bool t.firm] := by rw [hW1]; exact Has.fresh _ _ _
  have HW := Lib.hid hW1
  have HT := Lib.hid (ht.below hb1)
  have HC := Lib.hid (hc.below hb1)
  have HK := Lib.hid (hT.below hb1)
  have HS := Lib.hid hs
  have hnl : t.sp.length = n := ht.sp.1
  have hcl : cl.length = cn := hc.1
  have hcmx : cn ≤ 9223372036854775807 := hc.2.1
  have hnmx : n ≤ 9223372036854775807 := ht.sp.2.1
  obtain ⟨z, hz⟩ : ∃ z, z = Lk.check t cl := ⟨_, rfl⟩
  rw [← hz]
  have HZ := Lib.hid hz
  obtain ⟨g1, hg1⟩ : ∃ g, g = w.heap.size := ⟨_, rfl⟩
  have HG := Lib.hid hg1
  rw [← hg1] at hX
  have HN := Lib.hid (And.intro hnl hcl)
  clear hW1 ht hc hT hs hnl hcl hz hg1
  have f0 : W1.cell? ⟨g1, 0, none⟩ = some (.slice a n q) := hX.cell_at rfl
  by_cases hne : cn = n
  · subst hne
    obtain ⟨id, hid⟩ : ∃ d, d = Tx.idOf false t := ⟨_, rfl⟩
    have HID := Lib.hid (show Tx.idOf false t = id ∧ id.length = 32 from ⟨hid.symm, by rw [hid]; exact Tx.idOf_len _ _⟩)
    have lX := hX.load_agg (P := Tryd.prog) (t := 38) Tryd.underlying38 rfl (by kernel_rfl)
    clear hid
    go_enter Tryd.func18, Tryd.ntmps18
    go_upto_region 1 with fail
    rw [← HW.out, ← HG.out]
    go_upto_region 4 with (first
      | (refine wpList_store_mid rfl 23 (.tmp 5) (.tmp 16) rfl w2.heap.size 0 (blist id).toArray rfl rfl (there_new w2 _ HID.out.2) (size_hash' HID.out.2) (one_hash _) ?_)
      | (go_at_call 20; refine (pid_any a cn q b m r t t.firm rfl W1 HT.out HS.out HK.out).mono ?_; rw [HID.out.1]; rintro e w2 ⟨rfl, hb2⟩)
      | (refine wpList_load_run rfl 38 (.tmp 2) rfl _ _ rfl lX ?_))
    clear lX f0
    obtain ⟨w3, hw3⟩ : ∃ x, x = (w2.alloc (.cells z32 23)).setCells w2.heap.size 0 (blist id) := ⟨_, rfl⟩
    rw [← hw3]
    obtain ⟨hH, hb3⟩ := hash_new HID.out.2 hw3
    obtain ⟨g5, hg5⟩ : ∃ g, g = w2.heap.size := ⟨_, rfl⟩
    rw [← hg5] at hH ⊢
    have hb13 : Below W1.heap.size W1 w3 := hb2.trans (hb3.mono hb2.size)
    have hX3 := hX.under hb13 hX.lt
    have HT3 := Lib.hid (HT.out.below hb13)
    have HC3 := Lib.hid (HC.out.below hb13)
    have HK3 := Lib.hid (HK.out.below hb13)
    have hw13 := hb1.trans (hb13.mono hb1.size)
    clear hw3 hg5 hX hb2 hb3 hb13
    have f3 : w3.cell? ⟨g1, 0, none⟩ = some (.slice a cn q) := hX3.cell_at rfl
    go_wp2
    clear f3
    go_loopw [20] (fun iv wr => ∃ i : Nat, i ≤ cn ∧ iv = .int .i64 i ∧ RowKit.Hid (∀ (j : Nat) (s : Tx.Sp) (c : Tx.Co), j < i → t.sp[j]? = some s → cl[j]? = some c → Lk.opens s c (Tx.idOf false t) = true) ∧ Below w3.heap.size w3 wr) (fun iv _ => cn - (intOf iv).toNat)
    case atStart => exact ⟨0, Nat.zero_le _, rfl, Lib.hid (fun j s c hj => by omega), Below.refl _ _⟩
    case round =>
      obtain ⟨i, hi, rfl, HB, hb⟩ := hrel
      by_cases hlt : i < cn
      · have hii : (i : Int) < (cn : Int) := by omega
        have hi0 : (0 : Int) ≤ (i : Int) := by omega
        obtain ⟨s, hs⟩ := HT3.out.sp.get hlt
        obtain ⟨c, hc⟩ := HC3.out.get hlt
        obtain ⟨x, hax, _⟩ := HT3.out.sp.2.2.2 i s hs
        obtain ⟨y, hay, _⟩ := HC3.out.2.2.2 i c hc
        subst hax
        subst hay
        have HSC := Lib.hid (show t.sp[i]? = some s ∧ cl[i]? = some c ∧ Tx.SpOk s ∧ s.key.length ≤ 10000 from ⟨hs, hc, HT3.out.sp.okay hs, by have := HS.out.2.2 s (List.mem_of_getElem? hs); omega⟩)
        have hy := spends_at (HT3.out.sp.below hb) hs
        clear hs hc
        go_upto_region 7 with (first
          | (refine wpList_store_mid rfl 28 (.tmp 7) (.tmp 24) rfl wr.heap.size 0 (spCells s).toArray rfl rfl (spRec.there _ _ rfl HSC.out.2.2.1) (spRec.size_eq size_spend HSC.out.2.2.1) (spRec.all_one s) ?_)
          | (refine wpList_load_run rfl 28 (.tmp 23) rfl _ _ rfl hy ?_))
        obtain ⟨w5, hw5⟩ : ∃ x, x = (wr.alloc (.cells zSp 28)).setCells wr.heap.size 0 (spCells s) := ⟨_, rfl⟩
        obtain ⟨hG, hb5⟩ := Rec.new (R := spRec) rfl HSC.out.2.2.1 hw5
        rw [← hw5]
        clear hw5 hy
        obtain ⟨g7, hg7⟩ : ∃ g, g = wr.heap.size := ⟨_, rfl⟩
        rw [← hg7] at hG ⊢
        clear hg7
        replace hb := hb.trans (hb5.mono hb.size)
        clear hb5
        obtain ⟨ws, hws⟩ : ∃ x, x = w5.drew := ⟨_, rfl⟩
        have hbs : Below w5.heap.size w5 ws := by rw [hws]; exact (Below.refl _ _).drew
        have hBs := hb.trans (hbs.mono hb.size)
        have HGs := Lib.hid (hG.under hbs hG.lt)
        have HHs := Lib.hid (hH.under hBs hH.lt)
        have HCs := Lib.hid (HC3.out.below hBs)
        have HKs := Lib.hid (HK3.out.below hBs)
        obtain ⟨o, ho⟩ : ∃ o, o = Lk.opens s c id := ⟨_, rfl⟩
        have HO := Lib.hid ho
        clear ho hG
        refine wp_region_held_drew (S := Held ws) (by kernel_rfl) (by rw [hws]; exact Held.refl _) (fun hHeld => ?_)
        rw [← hws] at hHeld ⊢
        clear hws hbs
        refine take_at 0 25 rfl rfl (by kernel_rfl) (by kernel_rfl) (by kernel_rfl) (fun _ _ _ h => h) hHeld (yieldsIf_load_agg (by rfl) 28 (.tmp 7) rfl _ _ (by rfl) (fun wq hSw => (HGs.out.under hSw HGs.out.lt).load_agg (P := Tryd.prog) (t := 28) Tryd.underlying28 rfl (spRec.size_eq size_spend HSC.out.2.2.1))) rfl ?_
        simp only [List.set_cons_zero, List.set_cons_succ]
        refine take_at (v := ?_) 1 26 rfl rfl (by kernel_rfl) (by kernel_rfl) (by kernel_rfl) (fun _ _ _ h => h) hHeld (Or.inl ⟨by rfl, ?_⟩) rfl ?_
        rotate_left
        · intro wq hSw
          go_simp
          try with_reducible rfl
        simp only [List.set_cons_zero, List.set_cons_succ]
        refine take_at (v := ?_) 2 27 rfl rfl (by kernel_rfl) (by kernel_rfl) (by kernel_rfl) (fun _ _ _ h => h) hHeld (Or.inl ⟨by rfl, ?_⟩) rfl ?_
        rotate_left
        · intro wq hSw
          go_simp
          try with_reducible rfl
        simp only [List.set_cons_zero, List.set_cons_succ]
        refine take_at (v := ?_) 3 28 rfl rfl (by kernel_rfl) (by kernel_rfl) (by kernel_rfl) (fun _ _ _ h => h) hHeld (Or.inl ⟨by rfl, ?_⟩) rfl ?_
        rotate_left
        · intro wq hSw
          go_simp
          try with_reducible rfl
        simp only [List.set_cons_zero, List.set_cons_succ]
        refine take_at 4 29 rfl rfl (by kernel_rfl) (by kernel_rfl) (by kernel_rfl) (fun _ _ _ h => h) hHeld (yieldsIf_load_agg (by rfl) 30 (.tmp 28) rfl _ _ (by rfl) (fun wq hSw => coins_at (HCs.out.below hSw) HSC.out.2.1)) rfl ?_
        simp only [List.set_cons_zero, List.set_cons_succ]
        refine take_at 5 30 rfl rfl (by kernel_rfl) (by kernel_rfl) (by kernel_rfl) (fun _ _ _ h => h) hHeld (yieldsIf_load_agg (by rfl) 23 (.tmp 5) rfl _ _ (by rfl) (fun wq hSw => (HHs.out.under hSw HHs.out.lt).load_agg (P := Tryd.prog) (t := 23) Tryd.underlying23 rfl (size_hash' HID.out.2))) rfl ?_
        simp only [List.set_cons_zero, List.set_cons_succ]
        refine wpAnyH_ready (rs := [6]) (by kernel_rfl) (by simp) ?_
        refine AllReadyH.cons rfl (fun K hK => ?_) AllReadyH.nil
        go_simp
        go_at_call 11; refine (popens_any s c id ws HSC.out.2.2.1 HSC.out.2.2.2 HID.out.2 HKs.out).mono ?_; rw [← HO.out]; rintro e k1 ⟨rfl, hk1⟩
        refine hK.out _ _ (Held.of hk1) (fun _ => ?_)
        clear hK K
        try simp only [Act.put, List.setIfInBounds_toArray, List.set_cons_zero, List.set_cons_succ]
        refine held_grow (w1 := k1) (Held.of hk1) ?_
        clear hHeld
        have hHeld : Held k1 k1 := Held.refl _
        refine take_at (v := ?_) 7 32 rfl rfl (by kernel_rfl) (by kernel_rfl) (by kernel_rfl) (fun _ _ _ h => h) hHeld (Or.inl ⟨by rfl, ?_⟩) rfl ?_
        rotate_left
        · intro wq hSw
          go_simp
          try with_reducible rfl
        simp only [List.set_cons_zero, List.set_cons_succ]
        refine wpAnyH_done (by kernel_rfl) ?_ _
        cases o
        · have HE := Lib.hid (show z = 10 by
            rw [HZ.out, Lk.check, if_pos (by rw [HN.out.1, HN.out.2]), if_neg]
            intro h
            have h2 := h i s c HSC.out.1 HSC.out.2.1
            rw [HID.out.1, ← HO.out] at h2
            cases h2)
          go_wp2
          go_ret
          exact ⟨by rw [HE.out]; rfl, hw13.trans ((hBs.trans (hk1.mono hBs.size)).mono hw13.size)⟩
        · have HB2 := Lib.hid (show ∀ (j : Nat) (s : Tx.Sp) (c : Tx.Co), j < i + 1 → t.sp[j]? = some s → cl[j]? = some c → Lk.opens s c (Tx.idOf false t) = true from fun j u v hj hu hv => by
            rcases Nat.lt_or_ge j i with h | h
            · exact HB.out j u v h hu hv
            · have e2 : j = i := by omega
              subst e2
              rw [HSC.out.1] at hu
              rw [HSC.out.2.1] at hv
              injection hu with hu
              injection hv with hv
              subst hu
              subst hv
              rw [HID.out.1]
              exact HO.out.symm)
          go_wp2
          go_roundw
          case rel => exact ⟨i + 1, by omega, by go_num, HB2, hBs.trans (hk1.mono hBs.size)⟩
          case measure => (simp [intOf]; try omega)
      · have hii : ¬ (i : Int) < (cn : Int) := by omega
        have HE := Lib.hid (show z = 0 by
          rw [HZ.out, Lk.check, if_pos (by rw [HN.out.1, HN.out.2]), if_pos]
          exact fun j s c hs hc => HB.out j s c (by have h9 : j < t.sp.length := (List.getElem?_eq_some_iff.1 hs).1; rw [HN.out.1] at h9; omega) hs hc)
        go_wp2
        go_ret
        exact ⟨by rw [HE.out]; rfl, hw13.trans (hb.mono hw13.size)⟩
  · have HE := Lib.hid (show z = 1 by rw [HZ.out, Lk.check, if_neg (by rw [HN.out.1, HN.out.2]; exact hne)])
    have hnn : ((cn : Int) != (n : Int)) = true := by simp; omega
    go_enter Tryd.func18, Tryd.ntmps18
    go_upto_region 1 with fail
    rw [← HW.out, ← HG.out]
    go_wp2
    go_ret
    exact ⟨by rw [HE.out]; rfl, hb1⟩
end Go.Proofs.YtcedecljbgailaaDoor
