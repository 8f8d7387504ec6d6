/- DigestTrees over the premise -/
import Derived.Test.YtopeicgcpfcccaaDoorDgK
import Derived.Test.YtopeicgcpfcccaaDoorDgT
import Derived.Test.YtopeicgcpfcccaaDoorEq
namespace Go.Proofs.YtopeicgcpfcccaaDoor
open Go Go.RowKit Go.ChangeShapes Go.WideShapes
set_option maxRecDepth 100000 in
set_option maxHeartbeats 16000000 in
theorem digestTreesWalkK {KD : World → Prop} (ok : DigestOk KD) {H : Type} {enc : TypeId × Value → H} (W : World) (base : Nat) (v0 : Value) (d0 : DataW H) (p0 : List MemPlace)
    (o0 : Value.okWide Tryd.prog W .any base 33 v0) (h0 : DataW.Trod enc Tryd.prog W 0 (fun _ => true) true 33 v0 d0 p0) (hK : KD W) (hT : Tab32 W 1 Dg.kL) :
    Calls Tryd.prog 5 #[v0] W fun e w' => e = .returned (.bool true) ∧ Below W.heap.size W w' := by
  obtain ⟨a, n, c, L, rfl, hR, hnc, hc0⟩ := arg_rows8 Tryd.underlying33 Tryd.underlying25 Tryd.underlying5 (by kernel_rfl) (by kernel_rfl) o0 h0
  clear o0 h0
  have hmx : n ≤ 9223372036854775807 := hR.2.1
  have HL := Lib.hid hR.1
  by_cases g1 : (12 : Int) < (n : Int)
  · go_enter Tryd.func5, Tryd.ntmps5
    go_wp2_with (first | (go_at_call 8; refine (alive07 ok W hK).mono ?_; rintro e w1 ⟨rfl, hb1⟩))
    go_ret
    exact ⟨rfl, hb1⟩
  · have hn : n ≤ 12 := by omega
    go_enter Tryd.func5, Tryd.ntmps5
    go_upto_region 5 with (first | (go_at_call 8; refine (alive07 ok W hK).mono ?_; rintro e w1 ⟨rfl, hb1⟩))
    have hR1 := hR.below hb1
    go_upto_region 6 with (first
      | (at_builtin; have hoE : OwnH 25 w1.heap.size (w1.alloc (.cells #[] 25)) (.slice (some ⟨w1.heap.size, 0, none⟩) 0 0) [] := OwnH.empty (Nat.le_refl _) (Has.fresh w1 _ _); refine wpList_append_rows rfl (.tmp 11) (.tmp 12) 33 rfl 25 Tryd.underlying33 info_hash w1.heap.size _ [] rfl hoE a n c L rfl (hR1.past _) hc0 (by simp; omega) (by simp) ?_; intro va w2 ho2 hg2; rw [List.nil_append] at ho2; have hB2 := below_own_rowh ((Below.refl w1.heap.size w1).alloc (Nat.le_refl _) _) hg2 hoE.lt; have hT2 := hb1.trans (hB2.mono hb1.size); obtain ⟨oa, oc, rfl, hoc, ho0, how⟩ := ho2.shape HL.out))
    clear hoE hg2 hB2 hR1
    obtain ⟨S, hS⟩ : ∃ x, x = Dg.tree L := ⟨_, rfl⟩
    have HS := Lib.hid (And.intro hS (show S.length = 32 by rw [hS]; exact Dg.tree_len _ _ hR.2.2.1))
    have hC := ok.tree oa n oc L w2 (ok.stay hK hT2) how hoc ho0 (by omega)
    rw [← hS] at hC
    have HC := Lib.hid hC
    clear hC hS
    go_upto_region 7 with (first
      | (refine wpList_store_mid rfl 25 (.tmp 4) (.tmp 15) rfl w4.heap.size 0 (blist S).toArray rfl rfl (there_new w4 25 HS.out.2) (size_hash' HS.out.2) (one_hash S) ?_)
      | (go_at_call 15; refine HC.out.mono ?_; rintro e w4 ⟨rfl, hb4⟩))
    obtain ⟨w5, hw5⟩ : ∃ x, x = (w4.alloc (.cells z32 25)).setCells w4.heap.size 0 (blist S) := ⟨_, rfl⟩
    rw [← hw5]
    obtain ⟨hD5, hB5⟩ := hash_new HS.out.2 hw5
    have hT4 := hT2.trans (hb4.mono hT2.size)
    have hT5 := hT4.trans (hB5.mono hT4.size)
    have ho5 := (how.below hb4).below hB5
    clear hw5 hT4 how hT2
    go_wp2_with fail
    go_loopw [18] (fun iv wr => ∃ i : Nat, i ≤ n ∧ iv = .int .i64 i ∧ Below w5.heap.size w5 wr) (fun iv _ => n - (intOf iv).toNat)
    case atStart => exact ⟨0, Nat.zero_le _, rfl, Below.refl _ _⟩
    case round =>
      obtain ⟨i, hi, rfl, hb⟩ := hrel
      by_cases hlt : i < n
      · have hii : (i : Int) < (n : Int) := by omega
        have hi0 : (0 : Int) ≤ (i : Int) := by omega
        obtain ⟨x, hx⟩ : ∃ x, x = L.getD i [] := ⟨_, rfl⟩
        have HX := Lib.hid (show x.length = 32 by rw [hx]; exact hR.len hlt)
        have hR5 := hR.below hT5
        obtain ⟨xo, rfl, _⟩ := ho5.2.2.2 i hlt
        obtain ⟨xa, rfl, _⟩ := hR5.2.2.2 i hlt
        have HRUN := Lib.hid (And.intro
          (show ∀ wq : World, Below w5.heap.size w5 wq → (Instr.loadAt 25 (.pointer (some (xo.add (i * 32))))).run Tryd.prog wq = .ok (.agg (blist x).toArray) wq from fun wq h => by
            obtain ⟨x', e, h'⟩ := (ho5.below h).load (P := Tryd.prog) Tryd.underlying25 (by kernel_rfl) hlt
            injection e with e
            subst e
            rw [hx]
            exact h')
          (show ∀ wq : World, Below w5.heap.size w5 wq → (Instr.loadAt 25 (.pointer (some (xa.add (i * 32))))).run Tryd.prog wq = .ok (.agg (blist x).toArray) wq from fun wq h => by
            obtain ⟨x', e, h'⟩ := (hR5.below h).load (P := Tryd.prog) Tryd.underlying25 (by kernel_rfl) hlt
            injection e with e
            subst e
            rw [hx]
            exact h'))
        clear hx
        go_upto_region 10 with fail
        refine wp_region_held_drew (S := Held w5) (by kernel_rfl) (Held.of hb.drew) (fun hHeld => ?_)
        refine take_at (v := ?_) 0 21 rfl rfl (by kernel_rfl) (by kernel_rfl) (by kernel_rfl) (fun _ _ _ h => h) hHeld (Or.inl ⟨by rfl, ?_⟩) rfl ?_
        rotate_left
        · intro wq hSw
          go_simp
          try with_reducible rfl
        simp only [List.set_cons_zero, List.set_cons_succ]
        refine take_at (v := ?_) 1 22 rfl rfl (by kernel_rfl) (by kernel_rfl) (by kernel_rfl) (fun _ _ _ h => h) hHeld (Or.inl ⟨by rfl, ?_⟩) rfl ?_
        rotate_left
        · intro wq hSw
          go_simp
          try with_reducible rfl
        simp only [List.set_cons_zero, List.set_cons_succ]
        refine take_at (v := ?_) 2 23 rfl rfl (by kernel_rfl) (by kernel_rfl) (by kernel_rfl) (fun _ _ _ h => h) hHeld (Or.inl ⟨by rfl, ?_⟩) rfl ?_
        rotate_left
        · intro wq hSw
          go_simp
          try with_reducible rfl
        simp only [List.set_cons_zero, List.set_cons_succ]
        refine take_at 3 24 rfl rfl (by kernel_rfl) (by kernel_rfl) (by kernel_rfl) (fun _ _ _ h => h) hHeld (yieldsIf_load_run (by rfl) 25 (.tmp 23) rfl _ _ (by rfl) (fun wq hSw => HRUN.out.1 wq hSw.below)) rfl ?_
        simp only [List.set_cons_zero, List.set_cons_succ]
        refine take_at (v := ?_) 4 25 rfl rfl (by kernel_rfl) (by kernel_rfl) (by kernel_rfl) (fun _ _ _ h => h) hHeld (Or.inl ⟨by rfl, ?_⟩) rfl ?_
        rotate_left
        · intro wq hSw
          go_simp
          try with_reducible rfl
        simp only [List.set_cons_zero, List.set_cons_succ]
        refine take_at (v := ?_) 5 26 rfl rfl (by kernel_rfl) (by kernel_rfl) (by kernel_rfl) (fun _ _ _ h => h) hHeld (Or.inl ⟨by rfl, ?_⟩) rfl ?_
        rotate_left
        · intro wq hSw
          go_simp
          try with_reducible rfl
        simp only [List.set_cons_zero, List.set_cons_succ]
        refine take_at (v := ?_) 6 27 rfl rfl (by kernel_rfl) (by kernel_rfl) (by kernel_rfl) (fun _ _ _ h => h) hHeld (Or.inl ⟨by rfl, ?_⟩) rfl ?_
        rotate_left
        · intro wq hSw
          go_simp
          try with_reducible rfl
        simp only [List.set_cons_zero, List.set_cons_succ]
        refine take_at 7 28 rfl rfl (by kernel_rfl) (by kernel_rfl) (by kernel_rfl) (fun _ _ _ h => h) hHeld (yieldsIf_load_run (by rfl) 25 (.tmp 27) rfl _ _ (by rfl) (fun wq hSw => HRUN.out.2 wq hSw.below)) rfl ?_
        simp only [List.set_cons_zero, List.set_cons_succ]
        refine take_at 8 29 rfl rfl (by kernel_rfl) (by kernel_rfl) (by kernel_rfl) (fun _ _ _ h => h) hHeld (yieldsIf_neq_same (by rfl) 25 5 25 32 (.tmp 24) (.tmp 28) rfl x (by rfl) (by rfl) (by kernel_rfl) Tryd.underlying25 Tryd.underlying5 (by kernel_rfl) HX.out) rfl ?_
        simp only [List.set_cons_zero, List.set_cons_succ]
        refine wpAnyH_done (by kernel_rfl) ?_ _
        go_wp2_with fail
        go_roundw
        case rel => exact ⟨i + 1, by omega, by go_num, hb.drew⟩
        case measure => (simp [intOf]; try omega)
      · have hii : ¬ (i : Int) < (n : Int) := by omega
        have hDr := hD5.under hb hD5.lt
        have hTr := hT5.trans (hb.mono hT5.size)
        clear hlt hi
        go_upto_region 13 with fail
        refine wp_region_held_drew (S := Held wr.drew) (by kernel_rfl) (Held.refl _) (fun hHeld => ?_)
        obtain ⟨wd, hwd⟩ : ∃ x, x = wr.drew := ⟨_, rfl⟩
        rw [← hwd] at hHeld ⊢
        have hDd : Has wd w4.heap.size 25 (blist S).toArray := by rw [hwd]; exact hDr.draw
        have hTd : Below W.heap.size W wd := by rw [hwd]; exact hTr.drew
        clear hwd
        refine take_at (v := .agg (blist S).toArray) 0 31 rfl rfl (by kernel_rfl) (by kernel_rfl) (by kernel_rfl) (fun _ _ _ h => h) hHeld (yieldsIf_load_mid (by rfl) 25 (.tmp 4) rfl w4.heap.size 0 (by rfl) (blist S) _ (fun wq hSw => Has.range8 (hDd.under hSw hDd.lt)) Tryd.underlying25 rfl (size_hash HS.out.2)) rfl ?_
        simp only [List.set_cons_zero, List.set_cons_succ]
        refine take_at (v := ?_) 1 32 rfl rfl (by kernel_rfl) (by kernel_rfl) (by kernel_rfl) (fun _ _ _ h => h) hHeld (Or.inl ⟨by rfl, ?_⟩) rfl ?_
        rotate_left
        · intro wq hSw
          go_simp
          try with_reducible rfl
        simp only [List.set_cons_zero, List.set_cons_succ]
        refine wpAnyH_ready (rs := [2]) (by kernel_rfl) (by simp) ?_
        refine AllReadyH.cons rfl (fun K hK => ?_) AllReadyH.nil
        go_simp
        go_at_call 16; refine (rtree_any n a n c L wd (Nat.le_refl _) (hR.below hTd) (by omega) hc0 (hT.below hTd)).mono ?_; rw [← HS.out.1]; rintro e w6 ⟨rfl, hb6⟩
        refine hK.out _ _ (Held.of hb6) (fun _ => ?_)
        clear hK K
        try simp only [Act.put, List.setIfInBounds_toArray, List.set_cons_zero, List.set_cons_succ]
        replace hHeld := Held.of hb6
        refine take_at 3 34 rfl rfl (by kernel_rfl) (by kernel_rfl) (by kernel_rfl) (fun _ _ _ h => h) hHeld (yieldsIf_eql_same (by rfl) 25 5 25 32 (.tmp 31) (.tmp 33) rfl S (by rfl) (by rfl) (by kernel_rfl) Tryd.underlying25 Tryd.underlying5 (by kernel_rfl) HS.out.2) rfl ?_
        simp only [List.set_cons_zero, List.set_cons_succ]
        refine take_at (v := ?_) 4 2 rfl rfl (by kernel_rfl) (by kernel_rfl) (by kernel_rfl) (fun _ _ _ h => h) hHeld (Or.inl ⟨by rfl, ?_⟩) rfl ?_
        rotate_left
        · intro wq hSw
          go_simp
          try with_reducible rfl
        simp only [List.set_cons_zero, List.set_cons_succ]
        refine wpAnyH_done (by kernel_rfl) ?_ _
        go_wp2_with fail
        go_ret
        exact ⟨rfl, hTd.trans (hb6.mono hTd.size)⟩
end Go.Proofs.YtopeicgcpfcccaaDoor
