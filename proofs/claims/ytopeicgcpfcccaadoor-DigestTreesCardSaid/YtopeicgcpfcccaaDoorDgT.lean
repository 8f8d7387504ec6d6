/- the reference's Double, Tree -/
import Derived.Test.YtopeicgcpfcccaaDoorDgS
import Derived.Test.YtopeicgcpfcccaaDoorDgB
import Derived.Test.YtopeicgcpfcccaaDoorHr
import Derived.Test.YtopeicgcpfcccaaDoorAz
namespace Go.Proofs.YtopeicgcpfcccaaDoor
open Go Go.RowKit Go.ChangeShapes Go.WideShapes
set_option maxRecDepth 100000 in
set_option maxHeartbeats 4000000 in
theorem rdouble_any (ad : Option Addr) (n cp : Nat) (l : List (BitVec 8)) (w : World) (hw : Bytes8 w ad n l) (hn : n ≤ 1000000) (hc0 : ad = none → cp = 0) (hT : Tab32 w 1 Dg.kL) :
    Calls Tryd.prog 12 #[.slice ad n cp] w fun e w' => e = .returned (.agg (blist (Dg.double l)).toArray) ∧ Below w.heap.size w w' := by
  go_enter Tryd.func12, Tryd.ntmps12
  go_upto_region 1 with fail
  obtain ⟨w0, hw0⟩ : ∃ x, x = w.alloc (.cells z32 25) := ⟨_, rfl⟩
  rw [← hw0]
  have hR0 : Has w0 w.heap.size 25 z32 := by rw [hw0]; exact Has.fresh _ _ _
  have hB0 : Below w.heap.size w w0 := by rw [hw0]; exact (Below.refl _ _).alloc (Nat.le_refl _) _
  have hT0 := hT.below hB0
  clear hw0
  have hsz := size_hash' (Dg.double_len l)
  have hone := one_hash (Dg.double l)
  have HT := Lib.hid (And.intro hsz hone)
  clear hsz hone
  go_wp2_with (first
    | (refine wpList_store_mid rfl 25 (.tmp 2) (.tmp 6) rfl w.heap.size 0 (blist (Dg.double l)).toArray rfl rfl hth HT.out.1 HT.out.2 ?_)
    | (go_at_call 10; refine (rsum_any a2 32 c2 (Dg.sum l) w2 hby2 (by omega) hc2 hT2).mono ?_; rintro e w3 ⟨rfl, hb3⟩; have hR3 := hR2.under hb3 hR2.lt; have hB3 := hB2.trans (hb3.mono hB2.size); have hth := hR3.there 0 (blist (Dg.double l)).toArray.size (by rw [List.size_toArray, blist_length, Dg.double_len]; decide))
    | (go_at_call 23; refine (rbytes_any (Dg.sum l) (Dg.sum_len l) w1).mono ?_; rintro e w2 ⟨v2, rfl, ho2, hb2⟩; obtain ⟨a2, c2, rfl, _, hc2, hby2⟩ := ho2.shape (Dg.sum_len l); have hR2 := hR1.under hb2 hR1.lt; have hB2 := hB1.trans (hb2.mono hB1.size); have hT2 := hT1.below hb2)
    | (go_at_call 10; refine (rsum_any ad n cp l w0 (hw.below hB0) hn hc0 hT0).mono ?_; rintro e w1 ⟨rfl, hb1⟩; have hR1 := hR0.under hb1 hR0.lt; have hB1 := hB0.trans (hb1.mono hB0.size); have hT1 := hT0.below hb1))
  have hE := hR3.whole (l := Dg.double l) (by rw [Dg.double_len]; rfl)
  have hS := size_hash (Dg.double_len l)
  exact bodyPost_ret (results_one_cell rfl _ _ w.heap.size rfl _ (run_loadVar_mid _ _ 0 25 _ _ hE.range Tryd.underlying25 rfl hS)) rfl ⟨rfl, below_setAll (Nat.le_refl _) _ 0 hB3⟩
theorem z32_tree : z32 = (blist (Dg.tree [])).toArray := by rfl
set_option maxRecDepth 100000 in
set_option maxHeartbeats 4000000 in
theorem rtree_zero (a : Option Addr) (c : Nat) (w : World) :
    Calls Tryd.prog 16 #[.slice a 0 c] w fun e w' => e = .returned (.agg (blist (Dg.tree [])).toArray) ∧ Below w.heap.size w w' := by
  have hl0 : (Dg.tree []).length = 32 := rfl
  go_enter Tryd.func16, Tryd.ntmps16
  go_upto_region 1 with fail
  obtain ⟨w0, hw0⟩ : ∃ x, x = w.alloc (.cells z32 25) := ⟨_, rfl⟩
  rw [← hw0]
  have hR0 : Has w0 w.heap.size 25 z32 := by rw [hw0]; exact Has.fresh _ _ _
  have hB0 : Below w.heap.size w w0 := by rw [hw0]; exact (Below.refl _ _).alloc (Nat.le_refl _) _
  clear hw0
  have hth := hR0.there 0 (blist (Dg.tree [])).toArray.size (by rw [List.size_toArray, blist_length, hl0]; decide)
  have HT := Lib.hid (And.intro hth (And.intro (size_hash' hl0) (one_hash (Dg.tree []))))
  clear hth
  go_wp2_with (first
    | (refine wpList_store_mid rfl 25 (.tmp 2) (.tmp 9) rfl w.heap.size 0 (blist (Dg.tree [])).toArray rfl rfl HT.out.1 HT.out.2.1 HT.out.2.2 ?_))
  have hE := hR0.whole (l := Dg.tree []) (by rw [hl0]; rfl)
  exact bodyPost_ret (results_one_cell rfl _ _ w.heap.size rfl _ (run_loadVar_mid _ _ 0 25 _ _ hE.range Tryd.underlying25 rfl (size_hash hl0))) rfl ⟨rfl, below_setAll (Nat.le_refl _) _ 0 hB0⟩
set_option maxRecDepth 100000 in
set_option maxHeartbeats 4000000 in
theorem rtree_one (a : Option Addr) (c : Nat) (L : List (List (BitVec 8))) (w : World) (hR : Rows8 32 w a 1 L) :
    Calls Tryd.prog 16 #[.slice a 1 c] w fun e w' => e = .returned (.agg (blist (Dg.tree L)).toArray) ∧ Below w.heap.size w w' := by
  obtain ⟨l, rfl⟩ : ∃ l, L = [l] := by
    match L, hR.1 with
    | [l], _ => exact ⟨l, rfl⟩
  have hl0 : l.length = 32 := hR.2.2.1 l (by simp)
  have HTR := Lib.hid (show Dg.tree [l] = l from rfl)
  go_enter Tryd.func16, Tryd.ntmps16
  go_upto_region 1 with fail
  obtain ⟨w0, hw0⟩ : ∃ x, x = w.alloc (.cells z32 25) := ⟨_, rfl⟩
  rw [← hw0]
  have hR0 : Has w0 w.heap.size 25 z32 := by rw [hw0]; exact Has.fresh _ _ _
  have hB0 : Below w.heap.size w w0 := by rw [hw0]; exact (Below.refl _ _).alloc (Nat.le_refl _) _
  clear hw0
  obtain ⟨x, rfl, hx⟩ := (hR.below hB0).load (P := Tryd.prog) Tryd.underlying25 (by kernel_rfl) (i := 0) (by omega)
  rw [Nat.zero_mul] at hx
  replace hx : (Instr.loadAt 25 (.pointer (some (x.add 0)))).run Tryd.prog w0 = .ok (.agg (blist l).toArray) w0 := hx
  have hth := hR0.there 0 (blist l).toArray.size (by rw [List.size_toArray, blist_length, hl0]; decide)
  have HT := Lib.hid (And.intro hth (And.intro (size_hash' hl0) (one_hash l)))
  have HL := Lib.hid hl0
  clear hth hl0 hR
  go_wp2_with (first
    | (refine wpList_store_mid rfl 25 (.tmp 2) (.tmp 15) rfl w.heap.size 0 (blist l).toArray rfl rfl HT.out.1 HT.out.2.1 HT.out.2.2 ?_)
    | (refine wpList_load_run rfl 25 (.tmp 14) rfl _ _ rfl hx ?_))
  have hE := hR0.whole (l := l) (by rw [HL.out]; rfl)
  rw [HTR.out]
  exact bodyPost_ret (results_one_cell rfl _ _ w.heap.size rfl _ (run_loadVar_mid _ _ 0 25 _ _ hE.range Tryd.underlying25 rfl (size_hash HL.out))) rfl ⟨rfl, below_setAll (Nat.le_refl _) _ 0 hB0⟩
set_option maxRecDepth 100000 in
set_option maxHeartbeats 4000000 in
theorem rtree_any : ∀ (N : Nat) (a : Option Addr) (n c : Nat) (L : List (List (BitVec 8))) (w : World), n ≤ N → Rows8 32 w a n L → n ≤ 1000 → (a = none → c = 0) → Tab32 w 1 Dg.kL →
    Calls Tryd.prog 16 #[.slice a n c] w fun e w' => e = .returned (.agg (blist (Dg.tree L)).toArray) ∧ Below w.heap.size w w' := by
  intro N
  induction N with
  | zero =>
    intro a n c L w hN hR hn hc hT
    obtain rfl : n = 0 := by omega
    obtain rfl : L = [] := List.length_eq_zero_iff.1 hR.1
    exact rtree_zero a c w
  | succ N ih =>
    intro a n c L w hN hR hn hc hT
    rcases Nat.lt_or_ge n 2 with h2 | h2
    · rcases Nat.eq_zero_or_pos n with h0 | h0
      · subst h0
        obtain rfl : L = [] := List.length_eq_zero_iff.1 hR.1
        exact rtree_zero a c w
      · obtain rfl : n = 1 := by omega
        exact rtree_one a c L w hR
    · have hLn := hR.1
      have HL := Lib.hid hLn
      have h0 : ((n : Int) == 0) = false := by simpa using (show ¬ ((n : Int) = 0) by omega)
      have h1 : ((n : Int) == 1) = false := by simpa using (show ¬ ((n : Int) = 1) by omega)
      have h0' : ¬ ((n : Int) = 0) := by omega
      have h1' : ¬ ((n : Int) = 1) := by omega
      clear hLn
      go_enter Tryd.func16, Tryd.ntmps16
      go_upto_region 1 with fail
      obtain ⟨w0, hw0⟩ : ∃ x, x = w.alloc (.cells z32 25) := ⟨_, rfl⟩
      rw [← hw0]
      have hR0 : Has w0 w.heap.size 25 z32 := by rw [hw0]; exact Has.fresh _ _ _
      have hB0 : Below w.heap.size w w0 := by rw [hw0]; exact (Below.refl _ _).alloc (Nat.le_refl _) _
      have hT0 := hT.below hB0
      clear hw0
      go_wp2_with fail
      go_loopw [3, 4] (fun bv iv wr => ∃ k : Nat, 2 * k ≤ n + 1 ∧ iv = .int .i64 ((2 * k : Nat) : Int) ∧ OwnH 25 w0.heap.size wr bv ((Dg.up L).take k) ∧ Below w0.heap.size w0 wr) (fun _ iv _ => n + 2 - (intOf iv).toNat)
      case atStart => exact ⟨0, Nat.zero_le _, rfl, OwnH.nil _ _ _, Below.refl _ _⟩
      case round =>
        obtain ⟨k, hk, rfl, ho, hb⟩ := hrel
        obtain ⟨p, hp⟩ : ∃ p, p = 2 * k := ⟨_, rfl⟩
        rw [← hp] at hk ⊢
        have HP := Lib.hid hp
        clear hp
        have hRr := (hR.below hB0).below hb
        have hTr := hT0.below hb
        by_cases hlt : p < n
        · have hpi : (p : Int) < (n : Int) := by omega
          have hp0 : (0 : Int) ≤ (p : Int) := by omega
          obtain ⟨p1, hp1⟩ : ∃ p1, p1 = p + 1 := ⟨_, rfl⟩
          have hp1i : (p : Int) + 1 = (p1 : Int) := by omega
          have hp1w : IntKind.i64.wrap (p1 : Int) = (p1 : Int) := IntWalk.i64_in _ (by omega)
          have hp10 : (0 : Int) ≤ (p1 : Int) := by omega
          have HP1 := Lib.hid hp1
          obtain ⟨x, rfl, _⟩ := hRr.2.2.2 p hlt
          obtain ⟨l1, hl1⟩ : ∃ l, l = L.getD p [] := ⟨_, rfl⟩
          have hll1 : l1.length = 32 := by rw [hl1]; exact hRr.len hlt
          have hlu : ((Dg.up L).take k).length + 1 ≤ 1099511627776 := by have := HP.out; rw [List.length_take]; omega
          by_cases hpn : p1 = n
          · have hq1 : ((p1 : Int) == (n : Int)) = true := by simpa using (show (p1 : Int) = (n : Int) by omega)
            have hqn : p < n := hlt
            obtain ⟨l2, hl2⟩ : ∃ l, l = L.getD p [] := ⟨_, rfl⟩
            have hll2 : l2.length = 32 := by rw [hl2]; exact hRr.len hqn
            have HLL := Lib.hid (And.intro hll1 hll2)
            have HUP := Lib.hid (Dg.up_take (L := L) (k := k) (by have := HP.out; have := HL.out; omega) l1 l2 (by rw [hl1, HP.out]) (by rw [hl2, if_pos (by have := HP.out; have := HL.out; omega), HP.out]))
            have HPQ := Lib.hid (And.intro hlt (And.intro hqn (And.intro hl1 hl2)))
            clear hlt hqn hl1 hl2 hll1 hll2 hp1 hpn
            go_upto_region 12 with fail
            refine wp_region_held_drew (S := Held w0) (by kernel_rfl) (Held.of hb.drew) (fun hHeld => ?_)
            obtain ⟨wd, hwd⟩ : ∃ x, x = wr.drew := ⟨_, rfl⟩
            rw [← hwd] at hHeld ⊢
            have hTd : Tab32 wd 1 Dg.kL := by rw [hwd]; exact hTr.draw
            have hod : OwnH 25 w0.heap.size wd u3 ((Dg.up L).take k) := by rw [hwd]; exact ho.draws 1
            have hbd : Below w0.heap.size w0 wd := by rw [hwd]; exact hb.drew
            clear hwd
            have HRUN := Lib.hid (show ∀ (i : Nat) (wq : World), Below w0.heap.size w0 wq → i < n → ∀ l, l = L.getD i [] → (Instr.loadAt 25 (.pointer (some (x.add (i * 32))))).run Tryd.prog wq = .ok (.agg (blist l).toArray) wq from fun i wq h hi l hl => by
              obtain ⟨x', e, hx⟩ := ((hR.below hB0).below h).load (P := Tryd.prog) Tryd.underlying25 (by kernel_rfl) hi
              injection e with e
              subst e
              rw [hl]
              exact hx)
            have hCwd : Below wd.heap.size wd wd := Below.refl _ _
            refine take_at (v := ?_) 0 29 rfl rfl (by kernel_rfl) (by kernel_rfl) (by kernel_rfl) (fun _ _ _ h => h) hHeld (Or.inl ⟨by rfl, ?_⟩) rfl ?_
            rotate_left
            · intro wq hSw
              go_simp
              try with_reducible rfl
            simp only [List.set_cons_zero, List.set_cons_succ]
            refine take_at (v := ?_) 1 30 rfl rfl (by kernel_rfl) (by kernel_rfl) (by kernel_rfl) (fun _ _ _ h => h) hHeld (Or.inl ⟨by rfl, ?_⟩) rfl ?_
            rotate_left
            · intro wq hSw
              go_simp
              try with_reducible rfl
            simp only [List.set_cons_zero, List.set_cons_succ]
            refine take_at (v := ?_) 2 31 rfl rfl (by kernel_rfl) (by kernel_rfl) (by kernel_rfl) (fun _ _ _ h => h) hHeld (Or.inl ⟨by rfl, ?_⟩) rfl ?_
            rotate_left
            · intro wq hSw
              go_simp
              try with_reducible rfl
            simp only [List.set_cons_zero, List.set_cons_succ]
            refine take_at (v := ?_) 3 32 rfl rfl (by kernel_rfl) (by kernel_rfl) (by kernel_rfl) (fun _ _ _ h => h) hHeld (Or.inl ⟨by rfl, ?_⟩) rfl ?_
            rotate_left
            · intro wq hSw
              go_simp
              try with_reducible rfl
            simp only [List.set_cons_zero, List.set_cons_succ]
            refine take_at (v := ?_) 6 35 rfl rfl (by kernel_rfl) (by kernel_rfl) (by kernel_rfl) (fun _ _ _ h => h) hHeld (Or.inl ⟨by rfl, ?_⟩) rfl ?_
            rotate_left
            · intro wq hSw
              go_simp
              try with_reducible rfl
            simp only [List.set_cons_zero, List.set_cons_succ]
            refine take_at (v := ?_) 7 36 rfl rfl (by kernel_rfl) (by kernel_rfl) (by kernel_rfl) (fun _ _ _ h => h) hHeld (Or.inl ⟨by rfl, ?_⟩) rfl ?_
            rotate_left
            · intro wq hSw
              go_simp
              try with_reducible rfl
            simp only [List.set_cons_zero, List.set_cons_succ]
            refine take_at (v := ?_) 8 37 rfl rfl (by kernel_rfl) (by kernel_rfl) (by kernel_rfl) (fun _ _ _ h => h) hHeld (Or.inl ⟨by rfl, ?_⟩) rfl ?_
            rotate_left
            · intro wq hSw
              go_simp
              try with_reducible rfl
            simp only [List.set_cons_zero, List.set_cons_succ]
            refine take_at 4 33 rfl rfl (by kernel_rfl) (by kernel_rfl) (by kernel_rfl) (fun _ _ _ h => h) hHeld (yieldsIf_load_run (by rfl) 25 (.tmp 32) rfl _ _ (by rfl) (fun wq hSw => HRUN.out p wq hSw.below HPQ.out.1 l1 HPQ.out.2.2.1)) rfl ?_
            simp only [List.set_cons_zero, List.set_cons_succ]
            refine take_at 9 38 rfl rfl (by kernel_rfl) (by kernel_rfl) (by kernel_rfl) (fun _ _ _ h => h) hHeld (yieldsIf_load_run (by rfl) 25 (.tmp 37) rfl _ _ (by rfl) (fun wq hSw => HRUN.out p wq hSw.below HPQ.out.2.1 l2 HPQ.out.2.2.2)) rfl ?_
            simp only [List.set_cons_zero, List.set_cons_succ]
            refine wpAnyH_ready (rs := [5]) (by kernel_rfl) (by simp) ?_
            refine AllReadyH.cons rfl (fun K hK => ?_) AllReadyH.nil
            go_simp
            go_at_call 23; refine (rbytes_any l1 HLL.out.1 wd).mono ?_; rintro e w5 ⟨v5, rfl, ho5, hb5⟩; obtain ⟨a5, c5, rfl, _, _, _⟩ := ho5.shape HLL.out.1; have hCw5 := hCwd.trans (hb5.mono hCwd.size); have hDw5 := hbd.trans (hCw5.mono hbd.size)
            refine hK.out _ _ (Held.of hDw5) (fun _ => ?_)
            clear hK K
            try simp only [Act.put, List.setIfInBounds_toArray, List.set_cons_zero, List.set_cons_succ]
            replace hHeld := Held.of hDw5
            refine wpAnyH_ready (rs := [10]) (by kernel_rfl) (by simp) ?_
            refine AllReadyH.cons rfl (fun K hK => ?_) AllReadyH.nil
            go_simp
            go_at_call 23; refine (rbytes_any l2 HLL.out.2 w5).mono ?_; rintro e w6 ⟨v6, rfl, ho6, hb6⟩; obtain ⟨a6, c6, rfl, _, hc6, hby6⟩ := ho6.shape HLL.out.2; have hCw6 := hCw5.trans (hb6.mono hCw5.size); have ho5' := ho5.below hb6; have hDw6 := hbd.trans (hCw6.mono hbd.size)
            refine hK.out _ _ (Held.of hDw6) (fun _ => ?_)
            clear hK K
            try simp only [Act.put, List.setIfInBounds_toArray, List.set_cons_zero, List.set_cons_succ]
            replace hHeld := Held.of hDw6
            refine wpAnyH_ready (rs := [11]) (by kernel_rfl) (by simp) ?_
            refine AllReadyH.cons rfl (fun K hK => ?_) AllReadyH.nil
            refine step_append_bytes (by rfl) (.tmp 34) (.tmp 39) 22 rfl 5 Tryd.underlying22 info_byte wd.heap.size _ l1 (by simp [Act.eval]) ho5' a6 32 c6 l2 (by simp [Act.eval]) hby6 hc6 (by have := HLL.out.1; omega) hCw6.size ?_
            intro v7 w7 ho7 hg7 _
            have hCw7 : Below wd.heap.size wd w7 := below_own_rowb hCw6 hg7 ho5'.lt
            obtain ⟨a7, c7, rfl, _, hc7, hby7⟩ := ho7.shape (K := 64) (by rw [List.length_append, HLL.out.1, HLL.out.2])
            have hDw7 := hbd.trans (hCw7.mono hbd.size)
            refine hK.out _ _ (Held.of hDw7) (fun _ => ?_)
            clear hK K
            try simp only [Act.put]
            try simp only [List.setIfInBounds_toArray]
            try simp only [List.set_cons_zero, List.set_cons_succ]
            replace hHeld := Held.of hDw7
            refine wpAnyH_ready (rs := [12]) (by kernel_rfl) (by simp) ?_
            refine AllReadyH.cons rfl (fun K hK => ?_) AllReadyH.nil
            go_simp
            go_at_call 12; refine (rdouble_any a7 64 c7 (l1 ++ l2) w7 hby7 (by omega) hc7 (hTd.below hCw7)).mono ?_; rintro e w8 ⟨rfl, hb8⟩; obtain ⟨dd, hdd⟩ : ∃ x, x = Dg.double (l1 ++ l2) := ⟨_, rfl⟩; rw [← hdd]; have HDD := Lib.hid (And.intro hdd (show dd.length = 32 by rw [hdd]; exact Dg.double_len _)); clear hdd; have hCw8 := hCw7.trans (hb8.mono hCw7.size); have hDw8 := hbd.trans (hCw8.mono hbd.size)
            refine hK.out _ _ (Held.of hDw8) (fun _ => ?_)
            clear hK K
            try simp only [Act.put, List.setIfInBounds_toArray, List.set_cons_zero, List.set_cons_succ]
            replace hHeld := Held.of hDw8
            refine wpAnyH_ready (rs := [13]) (by kernel_rfl) (by simp) ?_
            refine AllReadyH.cons rfl (fun K hK => ?_) AllReadyH.nil
            refine step_build_hash (by rfl) (.tmp 41) 33 rfl 25 Tryd.underlying33 info_hash dd HDD.out.2 (by simp [Act.eval]) ?_
            have hDw8a := hDw8.alloc hDw8.size (.cells (blist dd).toArray 25)
            refine hK.out _ _ (Held.of hDw8a) (fun _ => ?_)
            clear hK K
            try simp only [Act.put]
            try simp only [List.setIfInBounds_toArray]
            try simp only [List.set_cons_zero, List.set_cons_succ]
            replace hHeld := Held.of hDw8a
            have hob8 := hod.below hCw8
            refine wpAnyH_ready (rs := [14]) (by kernel_rfl) (by simp) ?_
            refine AllReadyH.cons rfl (fun K hK => ?_) AllReadyH.nil
            refine step_append_hash (by rfl) (.tmp 29) (.tmp 42) 33 rfl 25 Tryd.underlying33 info_hash w0.heap.size _ _ (by simp [Act.eval]) hob8 dd HDD.out.2 _ rfl (by simp [Act.eval]) hlu hDw8.size ?_
            intro v9 w9 ho9 hg9
            have hCw9 : Below w0.heap.size w0 w9 := below_own_rowh (hDw8.alloc hDw8.size _) hg9 hob8.lt
            refine hK.out _ _ (Held.of hCw9) (fun _ => ?_)
            clear hK K
            try simp only [Act.put]
            try simp only [List.setIfInBounds_toArray]
            try simp only [List.set_cons_zero, List.set_cons_succ]
            replace hHeld := Held.of hCw9
            refine take_at (v := ?_) 15 3 rfl rfl (by kernel_rfl) (by kernel_rfl) (by kernel_rfl) (fun _ _ _ h => h) hHeld (Or.inl ⟨by rfl, ?_⟩) rfl ?_
            rotate_left
            · intro wq hSw
              go_simp
              try with_reducible rfl
            try simp only [List.set_cons_zero, List.set_cons_succ]
            refine wpAnyH_done (by kernel_rfl) ?_ _
            go_wp2_with fail
            go_roundw
            case rel => exact ⟨k + 1, by have := HP.out; have := HPQ.out.1; omega, by have := HP.out; go_num, by rw [HUP.out, ← HDD.out.1]; exact ho9, hCw9⟩
            case measure => have := HPQ.out.1; (simp [intOf]; try omega)
          · have hq1 : ((p1 : Int) == (n : Int)) = false := by simpa using (show ¬ (p1 : Int) = (n : Int) by omega)
            have hqn : p1 < n := by omega
            have hp1n : (p1 : Int) < (n : Int) := by omega
            obtain ⟨l2, hl2⟩ : ∃ l, l = L.getD p1 [] := ⟨_, rfl⟩
            have hll2 : l2.length = 32 := by rw [hl2]; exact hRr.len hqn
            have HLL := Lib.hid (And.intro hll1 hll2)
            have HUP := Lib.hid (Dg.up_take (L := L) (k := k) (by have := HP.out; have := HL.out; omega) l1 l2 (by rw [hl1, HP.out]) (by rw [hl2, if_neg (by have := HP.out; have := HL.out; have := HP1.out; omega), HP1.out, HP.out]))
            have HPQ := Lib.hid (And.intro hlt (And.intro hqn (And.intro hl1 hl2)))
            clear hlt hqn hl1 hl2 hll1 hll2 hp1 hpn
            go_upto_region 12 with fail
            refine wp_region_held_drew (S := Held w0) (by kernel_rfl) (Held.of hb.drew) (fun hHeld => ?_)
            obtain ⟨wd, hwd⟩ : ∃ x, x = wr.drew := ⟨_, rfl⟩
            rw [← hwd] at hHeld ⊢
            have hTd : Tab32 wd 1 Dg.kL := by rw [hwd]; exact hTr.draw
            have hod : OwnH 25 w0.heap.size wd u3 ((Dg.up L).take k) := by rw [hwd]; exact ho.draws 1
            have hbd : Below w0.heap.size w0 wd := by rw [hwd]; exact hb.drew
            clear hwd
            have HRUN := Lib.hid (show ∀ (i : Nat) (wq : World), Below w0.heap.size w0 wq → i < n → ∀ l, l = L.getD i [] → (Instr.loadAt 25 (.pointer (some (x.add (i * 32))))).run Tryd.prog wq = .ok (.agg (blist l).toArray) wq from fun i wq h hi l hl => by
              obtain ⟨x', e, hx⟩ := ((hR.below hB0).below h).load (P := Tryd.prog) Tryd.underlying25 (by kernel_rfl) hi
              injection e with e
              subst e
              rw [hl]
              exact hx)
            have hCwd : Below wd.heap.size wd wd := Below.refl _ _
            refine take_at (v := ?_) 0 29 rfl rfl (by kernel_rfl) (by kernel_rfl) (by kernel_rfl) (fun _ _ _ h => h) hHeld (Or.inl ⟨by rfl, ?_⟩) rfl ?_
            rotate_left
            · intro wq hSw
              go_simp
              try with_reducible rfl
            simp only [List.set_cons_zero, List.set_cons_succ]
            refine take_at (v := ?_) 1 30 rfl rfl (by kernel_rfl) (by kernel_rfl) (by kernel_rfl) (fun _ _ _ h => h) hHeld (Or.inl ⟨by rfl, ?_⟩) rfl ?_
            rotate_left
            · intro wq hSw
              go_simp
              try with_reducible rfl
            simp only [List.set_cons_zero, List.set_cons_succ]
            refine take_at (v := ?_) 2 31 rfl rfl (by kernel_rfl) (by kernel_rfl) (by kernel_rfl) (fun _ _ _ h => h) hHeld (Or.inl ⟨by rfl, ?_⟩) rfl ?_
            rotate_left
            · intro wq hSw
              go_simp
              try with_reducible rfl
            simp only [List.set_cons_zero, List.set_cons_succ]
            refine take_at (v := ?_) 3 32 rfl rfl (by kernel_rfl) (by kernel_rfl) (by kernel_rfl) (fun _ _ _ h => h) hHeld (Or.inl ⟨by rfl, ?_⟩) rfl ?_
            rotate_left
            · intro wq hSw
              go_simp
              try with_reducible rfl
            simp only [List.set_cons_zero, List.set_cons_succ]
            refine take_at (v := ?_) 6 35 rfl rfl (by kernel_rfl) (by kernel_rfl) (by kernel_rfl) (fun _ _ _ h => h) hHeld (Or.inl ⟨by rfl, ?_⟩) rfl ?_
            rotate_left
            · intro wq hSw
              go_simp
              try with_reducible rfl
            simp only [List.set_cons_zero, List.set_cons_succ]
            refine take_at (v := ?_) 7 36 rfl rfl (by kernel_rfl) (by kernel_rfl) (by kernel_rfl) (fun _ _ _ h => h) hHeld (Or.inl ⟨by rfl, ?_⟩) rfl ?_
            rotate_left
            · intro wq hSw
              go_simp
              try with_reducible rfl
            simp only [List.set_cons_zero, List.set_cons_succ]
            refine take_at (v := ?_) 8 37 rfl rfl (by kernel_rfl) (by kernel_rfl) (by kernel_rfl) (fun _ _ _ h => h) hHeld (Or.inl ⟨by rfl, ?_⟩) rfl ?_
            rotate_left
            · intro wq hSw
              go_simp
              try with_reducible rfl
            simp only [List.set_cons_zero, List.set_cons_succ]
            refine take_at 4 33 rfl rfl (by kernel_rfl) (by kernel_rfl) (by kernel_rfl) (fun _ _ _ h => h) hHeld (yieldsIf_load_run (by rfl) 25 (.tmp 32) rfl _ _ (by rfl) (fun wq hSw => HRUN.out p wq hSw.below HPQ.out.1 l1 HPQ.out.2.2.1)) rfl ?_
            simp only [List.set_cons_zero, List.set_cons_succ]
            refine take_at 9 38 rfl rfl (by kernel_rfl) (by kernel_rfl) (by kernel_rfl) (fun _ _ _ h => h) hHeld (yieldsIf_load_run (by rfl) 25 (.tmp 37) rfl _ _ (by rfl) (fun wq hSw => HRUN.out p1 wq hSw.below HPQ.out.2.1 l2 HPQ.out.2.2.2)) rfl ?_
            simp only [List.set_cons_zero, List.set_cons_succ]
            refine wpAnyH_ready (rs := [5]) (by kernel_rfl) (by simp) ?_
            refine AllReadyH.cons rfl (fun K hK => ?_) AllReadyH.nil
            go_simp
            go_at_call 23; refine (rbytes_any l1 HLL.out.1 wd).mono ?_; rintro e w5 ⟨v5, rfl, ho5, hb5⟩; obtain ⟨a5, c5, rfl, _, _, _⟩ := ho5.shape HLL.out.1; have hCw5 := hCwd.trans (hb5.mono hCwd.size); have hDw5 := hbd.trans (hCw5.mono hbd.size)
            refine hK.out _ _ (Held.of hDw5) (fun _ => ?_)
            clear hK K
            try simp only [Act.put, List.setIfInBounds_toArray, List.set_cons_zero, List.set_cons_succ]
            replace hHeld := Held.of hDw5
            refine wpAnyH_ready (rs := [10]) (by kernel_rfl) (by simp) ?_
            refine AllReadyH.cons rfl (fun K hK => ?_) AllReadyH.nil
            go_simp
            go_at_call 23; refine (rbytes_any l2 HLL.out.2 w5).mono ?_; rintro e w6 ⟨v6, rfl, ho6, hb6⟩; obtain ⟨a6, c6, rfl, _, hc6, hby6⟩ := ho6.shape HLL.out.2; have hCw6 := hCw5.trans (hb6.mono hCw5.size); have ho5' := ho5.below hb6; have hDw6 := hbd.trans (hCw6.mono hbd.size)
            refine hK.out _ _ (Held.of hDw6) (fun _ => ?_)
            clear hK K
            try simp only [Act.put, List.setIfInBounds_toArray, List.set_cons_zero, List.set_cons_succ]
            replace hHeld := Held.of hDw6
            refine wpAnyH_ready (rs := [11]) (by kernel_rfl) (by simp) ?_
            refine AllReadyH.cons rfl (fun K hK => ?_) AllReadyH.nil
            refine step_append_bytes (by rfl) (.tmp 34) (.tmp 39) 22 rfl 5 Tryd.underlying22 info_byte wd.heap.size _ l1 (by simp [Act.eval]) ho5' a6 32 c6 l2 (by simp [Act.eval]) hby6 hc6 (by have := HLL.out.1; omega) hCw6.size ?_
            intro v7 w7 ho7 hg7 _
            have hCw7 : Below wd.heap.size wd w7 := below_own_rowb hCw6 hg7 ho5'.lt
            obtain ⟨a7, c7, rfl, _, hc7, hby7⟩ := ho7.shape (K := 64) (by rw [List.length_append, HLL.out.1, HLL.out.2])
            have hDw7 := hbd.trans (hCw7.mono hbd.size)
            refine hK.out _ _ (Held.of hDw7) (fun _ => ?_)
            clear hK K
            try simp only [Act.put]
            try simp only [List.setIfInBounds_toArray]
            try simp only [List.set_cons_zero, List.set_cons_succ]
            replace hHeld := Held.of hDw7
            refine wpAnyH_ready (rs := [12]) (by kernel_rfl) (by simp) ?_
            refine AllReadyH.cons rfl (fun K hK => ?_) AllReadyH.nil
            go_simp
            go_at_call 12; refine (rdouble_any a7 64 c7 (l1 ++ l2) w7 hby7 (by omega) hc7 (hTd.below hCw7)).mono ?_; rintro e w8 ⟨rfl, hb8⟩; obtain ⟨dd, hdd⟩ : ∃ x, x = Dg.double (l1 ++ l2) := ⟨_, rfl⟩; rw [← hdd]; have HDD := Lib.hid (And.intro hdd (show dd.length = 32 by rw [hdd]; exact Dg.double_len _)); clear hdd; have hCw8 := hCw7.trans (hb8.mono hCw7.size); have hDw8 := hbd.trans (hCw8.mono hbd.size)
            refine hK.out _ _ (Held.of hDw8) (fun _ => ?_)
            clear hK K
            try simp only [Act.put, List.setIfInBounds_toArray, List.set_cons_zero, List.set_cons_succ]
            replace hHeld := Held.of hDw8
            refine wpAnyH_ready (rs := [13]) (by kernel_rfl) (by simp) ?_
            refine AllReadyH.cons rfl (fun K hK => ?_) AllReadyH.nil
            refine step_build_hash (by rfl) (.tmp 41) 33 rfl 25 Tryd.underlying33 info_hash dd HDD.out.2 (by simp [Act.eval]) ?_
            have hDw8a := hDw8.alloc hDw8.size (.cells (blist dd).toArray 25)
            refine hK.out _ _ (Held.of hDw8a) (fun _ => ?_)
            clear hK K
            try simp only [Act.put]
            try simp only [List.setIfInBounds_toArray]
            try simp only [List.set_cons_zero, List.set_cons_succ]
            replace hHeld := Held.of hDw8a
            have hob8 := hod.below hCw8
            refine wpAnyH_ready (rs := [14]) (by kernel_rfl) (by simp) ?_
            refine AllReadyH.cons rfl (fun K hK => ?_) AllReadyH.nil
            refine step_append_hash (by rfl) (.tmp 29) (.tmp 42) 33 rfl 25 Tryd.underlying33 info_hash w0.heap.size _ _ (by simp [Act.eval]) hob8 dd HDD.out.2 _ rfl (by simp [Act.eval]) hlu hDw8.size ?_
            intro v9 w9 ho9 hg9
            have hCw9 : Below w0.heap.size w0 w9 := below_own_rowh (hDw8.alloc hDw8.size _) hg9 hob8.lt
            refine hK.out _ _ (Held.of hCw9) (fun _ => ?_)
            clear hK K
            try simp only [Act.put]
            try simp only [List.setIfInBounds_toArray]
            try simp only [List.set_cons_zero, List.set_cons_succ]
            replace hHeld := Held.of hCw9
            refine take_at (v := ?_) 15 3 rfl rfl (by kernel_rfl) (by kernel_rfl) (by kernel_rfl) (fun _ _ _ h => h) hHeld (Or.inl ⟨by rfl, ?_⟩) rfl ?_
            rotate_left
            · intro wq hSw
              go_simp
              try with_reducible rfl
            try simp only [List.set_cons_zero, List.set_cons_succ]
            refine wpAnyH_done (by kernel_rfl) ?_ _
            go_wp2_with fail
            go_roundw
            case rel => exact ⟨k + 1, by have := HP.out; have := HPQ.out.1; omega, by have := HP.out; go_num, by rw [HUP.out, ← HDD.out.1]; exact ho9, hCw9⟩
            case measure => have := HPQ.out.1; (simp [intOf]; try omega)
        · have hpi : ¬ (p : Int) < (n : Int) := by omega
          have hkk : k = (Dg.up L).length := by have := HP.out; have := HL.out; rw [Dg.up_len]; omega
          have hlk : (Dg.up L).length = (n + 1) / 2 := by rw [Dg.up_len, HL.out]
          rw [hkk, List.take_length] at ho
          obtain ⟨K, hK⟩ : ∃ K, K = (n + 1) / 2 := ⟨_, rfl⟩
          obtain ⟨a2, c2, rfl, _, hc2, hR2⟩ := ho.shape (K := K) (by rw [hlk, hK])
          have hKN : K ≤ N := by omega
          have hK1 : K ≤ 1000 := by omega
          have HTU := Lib.hid (Dg.tree_up (L := L) (by rw [HL.out]; exact h2))
          have hlt32 : (Dg.tree (Dg.up L)).length = 32 := Dg.tree_len _ _ (Dg.up_all L)
          have HS := Lib.hid (And.intro (size_hash' hlt32) (And.intro (one_hash (Dg.tree (Dg.up L))) hlt32))
          have hR1 := hR0.under hb hR0.lt
          have hB1 := hB0.trans (hb.mono hB0.size)
          clear hkk hlk hK hlt32 hlt ho
          go_wp2_with (first
            | (refine wpList_store_mid rfl 25 (.tmp 2) (.tmp 45) rfl w.heap.size 0 (blist (Dg.tree (Dg.up L))).toArray rfl rfl hth HS.out.1 HS.out.2.1 ?_)
            | (go_at_call 16; refine (ih a2 K c2 (Dg.up L) wr hKN hR2 hK1 hc2 hTr).mono ?_; rintro e w3 ⟨rfl, hb3⟩; have hR3 := hR1.under hb3 hR1.lt; have hB3 := hB1.trans (hb3.mono hB1.size); have hth := hR3.there 0 (blist (Dg.tree (Dg.up L))).toArray.size (by rw [List.size_toArray, blist_length, HS.out.2.2]; decide)))
          have hE := hR3.whole (l := Dg.tree (Dg.up L)) (by rw [HS.out.2.2]; rfl)
          rw [HTU.out]
          exact bodyPost_ret (results_one_cell rfl _ _ w.heap.size rfl _ (run_loadVar_mid _ _ 0 25 _ _ hE.range Tryd.underlying25 rfl (size_hash HS.out.2.2))) rfl ⟨rfl, below_setAll (Nat.le_refl _) _ 0 hB3⟩


end Go.Proofs.YtopeicgcpfcccaaDoor
