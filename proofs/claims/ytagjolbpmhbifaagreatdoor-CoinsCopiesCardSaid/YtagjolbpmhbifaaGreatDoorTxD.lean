/- package tx: Same, Copy; what the premise asks (mktxd.py) -/
import Derived.Test.YtagjolbpmhbifaaGreatDoorTxy
import Derived.Test.YtagjolbpmhbifaaGreatDoorTxz
namespace Go.Proofs.YtagjolbpmhbifaaGreatDoor
open Go Go.RowKit Go.ChangeShapes Go.WideShapes
set_option maxRecDepth 100000 in
set_option maxHeartbeats 16000000 in
theorem clone_sp (a : Option Addr) (n c : Nat) (L : List Tx.Sp) (w : World) (h : Recs spRec w a n L) (hc : a = none → c = 0) (hn : n ≤ 1000000000) :
    Calls Tryz.prog 67 #[.slice a n c] w fun e w' => ∃ v, e = .returned v ∧ OwnR spRec 75 w.heap.size w' v L ∧ Below w.heap.size w w' := by
  cases a with
  | none =>
    obtain rfl := hc rfl
    have h0 : n = 0 := by
      rcases Nat.eq_zero_or_pos n with h0 | h0
      · exact h0
      · obtain ⟨s, hs⟩ := h.get h0
        obtain ⟨_, e, _⟩ := h.2.2.2 0 s hs
        cases e
    subst h0
    obtain rfl := List.length_eq_zero_iff.1 h.1
    have hq := Lib.run_eql_slice_nil (P := Tryz.prog) w 36 75 none 0 0 0 0 Tryz.underlying36
    go_enter Tryz.func67, Tryz.ntmps67
    go_wp2
    go_ret
    exact ⟨_, rfl, OwnR.nil _ _ _ _, Below.refl _ _⟩
  | some x =>
    have HB := Lib.hid ((Below.refl w.heap.size w).alloc (Nat.le_refl _) (.cells #[] 75))
    have HO := Lib.hid (show OwnR spRec 75 w.heap.size (w.alloc (.cells #[] 75)) (.slice (some ⟨w.heap.size, 0, none⟩) 0 0) [] from OwnR.empty (Nat.le_refl _) (Has.fresh _ _ _))
    have HA := Lib.hid (h.past (.cells #[] 75))
    have HN := Lib.hid hn
    have hq := Lib.run_eql_slice_nil (P := Tryz.prog) w 36 75 (some x) n c 0 0 Tryz.underlying36
    clear h hn hc
    go_enter Tryz.func67, Tryz.ntmps67
    go_wp2_with (at_builtin; refine wpList_append_recs (R := spRec) rfl (.tmp 5) (.tmp 6) 36 rfl 75 Tryz.underlying36 info_spend rfl (by decide) w.heap.size _ [] rfl HO.out (some x) n c L rfl HA.out (fun e => by cases e) (by have := HN.out; simp; omega) (by simp) ?_; intro v3 w3 ho3 hg3 hl3)
    go_ret
    rw [List.nil_append] at ho3
    exact ⟨_, rfl, ho3, below_own_recs HB.out hg3 HO.out.lt⟩
set_option maxRecDepth 100000 in
set_option maxHeartbeats 16000000 in
theorem clone_co (a : Option Addr) (n c : Nat) (L : List Tx.Co) (w : World) (h : Recs coRec w a n L) (hc : a = none → c = 0) (hn : n ≤ 1000000000) :
    Calls Tryz.prog 68 #[.slice a n c] w fun e w' => ∃ v, e = .returned v ∧ OwnR coRec 35 w.heap.size w' v L ∧ Below w.heap.size w w' := by
  cases a with
  | none =>
    obtain rfl := hc rfl
    have h0 : n = 0 := by
      rcases Nat.eq_zero_or_pos n with h0 | h0
      · exact h0
      · obtain ⟨s, hs⟩ := h.get h0
        obtain ⟨_, e, _⟩ := h.2.2.2 0 s hs
        cases e
    subst h0
    obtain rfl := List.length_eq_zero_iff.1 h.1
    have hq := Lib.run_eql_slice_nil (P := Tryz.prog) w 37 35 none 0 0 0 0 Tryz.underlying37
    go_enter Tryz.func68, Tryz.ntmps68
    go_wp2
    go_ret
    exact ⟨_, rfl, OwnR.nil _ _ _ _, Below.refl _ _⟩
  | some x =>
    have HB := Lib.hid ((Below.refl w.heap.size w).alloc (Nat.le_refl _) (.cells #[] 35))
    have HO := Lib.hid (show OwnR coRec 35 w.heap.size (w.alloc (.cells #[] 35)) (.slice (some ⟨w.heap.size, 0, none⟩) 0 0) [] from OwnR.empty (Nat.le_refl _) (Has.fresh _ _ _))
    have HA := Lib.hid (h.past (.cells #[] 35))
    have HN := Lib.hid hn
    have hq := Lib.run_eql_slice_nil (P := Tryz.prog) w 37 35 (some x) n c 0 0 Tryz.underlying37
    clear h hn hc
    go_enter Tryz.func68, Tryz.ntmps68
    go_wp2_with (at_builtin; refine wpList_append_recs (R := coRec) rfl (.tmp 5) (.tmp 6) 37 rfl 35 Tryz.underlying37 info_coin rfl (by decide) w.heap.size _ [] rfl HO.out (some x) n c L rfl HA.out (fun e => by cases e) (by have := HN.out; simp; omega) (by simp) ?_; intro v3 w3 ho3 hg3 hl3)
    go_ret
    rw [List.nil_append] at ho3
    exact ⟨_, rfl, ho3, below_own_recs HB.out hg3 HO.out.lt⟩
set_option maxRecDepth 100000 in
set_option maxHeartbeats 16000000 in
theorem pcopy_any (a : Option Addr) (n q : Nat) (b : Option Addr) (m r : Nat) (t : Tx.T) (f : Bool) (hf : f = t.firm) (w : World) (ht : TxAt w a n q b m r t) (hn : n ≤ 1000000000) (hm : m ≤ 1000000000) :
    Calls Tryz.prog 41 #[txv a n q b m r f] w (CopyPost n m t w) := by
  have HF := Lib.hid hf
  obtain ⟨W1, hW1⟩ : ∃ x, x = (w.alloc (.cells #[.slice a n q, .slice b m r, .bool f] 39)).alloc (.cells zTx 39) := ⟨_, rfl⟩
  have hBw : Below w.heap.size w W1 := by
    rw [hW1]
    exact ((Below.refl _ w).alloc (Nat.le_refl _) _).alloc (by simp) _
  have hX : Has W1 w.heap.size 39 #[.slice a n q, .slice b m r, .bool f] := by rw [hW1]; exact (Has.fresh w _ _).past _
  have hR : Has W1 (w.heap.size + 1) 39 zTx := by rw [hW1]; exact Has.fresh_at _ _ _ (by simp)
  have HW := Lib.hid hW1
  have HN := Lib.hid (And.intro hn hm)
  clear hW1 hf hn hm
  go_enter Tryz.func41, Tryz.ntmps41
  go_upto_region 1 with fail
  rw [← HW.out]
  obtain ⟨g1, hg1⟩ : ∃ g, g = w.heap.size := ⟨_, rfl⟩
  have HG := Lib.hid hg1
  rw [← hg1] at hX hR ⊢
  clear hg1
  obtain ⟨ws, hws⟩ : ∃ x, x = W1.drew := ⟨_, rfl⟩
  have hbs : Below W1.heap.size W1 ws := by rw [hws]; exact (Below.refl _ _).drew
  have HXs := Lib.hid (hX.under hbs hX.lt)
  have HRs := Lib.hid (hR.under hbs hR.lt)
  have hBs := hBw.trans (hbs.mono hBw.size)
  have HTs := Lib.hid (ht.below hBs)
  refine wp_region_held_drew (S := HeldM (fun k => k = g1 + 1) ws) (by kernel_rfl) (by rw [hws]; exact HeldM.refl _ _) (fun hHeld => ?_)
  rw [← hws] at hHeld ⊢
  clear hws hbs hX hR ht
  refine take_at (v := ?_) 0 3 rfl rfl (by kernel_rfl) (by kernel_rfl) (by kernel_rfl) (fun _ _ _ h => h) hHeld (Or.inl ⟨by rfl, ?_⟩) rfl ?_
  rotate_left
  · intro wq hSw
    go_simp
    try with_reducible rfl
  simp only [List.set_cons_zero, List.set_cons_succ]
  refine take_at (v := ?_) 1 4 rfl rfl (by kernel_rfl) (by kernel_rfl) (by kernel_rfl) (fun _ _ _ h => h) hHeld (Or.inl ⟨by rfl, ?_⟩) rfl ?_
  rotate_left
  · intro wq hSw
    have hst := (HXs.out.moved hSw.out (fun e => absurd e (Nat.ne_of_lt (Nat.lt_succ_self _)))).cell_at (i := 0) rfl
    go_simp
    try with_reducible rfl
  simp only [List.set_cons_zero, List.set_cons_succ]
  refine take_at (v := ?_) 3 6 rfl rfl (by kernel_rfl) (by kernel_rfl) (by kernel_rfl) (fun _ _ _ h => h) hHeld (Or.inl ⟨by rfl, ?_⟩) rfl ?_
  rotate_left
  · intro wq hSw
    go_simp
    try with_reducible rfl
  simp only [List.set_cons_zero, List.set_cons_succ]
  refine take_at (v := ?_) 4 7 rfl rfl (by kernel_rfl) (by kernel_rfl) (by kernel_rfl) (fun _ _ _ h => h) hHeld (Or.inl ⟨by rfl, ?_⟩) rfl ?_
  rotate_left
  · intro wq hSw
    have hst := (HXs.out.moved hSw.out (fun e => absurd e (Nat.ne_of_lt (Nat.lt_succ_self _)))).cell_at (i := 1) rfl
    go_simp
    try with_reducible rfl
  simp only [List.set_cons_zero, List.set_cons_succ]
  refine take_at (v := ?_) 6 9 rfl rfl (by kernel_rfl) (by kernel_rfl) (by kernel_rfl) (fun _ _ _ h => h) hHeld (Or.inl ⟨by rfl, ?_⟩) rfl ?_
  rotate_left
  · intro wq hSw
    go_simp
    try with_reducible rfl
  simp only [List.set_cons_zero, List.set_cons_succ]
  refine take_at (v := ?_) 7 10 rfl rfl (by kernel_rfl) (by kernel_rfl) (by kernel_rfl) (fun _ _ _ h => h) hHeld (Or.inl ⟨by rfl, ?_⟩) rfl ?_
  rotate_left
  · intro wq hSw
    have hst := (HXs.out.moved hSw.out (fun e => absurd e (Nat.ne_of_lt (Nat.lt_succ_self _)))).cell_at (i := 2) rfl
    go_simp
    try with_reducible rfl
  simp only [List.set_cons_zero, List.set_cons_succ]
  refine wpAnyH_ready (rs := [2]) (by kernel_rfl) (by simp) ?_
  refine AllReadyH.cons rfl (fun K hK => ?_) AllReadyH.nil
  go_simp
  go_at_call 67; refine (clone_sp a n q t.sp ws HTs.out.sp HTs.out.q0 HN.out.1).mono ?_; rintro e w2 ⟨v2, rfl, ho2, hb2⟩; obtain ⟨oa, oc, rfl, _, _, _, _⟩ := ho2.shape HTs.out.sp.1
  refine hK.out _ _ (HeldM.of (Moved.of_below hb2)) (fun _ => ?_)
  clear hK K
  try simp only [Act.put, List.setIfInBounds_toArray, List.set_cons_zero, List.set_cons_succ]
  refine heldM_grow (w1 := w2) (Moved.of_below hb2) ?_
  clear hHeld
  have hHeld : HeldM (fun k => k = g1 + 1) w2 w2 := HeldM.refl _ _
  refine wpAnyH_ready (rs := [5]) (by kernel_rfl) (by simp) ?_
  refine AllReadyH.cons rfl (fun K hK => ?_) AllReadyH.nil
  go_simp
  go_at_call 68; refine (clone_co b m r t.co w2 (HTs.out.co.below hb2) HTs.out.r0 HN.out.2).mono ?_; rintro e w3 ⟨v3, rfl, ho3, hb3⟩; obtain ⟨ob, od, rfl, _, _, _, _⟩ := ho3.shape HTs.out.co.1
  refine hK.out _ _ (HeldM.of (Moved.of_below hb3)) (fun _ => ?_)
  clear hK K
  try simp only [Act.put, List.setIfInBounds_toArray, List.set_cons_zero, List.set_cons_succ]
  refine heldM_grow (w1 := w3) (Moved.of_below hb3) ?_
  clear hHeld
  have hHeld : HeldM (fun k => k = g1 + 1) w3 w3 := HeldM.refl _ _
  have hB3 := hb2.trans (hb3.mono hb2.size)
  have hR3 := HRs.out.under hB3 HRs.out.lt
  refine take_at (v := ?_) 8 11 rfl rfl (by kernel_rfl) (by kernel_rfl) (by kernel_rfl) (fun _ _ _ h => h) hHeld (Or.inl ⟨by rfl, ?_⟩) rfl ?_
  rotate_left
  · intro wq hSw
    go_simp
    try with_reducible rfl
  simp only [List.set_cons_zero, List.set_cons_succ]
  refine wpAnyH_ready (rs := [9]) (by kernel_rfl) (by simp) ?_
  refine AllReadyH.cons rfl (fun K hK => ?_) AllReadyH.nil
  refine step_store_row (by rfl) 39 (.tmp 2) (.tmp 11) rfl (g1 + 1) 0 (#[.slice oa n oc, .slice ob m od, .bool f]) (by first | rfl | simp [Act.eval]) (by first | rfl | simp [Act.eval]) (hR3.there 0 3 (Nat.le_refl _)) (by kernel_rfl) (vRec.all_one ⟨oa, n, oc, ob, m, od, ⟨[], [], f⟩⟩) rfl ?_
  obtain ⟨w6, hw6⟩ : ∃ ww, ww = w3.setCells (g1 + 1) 0 (#[.slice oa n oc, .slice ob m od, .bool f]).toList := ⟨_, rfl⟩
  rw [← hw6]
  have hmw6 : Moved (fun k => k = g1 + 1) w3 w6 := by rw [hw6]; exact Moved.putAll (F := fun k => k = g1 + 1) (.inl rfl) _ 0 (Moved.refl _ _)
  refine hK.out _ _ (HeldM.of hmw6) (fun _ => ?_)
  clear hK K
  refine heldM_grow (w1 := w6) hmw6 ?_
  clear hHeld
  have hHeld : HeldM (fun k => k = g1 + 1) w6 w6 := HeldM.refl _ _
  refine wpAnyH_done (by kernel_rfl) ?_ _
  go_wp2
  have hw7 : w6 = w3.setCells (g1 + 1) 0 [.slice oa n oc, .slice ob m od, .bool f] := hw6
  rw [← hw7]
  have hR6 : Has w6 (g1 + 1) 39 #[.slice oa n oc, .slice ob m od, .bool f] := by rw [hw6]; exact hR3.whole_cs rfl
  have hM6 : Moved (fun k => k = g1 + 1) w3 w6 := by rw [hw6]; exact Moved.putAll (F := fun k => k = g1 + 1) (.inl rfl) _ 0 (Moved.refl _ _)
  have hlt := HRs.out.lt
  have ho6 := (ho2.below hb3).moved hM6 (fun k hk e => by have := ho2.lt k hk; omega)
  have hc6 := ho3.moved hM6 (fun k hk e => by have := ho3.lt k hk; have := hb2.size; omega)
  have hBB := hBs.trans (hB3.mono hBs.size)
  refine bodyPost_ret (results_one_cell rfl _ _ (g1 + 1) rfl _ (hR6.load_var Tryz.underlying39 rfl (by kernel_rfl))) rfl ⟨oa, oc, ob, od, by rw [HF.out], ⟨ho6.low hBs.size, hc6.low (Nat.le_trans hBs.size hb2.size)⟩, ?_⟩
  rw [hw6]
  exact below_setAll (by have := HG.out; omega) _ 0 hBB
end Go.Proofs.YtagjolbpmhbifaaGreatDoor
