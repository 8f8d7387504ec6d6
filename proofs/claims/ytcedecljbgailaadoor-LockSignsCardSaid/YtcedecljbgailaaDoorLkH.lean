/- LockChecks over the premise (mklkh.py) -/
import Derived.Test.YtcedecljbgailaaDoorLkP
import Derived.Test.YtcedecljbgailaaDoorLz
namespace Go.Proofs.YtcedecljbgailaaDoor
open Go Go.RowKit Go.ChangeShapes Go.WideShapes
/-- package lock's Check, as a premise -/
def LockChk (KD : World → Prop) : Prop := ∀ (a : Option Addr) (n q : Nat) (b : Option Addr) (m r : Nat) (t : Tx.T) (ca : Option Addr) (cn cq : Nat) (cl : List Tx.Co) (w : World), KD w → TxAt w a n q b m r t → Tx.Small t → Recs coRec w ca cn cl → cn ≤ cq ∧ (ca = none → cq = 0) →
  Calls Tryd.prog 18 #[txv a n q b m r t.firm, .slice ca cn cq] w fun e w' => e = .returned (errn (Lk.check t cl)) ∧ Below w.heap.size w w'
set_option maxRecDepth 100000 in
set_option maxHeartbeats 8000000 in
theorem lchecksMain {KD : World → Prop} (ok : LockA KD) (chk : LockChk KD) (a : Option Addr) (n q : Nat) (b : Option Addr) (m r : Nat) (t : Tx.T) (ca : Option Addr) (cn cq : Nat) (cl : List Tx.Co) (W : World) (ht : TxAt W a n q b m r t) (hc : Recs coRec W ca cn cl) (hcq : cn ≤ cq ∧ (ca = none → cq = 0)) (hK : KD W) (hT : Tab32 W 1 Dg.kL) :
    Calls Tryd.prog 5 #[txv a n q b m r t.firm, .slice ca cn cq] W fun e w' => e = .returned (.bool true) ∧ Below W.heap.size W w' := by
  have HAT := Lib.hid ht
  have HCC := Lib.hid hc
  have hcmx : cn ≤ 9223372036854775807 := hc.2.1
  have HKD := Lib.hid (And.intro hK (And.intro hT hcq))
  clear ht hK hT hc hcq
  go_enter Tryd.func5, Tryd.ntmps5
  go_upto_region 1 with fail
  obtain ⟨W1, hW1⟩ : ∃ x, x = W.alloc (.cells #[.slice a n q, .slice b m r, .bool t.firm] 38) := ⟨_, rfl⟩
  have hT1 : Below W.heap.size W W1 := by rw [hW1]; exact (Below.refl _ W).alloc (Nat.le_refl _) _
  have hX : Has W1 W.heap.size 38 #[.slice a n q, .slice b m r, .bool t.firm] := by rw [hW1]; exact Has.fresh W _ _
  rw [← hW1]
  clear hW1
  obtain ⟨g1, hg1⟩ : ∃ g, g = W.heap.size := ⟨_, rfl⟩
  rw [← hg1]
  rw [← hg1] at hX
  clear hg1
  go_upto_region 3 with (go_at_call 6; refine (alive11 ok W1 (ok.stay HKD.out.1 hT1)).mono ?_; rintro e w2 ⟨rfl, hb2⟩)
  have hT2 := hT1.trans (hb2.mono hT1.size)
  replace hX := hX.under hb2 hX.lt
  replace HAT := Lib.hid (HAT.out.below hT2)
  have lX := hX.load_agg (P := Tryd.prog) (t := 38) Tryd.underlying38 rfl (by kernel_rfl)
  obtain ⟨w3, hw3⟩ : ∃ x, x = w2.alloc (.cells #[.slice a n q, .slice b m r, .bool t.firm] 38) := ⟨_, rfl⟩
  have hb3 : Below w2.heap.size w2 w3 := by rw [hw3]; exact (Below.refl _ _).alloc (Nat.le_refl _) _
  have HTS := Lib.hid (show Txs w3 (some ⟨w2.heap.size, 0, none⟩) 1 [⟨a, n, q, b, m, r, t⟩] from
    ⟨recs_fresh (R := vRec) (fun _ _ => trivial) (by rw [hw3]; exact Has.fresh _ _ _) (by show 1 ≤ maxLen; unfold maxLen; omega) (fun j v hj => by rw [List.getElem?_toArray]; exact hj),
      fun x hx => by
        obtain rfl := List.mem_singleton.1 hx
        exact HAT.out.below hb3⟩)
  have HW3 := Lib.hid hw3
  have HX := Lib.hid hX
  clear hw3 hb2 hT1 hX
  go_upto_region 5 with (first
    | (go_at_call 13; rw [← HW3.out]; refine (large_any _ 1 1 _ w3 HTS.out).mono ?_; rintro e w4 ⟨bl, rfl, hsm, hb4⟩; have HSM := Lib.hid hsm; clear hsm; have hb24 := hb3.trans (hb4.mono hb3.size))
    | (refine wpList_load_run rfl 38 (.tmp 2) rfl _ _ rfl lX ?_))
  all_goals try (go_ret; exact ⟨rfl, hT2.trans (hb24.mono hT2.size)⟩)
  have hblf : bl = false := by first | rfl | assumption | simp_all
  have SA := Lib.hid ((HSM.out hblf).2 _ List.mem_cons_self)
  have hT4 := hT2.trans (hb24.mono hT2.size)
  obtain ⟨ws, hws⟩ : ∃ x, x = w4.drew := ⟨_, rfl⟩
  have hbs : Below w4.heap.size w4 ws := by rw [hws]; exact (Below.refl _ _).drew
  have h2s := hb24.trans (hbs.mono hb24.size)
  have hTs := hT4.trans (hbs.mono hT4.size)
  have HTx := Lib.hid (HAT.out.below h2s)
  have HCs := Lib.hid (HCC.out.below hTs)
  have HXs := Lib.hid (HX.out.under h2s HX.out.lt)
  have HKs := Lib.hid (And.intro (ok.stay HKD.out.1 hTs) (HKD.out.2.1.below hTs))
  obtain ⟨z, hz⟩ : ∃ z, z = Lk.check t cl := ⟨_, rfl⟩
  have HZ := Lib.hid hz
  clear hz hbs hblf lX
  refine wp_region_held_drew (S := Held ws) (by kernel_rfl) (by rw [hws]; exact Held.refl _) (fun hHeld => ?_)
  rw [← hws] at hHeld ⊢
  clear hws
  refine take_at 0 15 rfl rfl (by kernel_rfl) (by kernel_rfl) (by kernel_rfl) (fun _ _ _ h => h) hHeld (yieldsIf_load_agg (by rfl) 38 (.tmp 2) rfl _ _ (by rfl) (fun wq hSw => (HXs.out.under (hSw) HXs.out.lt).load_agg (P := Tryd.prog) (t := 38) Tryd.underlying38 rfl (by kernel_rfl))) rfl ?_
  simp only [List.set_cons_zero, List.set_cons_succ]
  refine take_at (v := ?_) 1 16 rfl rfl (by kernel_rfl) (by kernel_rfl) (by kernel_rfl) (fun _ _ _ h => h) hHeld (Or.inl ⟨by rfl, ?_⟩) rfl ?_
  rotate_left
  · intro wq hSw
    go_simp
    try with_reducible rfl
  simp only [List.set_cons_zero, List.set_cons_succ]
  refine take_at 4 19 rfl rfl (by kernel_rfl) (by kernel_rfl) (by kernel_rfl) (fun _ _ _ h => h) hHeld (yieldsIf_load_agg (by rfl) 38 (.tmp 2) rfl _ _ (by rfl) (fun wq hSw => (HXs.out.under (hSw) HXs.out.lt).load_agg (P := Tryd.prog) (t := 38) Tryd.underlying38 rfl (by kernel_rfl))) rfl ?_
  simp only [List.set_cons_zero, List.set_cons_succ]
  refine take_at (v := ?_) 5 20 rfl rfl (by kernel_rfl) (by kernel_rfl) (by kernel_rfl) (fun _ _ _ h => h) hHeld (Or.inl ⟨by rfl, ?_⟩) rfl ?_
  rotate_left
  · intro wq hSw
    go_simp
    try with_reducible rfl
  simp only [List.set_cons_zero, List.set_cons_succ]
  refine wpAnyH_ready (rs := [2]) (by kernel_rfl) (by simp) ?_
  refine AllReadyH.cons rfl (fun K hK => ?_) AllReadyH.nil
  go_simp
  go_at_call 18; refine (chk a n q b m r t ca cn cq cl ws HKs.out.1 HTx.out SA.out HCs.out HKD.out.2.2).mono ?_; rw [← HZ.out]; rintro e k1 ⟨rfl, hk1⟩
  refine hK.out _ _ (Held.of hk1) (fun _ => ?_)
  clear hK K
  try simp only [Act.put, List.setIfInBounds_toArray, List.set_cons_zero, List.set_cons_succ]
  refine held_grow (w1 := k1) (Held.of hk1) ?_
  clear hHeld
  have hHeld : Held k1 k1 := Held.refl _
  refine wpAnyH_ready (rs := [3]) (by kernel_rfl) (by simp) ?_
  refine AllReadyH.cons rfl (fun K hK => ?_) AllReadyH.nil
  go_simp
  go_at_call 21; refine (num_any z k1).mono ?_; rintro e k2 ⟨rfl, rfl⟩
  refine hK.out _ _ hHeld (fun _ => ?_)
  clear hK K
  try simp only [Act.put, List.setIfInBounds_toArray, List.set_cons_zero, List.set_cons_succ]
  refine wpAnyH_ready (rs := [6]) (by kernel_rfl) (by simp) ?_
  refine AllReadyH.cons rfl (fun K hK => ?_) AllReadyH.nil
  go_simp
  go_at_call 22; refine (rlcheck_any a n q b m r t ca cn cq cl k1 (HTx.out.below hk1) SA.out (HCs.out.below hk1) (HKs.out.2.below hk1)).mono ?_; rw [← HZ.out]; rintro e k3 ⟨rfl, hk3⟩
  refine hK.out _ _ (Held.of hk3) (fun _ => ?_)
  clear hK K
  try simp only [Act.put, List.setIfInBounds_toArray, List.set_cons_zero, List.set_cons_succ]
  refine held_grow (w1 := k3) (Held.of hk3) ?_
  clear hHeld
  have hHeld : Held k3 k3 := Held.refl _
  refine take_at (v := .bool true) 7 22 rfl rfl (by kernel_rfl) (by kernel_rfl) (by kernel_rfl) (fun _ _ _ h => h) hHeld (Or.inl ⟨by rfl, ?_⟩) rfl ?_
  · intro wq hSw
    go_simp
    skip
  simp only [List.set_cons_zero, List.set_cons_succ]
  refine take_at (v := ?_) 8 4 rfl rfl (by kernel_rfl) (by kernel_rfl) (by kernel_rfl) (fun _ _ _ h => h) hHeld (Or.inl ⟨by rfl, ?_⟩) rfl ?_
  rotate_left
  · intro wq hSw
    go_simp
    try with_reducible rfl
  simp only [List.set_cons_zero, List.set_cons_succ]
  refine wpAnyH_done (by kernel_rfl) ?_ _
  go_wp2
  go_ret
  exact ⟨rfl, hTs.trans ((hk1.trans (hk3.mono hk1.size)).mono hTs.size)⟩
set_option maxRecDepth 100000 in
theorem lockChecksWalkK {KD : World → Prop} (ok : LockA KD) (chk : LockChk KD) {H : Type} {enc : TypeId × Value → H} (W : World) (base : Nat) (v0 : Value) (d0 : DataW H) (p0 : List MemPlace) (v1 : Value) (d1 : DataW H) (p1 : List MemPlace)
    (o0 : Value.okWide Tryd.prog W .any base 38 v0) (o1 : Value.okWide Tryd.prog W .any base 36 v1)
    (h0 : DataW.Trod enc Tryd.prog W 0 (fun _ => true) true 38 v0 d0 p0) (h1 : DataW.Trod enc Tryd.prog W 0 (fun _ => true) true 36 v1 d1 p1) (hK : KD W) (hT : Tab32 W 1 Dg.kL) :
    Calls Tryd.prog 5 #[v0, v1] W fun e w' => e = .returned (.bool true) ∧ Below W.heap.size W w' := by
  obtain ⟨a, n, q, b, m, r, t, rfl, ht⟩ := arg_tx o0 h0
  obtain ⟨ca, cn, cq, cl, rfl, hc, h2, h3⟩ := arg_coins o1 h1
  exact lchecksMain ok chk a n q b m r t ca cn cq cl W ht hc ⟨h2, h3⟩ hK hT
end Go.Proofs.YtcedecljbgailaaDoor
