/- the reference's Bytes, Base, Weight -/
import Derived.Test.YtpbijcchdjppmaaDoorTxT
import Derived.Test.YtpbijcchdjppmaaDoorLz
namespace Go.Proofs.YtpbijcchdjppmaaDoor
open Go Go.RowKit Go.ChangeShapes Go.WideShapes
theorem Tx.encSp_len (all : Bool) (s : Tx.Sp) (h : s.h.length = 32) (hk : s.key.length ≤ 5000) : (Tx.encSp all s).length ≤ 5060 := by
  unfold Tx.encSp
  cases all
  · simp [Pk.le_len, h]
  · have := Pk.count_le (s.key.length : Int)
    simp [Pk.le_len, h, Pk.text]
    omega
theorem Tx.flat_len {α : Type} (f : α → List (BitVec 8)) (k : Nat) : ∀ l : List α, (∀ x, x ∈ l → (f x).length ≤ k) → (l.flatMap f).length ≤ k * l.length
  | [], _ => by simp
  | x :: l, h => by
    have ih := Tx.flat_len f k l (fun y hy => h y (List.mem_cons_of_mem _ hy))
    have h1 := h x List.mem_cons_self
    rw [List.flatMap_cons, List.length_append, List.length_cons, Nat.mul_add, Nat.mul_one]
    omega
theorem Tx.enc_len (all : Bool) (t : Tx.T) (hs : Tx.Small t) (hh : ∀ s, s ∈ t.sp → s.h.length = 32) : (Tx.enc all t).length ≤ 200000 := by
  have h1 := Tx.flat_len (Tx.encSp all) 5060 t.sp (fun s hx => Tx.encSp_len all s (hh s hx) (hs.2.2 s hx))
  have h2 := Tx.flat_len Tx.encCo 16 t.co (fun c _ => by simp [Tx.encCo, Pk.le_len])
  have h3 := Pk.count_le (t.sp.length : Int)
  have h4 := Pk.count_le (t.co.length : Int)
  have h5 := hs.1
  have h6 := hs.2.1
  unfold Tx.enc
  simp only [List.length_append, List.length_cons, List.length_nil]
  have h7 : 5060 * t.sp.length ≤ 5060 * 30 := Nat.mul_le_mul_left _ h5
  have h8 : 16 * t.co.length ≤ 16 * 30 := Nat.mul_le_mul_left _ h6
  omega
set_option maxRecDepth 100000 in
set_option maxHeartbeats 4000000 in
theorem rtbytes_any (a : Option Addr) (n q : Nat) (b : Option Addr) (m r : Nat) (t : Tx.T) (w : World) (ht : TxAt w a n q b m r t) (hs : Tx.Small t) :
    Calls Tryd.prog 9 #[txv a n q b m r t.firm] w (BytesPost8 5 w.heap.size (Tx.enc true t) w) := by
  obtain ⟨w1, hw1⟩ : ∃ x, x = w.alloc (.cells #[.slice a n q, .slice b m r, .bool t.firm] 25) := ⟨_, rfl⟩
  have hb1 : Below w.heap.size w w1 := by rw [hw1]; exact (Below.refl _ _).alloc (Nat.le_refl _) _
  have hX : Has w1 w.heap.size 25 #[.slice a n q, .slice b m r, .bool t.firm] := by rw [hw1]; exact Has.fresh _ _ _
  have lX := hX.load_agg (P := Tryd.prog) (t := 25) Tryd.underlying25 rfl (by kernel_rfl)
  have HW := Lib.hid hw1
  have HT := Lib.hid (ht.below hb1)
  have HS := Lib.hid hs
  clear hw1 ht hs hX
  go_enter Tryd.func9, Tryd.ntmps9
  go_upto_region 1 with fail
  rw [← HW.out]
  go_wp2_with (first
    | (go_at_call 27; refine (rput_true a n q b m r t w1 HT.out HS.out).mono ?_; rintro e w2 ⟨v, rfl, ho, hb2⟩)
    | (refine wpList_load_run rfl 25 (.tmp 1) rfl _ _ rfl lX ?_))
  go_ret
  exact ⟨v, rfl, ho.low hb1.size, hb1.trans (hb2.mono hb1.size)⟩
set_option maxRecDepth 100000 in
set_option maxHeartbeats 4000000 in
theorem rbase_any (a : Option Addr) (n q : Nat) (b : Option Addr) (m r : Nat) (t : Tx.T) (w : World) (ht : TxAt w a n q b m r t) (hs : Tx.Small t) :
    Calls Tryd.prog 11 #[txv a n q b m r t.firm] w (BytesPost8 5 w.heap.size (Tx.enc false t) w) := by
  obtain ⟨w1, hw1⟩ : ∃ x, x = w.alloc (.cells #[.slice a n q, .slice b m r, .bool t.firm] 25) := ⟨_, rfl⟩
  have hb1 : Below w.heap.size w w1 := by rw [hw1]; exact (Below.refl _ _).alloc (Nat.le_refl _) _
  have hX : Has w1 w.heap.size 25 #[.slice a n q, .slice b m r, .bool t.firm] := by rw [hw1]; exact Has.fresh _ _ _
  have lX := hX.load_agg (P := Tryd.prog) (t := 25) Tryd.underlying25 rfl (by kernel_rfl)
  have HW := Lib.hid hw1
  have HT := Lib.hid (ht.below hb1)
  have HS := Lib.hid hs
  clear hw1 ht hs hX
  go_enter Tryd.func11, Tryd.ntmps11
  go_upto_region 1 with fail
  rw [← HW.out]
  go_wp2_with (first
    | (go_at_call 27; refine (rput_false a n q b m r t w1 HT.out HS.out).mono ?_; rintro e w2 ⟨v, rfl, ho, hb2⟩)
    | (refine wpList_load_run rfl 25 (.tmp 1) rfl _ _ rfl lX ?_))
  go_ret
  exact ⟨v, rfl, ho.low hb1.size, hb1.trans (hb2.mono hb1.size)⟩
set_option maxRecDepth 100000 in
set_option maxHeartbeats 4000000 in
theorem rweight_any (a : Option Addr) (n q : Nat) (b : Option Addr) (m r : Nat) (t : Tx.T) (w : World) (ht : TxAt w a n q b m r t) (hs : Tx.Small t) :
    Calls Tryd.prog 17 #[txv a n q b m r t.firm] w fun e w' => e = .returned (.int .i64 (Tx.weight t)) ∧ Below w.heap.size w w' := by
  obtain ⟨w1, hw1⟩ : ∃ x, x = w.alloc (.cells #[.slice a n q, .slice b m r, .bool t.firm] 25) := ⟨_, rfl⟩
  have hb1 : Below w.heap.size w w1 := by rw [hw1]; exact (Below.refl _ _).alloc (Nat.le_refl _) _
  have hX : Has w1 w.heap.size 25 #[.slice a n q, .slice b m r, .bool t.firm] := by rw [hw1]; exact Has.fresh _ _ _
  have lX := hX.load_agg (P := Tryd.prog) (t := 25) Tryd.underlying25 rfl (by kernel_rfl)
  have hh : ∀ s, s ∈ t.sp → s.h.length = 32 := fun s hx => (ht.sp.2.2.1 s hx).1
  obtain ⟨k1, hk1⟩ : ∃ k, k = (Tx.enc false t).length := ⟨_, rfl⟩
  obtain ⟨k2, hk2⟩ : ∃ k, k = (Tx.enc true t).length := ⟨_, rfl⟩
  have e1 : k1 ≤ 200000 := by rw [hk1]; exact Tx.enc_len _ t hs hh
  have e2 : k2 ≤ 200000 := by rw [hk2]; exact Tx.enc_len _ t hs hh
  have HWR := Lib.hid (show IntKind.i64.wrap (3 * (k1 : Int)) = 3 * (k1 : Int) ∧ IntKind.i64.wrap (3 * (k1 : Int) + (k2 : Int)) = 3 * (k1 : Int) + (k2 : Int) from ⟨IntWalk.i64_in _ (by omega), IntWalk.i64_in _ (by omega)⟩)
  have HK := Lib.hid (show (Tx.enc false t).length = k1 ∧ (Tx.enc true t).length = k2 ∧ Tx.weight t = 3 * (k1 : Int) + (k2 : Int) from ⟨hk1.symm, hk2.symm, by rw [Tx.weight, ← hk1, ← hk2]⟩)
  have HW := Lib.hid hw1
  have HX := Lib.hid hX
  have HT := Lib.hid (ht.below hb1)
  have HS := Lib.hid hs
  clear hw1 ht hs hX hk1 hk2 hh
  go_enter Tryd.func17, Tryd.ntmps17
  go_upto_region 1 with fail
  rw [← HW.out]
  obtain ⟨ws, hws⟩ : ∃ x, x = w1.drew := ⟨_, rfl⟩
  have hbs : Below w1.heap.size w1 ws := by rw [hws]; exact (Below.refl _ _).drew
  have HXs := Lib.hid (HX.out.under hbs HX.out.lt)
  have HTs := Lib.hid (HT.out.below hbs)
  have hBs := hb1.trans (hbs.mono hb1.size)
  refine wp_region_held_drew (S := Held ws) (by kernel_rfl) (by rw [hws]; exact Held.refl _) (fun hHeld => ?_)
  rw [← hws] at hHeld ⊢
  clear hws hbs lX
  refine take_at 0 3 rfl rfl (by kernel_rfl) (by kernel_rfl) (by kernel_rfl) (fun _ _ _ h => h) hHeld (yieldsIf_load_agg (by rfl) 25 (.tmp 1) rfl _ _ (by rfl) (fun wq hSw => (HXs.out.under hSw HXs.out.lt).load_agg (P := Tryd.prog) (t := 25) Tryd.underlying25 rfl (by kernel_rfl))) rfl ?_
  simp only [List.set_cons_zero, List.set_cons_succ]
  refine take_at 4 7 rfl rfl (by kernel_rfl) (by kernel_rfl) (by kernel_rfl) (fun _ _ _ h => h) hHeld (yieldsIf_load_agg (by rfl) 25 (.tmp 1) rfl _ _ (by rfl) (fun wq hSw => (HXs.out.under hSw HXs.out.lt).load_agg (P := Tryd.prog) (t := 25) Tryd.underlying25 rfl (by kernel_rfl))) rfl ?_
  simp only [List.set_cons_zero, List.set_cons_succ]
  refine wpAnyH_ready (rs := [1]) (by kernel_rfl) (by simp) ?_
  refine AllReadyH.cons rfl (fun K hK => ?_) AllReadyH.nil
  go_simp
  go_at_call 11; refine (rbase_any a n q b m r t ws HTs.out HS.out).mono ?_; rintro e k1w ⟨v2, rfl, ho2, hk1⟩; obtain ⟨x2, c2, rfl, _, _, _⟩ := ho2.shape HK.out.1
  refine hK.out _ _ (Held.of hk1) (fun _ => ?_)
  clear hK K
  try simp only [Act.put, List.setIfInBounds_toArray, List.set_cons_zero, List.set_cons_succ]
  refine held_grow (w1 := k1w) (Held.of hk1) ?_
  clear hHeld
  have hHeld : Held k1w k1w := Held.refl _
  refine take_at (v := ?_) 2 5 rfl rfl (by kernel_rfl) (by kernel_rfl) (by kernel_rfl) (fun _ _ _ h => h) hHeld (Or.inl ⟨by rfl, ?_⟩) rfl ?_
  rotate_left
  · intro wq hSw
    go_simp
    try with_reducible rfl
  simp only [List.set_cons_zero, List.set_cons_succ]
  refine take_at (v := ?_) 3 6 rfl rfl (by kernel_rfl) (by kernel_rfl) (by kernel_rfl) (fun _ _ _ h => h) hHeld (Or.inl ⟨by rfl, ?_⟩) rfl ?_
  rotate_left
  · intro wq hSw
    go_simp
    try with_reducible rfl
  simp only [List.set_cons_zero, List.set_cons_succ]
  refine wpAnyH_ready (rs := [5]) (by kernel_rfl) (by simp) ?_
  refine AllReadyH.cons rfl (fun K hK => ?_) AllReadyH.nil
  go_simp
  go_at_call 9; refine (rtbytes_any a n q b m r t k1w (HTs.out.below hk1) HS.out).mono ?_; rintro e k2w ⟨v3, rfl, ho3, hk2⟩; obtain ⟨x3, c3, rfl, _, _, _⟩ := ho3.shape HK.out.2.1
  refine hK.out _ _ (Held.of hk2) (fun _ => ?_)
  clear hK K
  try simp only [Act.put, List.setIfInBounds_toArray, List.set_cons_zero, List.set_cons_succ]
  refine held_grow (w1 := k2w) (Held.of hk2) ?_
  clear hHeld
  have hHeld : Held k2w k2w := Held.refl _
  refine take_at (v := ?_) 6 9 rfl rfl (by kernel_rfl) (by kernel_rfl) (by kernel_rfl) (fun _ _ _ h => h) hHeld (Or.inl ⟨by rfl, ?_⟩) rfl ?_
  rotate_left
  · intro wq hSw
    go_simp
    try with_reducible rfl
  simp only [List.set_cons_zero, List.set_cons_succ]
  refine take_at (v := ?_) 7 10 rfl rfl (by kernel_rfl) (by kernel_rfl) (by kernel_rfl) (fun _ _ _ h => h) hHeld (Or.inl ⟨by rfl, ?_⟩) rfl ?_
  rotate_left
  · intro wq hSw
    go_simp
    try with_reducible rfl
  simp only [List.set_cons_zero, List.set_cons_succ]
  refine take_at (v := ?_) 8 2 rfl rfl (by kernel_rfl) (by kernel_rfl) (by kernel_rfl) (fun _ _ _ h => h) hHeld (Or.inl ⟨by rfl, ?_⟩) rfl ?_
  rotate_left
  · intro wq hSw
    go_simp
    try with_reducible rfl
  simp only [List.set_cons_zero, List.set_cons_succ]
  refine wpAnyH_done (by kernel_rfl) ?_ _
  go_wp2
  go_ret
  exact ⟨by rw [HK.out.2.2]; show Ending.returned (.int .i64 (IntKind.i64.wrap (IntKind.i64.wrap (3 * (k1 : Int)) + (k2 : Int)))) = _; rw [HWR.out.1, HWR.out.2], hBs.trans ((hk1.trans (hk2.mono hk1.size)).mono hBs.size)⟩
end Go.Proofs.YtpbijcchdjppmaaDoor
