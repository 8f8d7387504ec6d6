/- LockKeys over the premise (mklkk.py) -/
import Derived.Test.YtcedecljbgailaaDoorLkP
namespace Go.Proofs.YtcedecljbgailaaDoor
open Go Go.RowKit Go.ChangeShapes Go.WideShapes
section
variable {H : Type} {enc : TypeId × Value → H} {W : World} {base : Nat} {v : Value} {d : DataW H} {p : List MemPlace}
theorem arg_spend (o : Value.okWide Tryd.prog W .any base 28 v) (h : DataW.Trod enc Tryd.prog W 0 (fun _ => true) true 28 v d p) : ∃ s : Tx.Sp, v = .agg (spCells s).toArray ∧ Tx.SpOk s := by
  obtain ⟨cs, rfl, _⟩ := okWide_struct Tryd.underlying28 o
  obtain ⟨fuel, hf⟩ := h
  obtain ⟨s, e, hs⟩ := open_spend hf
  have e2 : cs.toList = spCells s := e
  exact ⟨s, by rw [← e2], hs⟩
theorem arg_coin (o : Value.okWide Tryd.prog W .any base 30 v) (h : DataW.Trod enc Tryd.prog W 0 (fun _ => true) true 30 v d p) : ∃ c : Tx.Co, v = .agg (coCells c).toArray ∧ Tx.CoOk c := by
  obtain ⟨cs, rfl, _⟩ := okWide_struct Tryd.underlying30 o
  obtain ⟨fuel, hf⟩ := h
  obtain ⟨c, e, hc⟩ := open_coin hf
  have e2 : cs.toList = coCells c := e
  exact ⟨c, by rw [← e2], hc⟩
end
set_option maxRecDepth 100000 in
set_option maxHeartbeats 8000000 in
theorem keysMain {KD : World → Prop} (ok : LockA KD) (s : Tx.Sp) (c : Tx.Co) (id : List (BitVec 8)) (W : World) (hok : Tx.SpOk s) (hid : id.length = 32) (hK : KD W) (hT : Tab32 W 1 Dg.kL) :
    Calls Tryd.prog 3 #[.agg (spCells s).toArray, .agg (coCells c).toArray, .agg (blist id).toArray] W fun e w' => e = .returned (.bool true) ∧ Below W.heap.size W w' := by
  obtain ⟨W1, hW1⟩ : ∃ x, x = ((W.alloc (.cells (spCells s).toArray 28)).alloc (.cells (coCells c).toArray 30)).alloc (.cells (blist id).toArray 23) := ⟨_, rfl⟩
  have hb1 : Below W.heap.size W W1 := by
    rw [hW1]
    exact (((Below.refl _ W).alloc (Nat.le_refl _) _).alloc (by simp) _).alloc (by simp; omega) _
  have hS : Has W1 W.heap.size 28 (spCells s).toArray := by rw [hW1]; exact ((Has.fresh W _ _).past _).past _
  have hC : Has W1 (W.heap.size + 1) 30 (coCells c).toArray := by rw [hW1]; exact (Has.fresh_at _ _ _ (by simp)).past _
  have hH : Has W1 (W.heap.size + 1 + 1) 23 (blist id).toArray := by rw [hW1]; exact Has.fresh_at _ _ _ (by simp)
  have HW := Lib.hid hW1
  have HKD := Lib.hid (And.intro (ok.stay hK hb1) (hT.below hb1))
  have HI := Lib.hid (And.intro hid hok)
  have hkm : s.key.length ≤ 9223372036854775807 := hok.2.2
  have hsz := strB_size s.key
  obtain ⟨kl, hkl⟩ : ∃ k, k = s.key.length := ⟨_, rfl⟩
  rw [← hkl] at hsz hkm
  have HKL := Lib.hid hkl
  have hkey := hS.spKey hok.1
  clear hW1 hT hid hok hK hkl
  go_enter Tryd.func3, Tryd.ntmps3
  go_upto_region 1 with fail
  rw [← HW.out]
  obtain ⟨g3, hg3⟩ : ∃ g, g = W.heap.size := ⟨_, rfl⟩
  rw [← hg3]
  rw [← hg3] at hS hC hH hkey
  clear hg3
  go_upto_region 3 with (go_at_call 6; refine (alive11 ok W1 HKD.out.1).mono ?_; rintro e w2 ⟨rfl, hb2⟩)
  have hT2 := hb1.trans (hb2.mono hb1.size)
  have c33 : w2.cell? ⟨g3, 33, none⟩ = some (.string (strB s.key)) := Has.spKey (hS.under hb2 hS.lt) HI.out.2.1
  clear hkey
  by_cases hbig : (500 : Int) < (kl : Int)
  · go_wp2
    go_ret
    exact ⟨rfl, hT2⟩
  · have HK5 := Lib.hid (show s.key.length ≤ 10000 by rw [← HKL.out]; omega)
    go_upto_region 5 with fail
    clear c33
    obtain ⟨ws, hws⟩ : ∃ x, x = w2.drew := ⟨_, rfl⟩
    have hbs : Below w2.heap.size w2 ws := by rw [hws]; exact (Below.refl _ _).drew
    have h1s := hb2.trans (hbs.mono hb2.size)
    have HS := Lib.hid (hS.under h1s hS.lt)
    have HC := Lib.hid (hC.under h1s hC.lt)
    have HH := Lib.hid (hH.under h1s hH.lt)
    have HKs := Lib.hid (And.intro (ok.stay HKD.out.1 h1s) (HKD.out.2.below h1s))
    have hTs := hT2.trans (hbs.mono hT2.size)
    obtain ⟨lk, hlk⟩ : ∃ x, x = Lk.lockOf s.key := ⟨_, rfl⟩
    obtain ⟨sl, hsl⟩ : ∃ x, x = Lk.sealOf s.key id := ⟨_, rfl⟩
    obtain ⟨o, ho⟩ : ∃ x, x = Lk.opens s c id := ⟨_, rfl⟩
    have HL := Lib.hid (And.intro hlk (And.intro hsl ho))
    clear hlk hsl ho hbs h1s hS hC hH
    refine wp_region_held_drew (S := Held ws) (by kernel_rfl) (by rw [hws]; exact Held.refl _) (fun hHeld => ?_)
    rw [← hws] at hHeld ⊢
    clear hws
    have hC0 : Below ws.heap.size ws ws := Below.refl _ _
    refine take_at (v := ?_) 0 13 rfl rfl (by kernel_rfl) (by kernel_rfl) (by kernel_rfl) (fun _ _ _ h => h) hHeld (Or.inl ⟨by rfl, ?_⟩) rfl ?_
    rotate_left
    · intro wq hSw
      go_simp
      try with_reducible rfl
    simp only [List.set_cons_zero, List.set_cons_succ]
    refine take_at (v := ?_) 1 14 rfl rfl (by kernel_rfl) (by kernel_rfl) (by kernel_rfl) (fun _ _ _ h => h) hHeld (Or.inl ⟨by rfl, ?_⟩) rfl ?_
    rotate_left
    · intro wq hSw
      have hst := Has.spKey (HS.out.under (hC0.trans (hSw.mono hC0.size)) HS.out.lt) HI.out.2.1
      go_simp
      try with_reducible rfl
    simp only [List.set_cons_zero, List.set_cons_succ]
    refine take_at (v := ?_) 3 16 rfl rfl (by kernel_rfl) (by kernel_rfl) (by kernel_rfl) (fun _ _ _ h => h) hHeld (Or.inl ⟨by rfl, ?_⟩) rfl ?_
    rotate_left
    · intro wq hSw
      go_simp
      try with_reducible rfl
    simp only [List.set_cons_zero, List.set_cons_succ]
    refine take_at (v := ?_) 4 17 rfl rfl (by kernel_rfl) (by kernel_rfl) (by kernel_rfl) (fun _ _ _ h => h) hHeld (Or.inl ⟨by rfl, ?_⟩) rfl ?_
    rotate_left
    · intro wq hSw
      have hst := Has.spKey (HS.out.under (hC0.trans (hSw.mono hC0.size)) HS.out.lt) HI.out.2.1
      go_simp
      try with_reducible rfl
    simp only [List.set_cons_zero, List.set_cons_succ]
    refine wpAnyH_ready (rs := [2]) (by kernel_rfl) (by simp) ?_
    refine AllReadyH.cons rfl (fun K hK => ?_) AllReadyH.nil
    go_simp
    go_at_call 7; refine (ok.lock s.key ws (ok.stay HKs.out.1 hC0) HK5.out).mono ?_; rw [← HL.out.1]; rintro e k1 ⟨rfl, hk1⟩
    refine hK.out _ _ (Held.of hk1) (fun _ => ?_)
    clear hK K
    try simp only [Act.put, List.setIfInBounds_toArray, List.set_cons_zero, List.set_cons_succ]
    refine held_grow (w1 := k1) (Held.of hk1) ?_
    clear hHeld
    have hHeld : Held k1 k1 := Held.refl _
    have hC1 := hC0.trans (hk1.mono hC0.size)
    refine wpAnyH_ready (rs := [5]) (by kernel_rfl) (by simp) ?_
    refine AllReadyH.cons rfl (fun K hK => ?_) AllReadyH.nil
    go_simp
    go_at_call 8; refine (rlock_any s.key k1 HK5.out (HKs.out.2.below hC1)).mono ?_; rw [← HL.out.1]; rintro e k2 ⟨rfl, hk2⟩
    refine hK.out _ _ (Held.of hk2) (fun _ => ?_)
    clear hK K
    try simp only [Act.put, List.setIfInBounds_toArray, List.set_cons_zero, List.set_cons_succ]
    refine held_grow (w1 := k2) (Held.of hk2) ?_
    clear hHeld
    have hHeld : Held k2 k2 := Held.refl _
    have hC2 := hC1.trans (hk2.mono hC1.size)
    refine take_at (v := .bool true) 6 19 rfl rfl (by kernel_rfl) (by kernel_rfl) (by kernel_rfl) (fun _ _ _ h => h) hHeld (Or.inl ⟨by rfl, ?_⟩) rfl ?_
    · intro wq hSw
      go_simp
      skip
    simp only [List.set_cons_zero, List.set_cons_succ]
    refine take_at (v := ?_) 7 20 rfl rfl (by kernel_rfl) (by kernel_rfl) (by kernel_rfl) (fun _ _ _ h => h) hHeld (Or.inl ⟨by rfl, ?_⟩) rfl ?_
    rotate_left
    · intro wq hSw
      go_simp
      try with_reducible rfl
    simp only [List.set_cons_zero, List.set_cons_succ]
    refine take_at (v := ?_) 8 21 rfl rfl (by kernel_rfl) (by kernel_rfl) (by kernel_rfl) (fun _ _ _ h => h) hHeld (Or.inl ⟨by rfl, ?_⟩) rfl ?_
    rotate_left
    · intro wq hSw
      go_simp
      try with_reducible rfl
    simp only [List.set_cons_zero, List.set_cons_succ]
    refine take_at (v := ?_) 9 22 rfl rfl (by kernel_rfl) (by kernel_rfl) (by kernel_rfl) (fun _ _ _ h => h) hHeld (Or.inl ⟨by rfl, ?_⟩) rfl ?_
    rotate_left
    · intro wq hSw
      have hst := Has.spKey (HS.out.under (hC2.trans (hSw.mono hC2.size)) HS.out.lt) HI.out.2.1
      go_simp
      try with_reducible rfl
    simp only [List.set_cons_zero, List.set_cons_succ]
    refine take_at 10 23 rfl rfl (by kernel_rfl) (by kernel_rfl) (by kernel_rfl) (fun _ _ _ h => h) hHeld (yieldsIf_load_agg (by rfl) 23 (.tmp 5) rfl _ _ (by rfl) (fun wq hSw => (HH.out.under (hC2.trans (hSw.mono hC2.size)) HH.out.lt).load_agg (P := Tryd.prog) (t := 23) Tryd.underlying23 rfl (size_hash' HI.out.1))) rfl ?_
    simp only [List.set_cons_zero, List.set_cons_succ]
    refine take_at (v := ?_) 12 25 rfl rfl (by kernel_rfl) (by kernel_rfl) (by kernel_rfl) (fun _ _ _ h => h) hHeld (Or.inl ⟨by rfl, ?_⟩) rfl ?_
    rotate_left
    · intro wq hSw
      go_simp
      try with_reducible rfl
    simp only [List.set_cons_zero, List.set_cons_succ]
    refine take_at (v := ?_) 13 26 rfl rfl (by kernel_rfl) (by kernel_rfl) (by kernel_rfl) (fun _ _ _ h => h) hHeld (Or.inl ⟨by rfl, ?_⟩) rfl ?_
    rotate_left
    · intro wq hSw
      have hst := Has.spKey (HS.out.under (hC2.trans (hSw.mono hC2.size)) HS.out.lt) HI.out.2.1
      go_simp
      try with_reducible rfl
    simp only [List.set_cons_zero, List.set_cons_succ]
    refine take_at 14 27 rfl rfl (by kernel_rfl) (by kernel_rfl) (by kernel_rfl) (fun _ _ _ h => h) hHeld (yieldsIf_load_agg (by rfl) 23 (.tmp 5) rfl _ _ (by rfl) (fun wq hSw => (HH.out.under (hC2.trans (hSw.mono hC2.size)) HH.out.lt).load_agg (P := Tryd.prog) (t := 23) Tryd.underlying23 rfl (size_hash' HI.out.1))) rfl ?_
    simp only [List.set_cons_zero, List.set_cons_succ]
    refine wpAnyH_ready (rs := [11]) (by kernel_rfl) (by simp) ?_
    refine AllReadyH.cons rfl (fun K hK => ?_) AllReadyH.nil
    go_simp
    go_at_call 9; refine (ok.sealed s.key id k2 (ok.stay HKs.out.1 hC2) HK5.out HI.out.1).mono ?_; rw [← HL.out.2.1]; rintro e k3 ⟨rfl, hk3⟩
    refine hK.out _ _ (Held.of hk3) (fun _ => ?_)
    clear hK K
    try simp only [Act.put, List.setIfInBounds_toArray, List.set_cons_zero, List.set_cons_succ]
    refine held_grow (w1 := k3) (Held.of hk3) ?_
    clear hHeld
    have hHeld : Held k3 k3 := Held.refl _
    have hC3 := hC2.trans (hk3.mono hC2.size)
    refine wpAnyH_ready (rs := [15]) (by kernel_rfl) (by simp) ?_
    refine AllReadyH.cons rfl (fun K hK => ?_) AllReadyH.nil
    go_simp
    go_at_call 10; refine (rseal_any s.key id k3 HK5.out HI.out.1 (HKs.out.2.below hC3)).mono ?_; rw [← HL.out.2.1]; rintro e k4 ⟨rfl, hk4⟩
    refine hK.out _ _ (Held.of hk4) (fun _ => ?_)
    clear hK K
    try simp only [Act.put, List.setIfInBounds_toArray, List.set_cons_zero, List.set_cons_succ]
    refine held_grow (w1 := k4) (Held.of hk4) ?_
    clear hHeld
    have hHeld : Held k4 k4 := Held.refl _
    have hC4 := hC3.trans (hk4.mono hC3.size)
    refine take_at (v := .bool true) 16 29 rfl rfl (by kernel_rfl) (by kernel_rfl) (by kernel_rfl) (fun _ _ _ h => h) hHeld (Or.inl ⟨by rfl, ?_⟩) rfl ?_
    · intro wq hSw
      go_simp
      skip
    simp only [List.set_cons_zero, List.set_cons_succ]
    refine take_at (v := ?_) 17 30 rfl rfl (by kernel_rfl) (by kernel_rfl) (by kernel_rfl) (fun _ _ _ h => h) hHeld (Or.inl ⟨by rfl, ?_⟩) rfl ?_
    rotate_left
    · intro wq hSw
      go_simp
      try with_reducible rfl
    simp only [List.set_cons_zero, List.set_cons_succ]
    refine take_at (v := ?_) 18 31 rfl rfl (by kernel_rfl) (by kernel_rfl) (by kernel_rfl) (fun _ _ _ h => h) hHeld (Or.inl ⟨by rfl, ?_⟩) rfl ?_
    rotate_left
    · intro wq hSw
      go_simp
      try with_reducible rfl
    simp only [List.set_cons_zero, List.set_cons_succ]
    refine take_at 19 32 rfl rfl (by kernel_rfl) (by kernel_rfl) (by kernel_rfl) (fun _ _ _ h => h) hHeld (yieldsIf_load_agg (by rfl) 28 (.tmp 3) rfl _ _ (by rfl) (fun wq hSw => (HS.out.under (hC4.trans (hSw.mono hC4.size)) HS.out.lt).load_agg (P := Tryd.prog) (t := 28) Tryd.underlying28 rfl (spRec.size_eq size_spend HI.out.2))) rfl ?_
    simp only [List.set_cons_zero, List.set_cons_succ]
    refine take_at 20 33 rfl rfl (by kernel_rfl) (by kernel_rfl) (by kernel_rfl) (fun _ _ _ h => h) hHeld (yieldsIf_load_agg (by rfl) 30 (.tmp 4) rfl _ _ (by rfl) (fun wq hSw => (HC.out.under (hC4.trans (hSw.mono hC4.size)) HC.out.lt).load_agg (P := Tryd.prog) (t := 30) Tryd.underlying30 rfl (by kernel_rfl))) rfl ?_
    simp only [List.set_cons_zero, List.set_cons_succ]
    refine take_at 21 34 rfl rfl (by kernel_rfl) (by kernel_rfl) (by kernel_rfl) (fun _ _ _ h => h) hHeld (yieldsIf_load_agg (by rfl) 23 (.tmp 5) rfl _ _ (by rfl) (fun wq hSw => (HH.out.under (hC4.trans (hSw.mono hC4.size)) HH.out.lt).load_agg (P := Tryd.prog) (t := 23) Tryd.underlying23 rfl (size_hash' HI.out.1))) rfl ?_
    simp only [List.set_cons_zero, List.set_cons_succ]
    refine take_at 23 36 rfl rfl (by kernel_rfl) (by kernel_rfl) (by kernel_rfl) (fun _ _ _ h => h) hHeld (yieldsIf_load_agg (by rfl) 28 (.tmp 3) rfl _ _ (by rfl) (fun wq hSw => (HS.out.under (hC4.trans (hSw.mono hC4.size)) HS.out.lt).load_agg (P := Tryd.prog) (t := 28) Tryd.underlying28 rfl (spRec.size_eq size_spend HI.out.2))) rfl ?_
    simp only [List.set_cons_zero, List.set_cons_succ]
    refine take_at 24 37 rfl rfl (by kernel_rfl) (by kernel_rfl) (by kernel_rfl) (fun _ _ _ h => h) hHeld (yieldsIf_load_agg (by rfl) 30 (.tmp 4) rfl _ _ (by rfl) (fun wq hSw => (HC.out.under (hC4.trans (hSw.mono hC4.size)) HC.out.lt).load_agg (P := Tryd.prog) (t := 30) Tryd.underlying30 rfl (by kernel_rfl))) rfl ?_
    simp only [List.set_cons_zero, List.set_cons_succ]
    refine take_at 25 38 rfl rfl (by kernel_rfl) (by kernel_rfl) (by kernel_rfl) (fun _ _ _ h => h) hHeld (yieldsIf_load_agg (by rfl) 23 (.tmp 5) rfl _ _ (by rfl) (fun wq hSw => (HH.out.under (hC4.trans (hSw.mono hC4.size)) HH.out.lt).load_agg (P := Tryd.prog) (t := 23) Tryd.underlying23 rfl (size_hash' HI.out.1))) rfl ?_
    simp only [List.set_cons_zero, List.set_cons_succ]
    refine wpAnyH_ready (rs := [22]) (by kernel_rfl) (by simp) ?_
    refine AllReadyH.cons rfl (fun K hK => ?_) AllReadyH.nil
    go_simp
    go_at_call 11; refine (ok.opens s c id k4 (ok.stay HKs.out.1 hC4) HI.out.2 HK5.out HI.out.1).mono ?_; rw [← HL.out.2.2]; rintro e k5 ⟨rfl, hk5⟩
    refine hK.out _ _ (Held.of hk5) (fun _ => ?_)
    clear hK K
    try simp only [Act.put, List.setIfInBounds_toArray, List.set_cons_zero, List.set_cons_succ]
    refine held_grow (w1 := k5) (Held.of hk5) ?_
    clear hHeld
    have hHeld : Held k5 k5 := Held.refl _
    have hC5 := hC4.trans (hk5.mono hC4.size)
    refine wpAnyH_ready (rs := [26]) (by kernel_rfl) (by simp) ?_
    refine AllReadyH.cons rfl (fun K hK => ?_) AllReadyH.nil
    go_simp
    go_at_call 12; refine (ropens_any s c id k5 HI.out.2 HK5.out HI.out.1 (HKs.out.2.below hC5)).mono ?_; rw [← HL.out.2.2]; rintro e k6 ⟨rfl, hk6⟩
    refine hK.out _ _ (Held.of hk6) (fun _ => ?_)
    clear hK K
    try simp only [Act.put, List.setIfInBounds_toArray, List.set_cons_zero, List.set_cons_succ]
    refine held_grow (w1 := k6) (Held.of hk6) ?_
    clear hHeld
    have hHeld : Held k6 k6 := Held.refl _
    have hC6 := hC5.trans (hk6.mono hC5.size)
    refine take_at (v := .bool true) 27 40 rfl rfl (by kernel_rfl) (by kernel_rfl) (by kernel_rfl) (fun _ _ _ h => h) hHeld (Or.inl ⟨by rfl, ?_⟩) rfl ?_
    · intro wq hSw
      go_simp
      skip
    simp only [List.set_cons_zero, List.set_cons_succ]
    refine take_at (v := ?_) 28 41 rfl rfl (by kernel_rfl) (by kernel_rfl) (by kernel_rfl) (fun _ _ _ h => h) hHeld (Or.inl ⟨by rfl, ?_⟩) rfl ?_
    rotate_left
    · intro wq hSw
      go_simp
      try with_reducible rfl
    simp only [List.set_cons_zero, List.set_cons_succ]
    refine take_at (v := ?_) 29 6 rfl rfl (by kernel_rfl) (by kernel_rfl) (by kernel_rfl) (fun _ _ _ h => h) hHeld (Or.inl ⟨by rfl, ?_⟩) rfl ?_
    rotate_left
    · intro wq hSw
      go_simp
      try with_reducible rfl
    simp only [List.set_cons_zero, List.set_cons_succ]
    refine wpAnyH_done (by kernel_rfl) ?_ _
    go_wp2
    go_ret
    exact ⟨rfl, hTs.trans (hC6.mono hTs.size)⟩
set_option maxRecDepth 100000 in
theorem lockKeysWalkK {KD : World → Prop} (ok : LockA KD) {H : Type} {enc : TypeId × Value → H} (W : World) (base : Nat) (v0 : Value) (d0 : DataW H) (p0 : List MemPlace) (v1 : Value) (d1 : DataW H) (p1 : List MemPlace) (v2 : Value) (d2 : DataW H) (p2 : List MemPlace)
    (o0 : Value.okWide Tryd.prog W .any base 28 v0) (o1 : Value.okWide Tryd.prog W .any base 30 v1) (o2 : Value.okWide Tryd.prog W .any base 23 v2)
    (h0 : DataW.Trod enc Tryd.prog W 0 (fun _ => true) true 28 v0 d0 p0) (h1 : DataW.Trod enc Tryd.prog W 0 (fun _ => true) true 30 v1 d1 p1) (h2 : DataW.Trod enc Tryd.prog W 0 (fun _ => true) true 23 v2 d2 p2) (hK : KD W) (hT : Tab32 W 1 Dg.kL) :
    Calls Tryd.prog 3 #[v0, v1, v2] W fun e w' => e = .returned (.bool true) ∧ Below W.heap.size W w' := by
  obtain ⟨s, rfl, hs⟩ := arg_spend o0 h0
  obtain ⟨c, rfl, _⟩ := arg_coin o1 h1
  obtain ⟨id, rfl, hid⟩ := arg_bytes32 Tryd.underlying23 Tryd.underlying5 (by kernel_rfl) (by kernel_rfl) o2 h2
  exact keysMain ok s c id W hs hid hK hT
end Go.Proofs.YtcedecljbgailaaDoor
