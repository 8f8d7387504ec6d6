/- package lock: Opens, where it asks Lock, then Seal (out of XLkO) · package tx: Same, Copy; what the premise asks (mktxd.py) · A cell of a record written, in a slice of one's own. Nothing of the program. · package lock: Sign, where it copies, then writes keys and seals in order (mklkn.py) · LockChecks over the premise (mklkh.py) · package lock: Check, where it asks Opens of each spend, in order (mklkm.py) · what package coins answers, as a premise -/
import Derived.Test.YtdfplenniamnoaaGreatDoorJ15
import Derived.Test.YtdfplenniamnoaaGreatDoorJ06
import Derived.Test.YtdfplenniamnoaaGreatDoorJ04
import Derived.Test.YtdfplenniamnoaaGreatDoorJ09
import Derived.Test.YtdfplenniamnoaaGreatDoorJ05
import Derived.Test.YtdfplenniamnoaaGreatDoorJ02
import Derived.Test.YtdfplenniamnoaaGreatDoorJ14
/-! package lock: Opens, where it asks Lock, then Seal (out of XLkO) -/
namespace Go.Proofs.YtdfplenniamnoaaGreatDoor
open Go Go.RowKit Go.ChangeShapes Go.WideShapes
set_option maxRecDepth 100000 in
set_option maxHeartbeats 8000000 in
theorem popens_any (s : Tx.Sp) (c : Tx.Co) (id : List (BitVec 8)) (w : World) (hok : Tx.SpOk s) (hk : s.key.length ≤ 10000) (hid : id.length = 32) (hT : KDg w) :
    Calls Tryz.prog 119 #[.agg (spCells s).toArray, .agg (coCells c).toArray, .agg (blist id).toArray] w fun e w' => e = .returned (.bool (Lk.opens s c id)) ∧ Below w.heap.size w w' := by
  obtain ⟨W1, hW1⟩ : ∃ x, x = ((w.alloc (.cells (spCells s).toArray 110)).alloc (.cells (coCells c).toArray 39)).alloc (.cells (blist id).toArray 34) := ⟨_, rfl⟩
  have hb1 : Below w.heap.size w W1 := by
    rw [hW1]
    exact (((Below.refl _ w).alloc (Nat.le_refl _) _).alloc (by simp) _).alloc (by simp; omega) _
  have hS : Has W1 w.heap.size 110 (spCells s).toArray := by rw [hW1]; exact ((Has.fresh w _ _).past _).past _
  have hC : Has W1 (w.heap.size + 1) 39 (coCells c).toArray := by rw [hW1]; exact (Has.fresh_at _ _ _ (by simp)).past _
  have hH : Has W1 (w.heap.size + 1 + 1) 34 (blist id).toArray := by rw [hW1]; exact Has.fresh_at _ _ _ (by simp)
  have HW := Lib.hid hW1
  have HT := Lib.hid (hT.below hb1)
  have HK := Lib.hid (And.intro hk (And.intro hid hok))
  obtain ⟨r, hr⟩ : ∃ r, r = Lk.opens s c id := ⟨_, rfl⟩
  rw [← hr]
  have HR := Lib.hid hr
  clear hW1 hT hk hid hok hr
  go_enter Tryz.func119, Tryz.ntmps119
  go_upto_region 1 with fail
  rw [← HW.out]
  obtain ⟨g3, hg3⟩ : ∃ g, g = w.heap.size := ⟨_, rfl⟩
  rw [← hg3]
  rw [← hg3] at hS hC hH
  clear hg3
  obtain ⟨ws, hws⟩ : ∃ x, x = W1.drew := ⟨_, rfl⟩
  have hbs : Below W1.heap.size W1 ws := by rw [hws]; exact (Below.refl _ _).drew
  have HSs := Lib.hid (hS.under hbs hS.lt)
  have HCs := Lib.hid (hC.under hbs hC.lt)
  have HHs := Lib.hid (hH.under hbs hH.lt)
  have HTs := Lib.hid (HT.out.below hbs)
  have hBs := hb1.trans (hbs.mono hb1.size)
  obtain ⟨lk, hlk⟩ : ∃ x, x = Lk.lockOf s.key := ⟨_, rfl⟩
  obtain ⟨sl, hsl⟩ : ∃ x, x = Lk.sealOf s.key id := ⟨_, rfl⟩
  have HL := Lib.hid (And.intro hlk hsl)
  clear hlk hsl hS hC hH hbs
  refine wp_region_held_drew (S := Held ws) (by kernel_rfl) (by rw [hws]; exact Held.refl _) (fun hHeld => ?_)
  rw [← hws] at hHeld ⊢
  clear hws
  refine take_at (v := ?_) 0 7 rfl rfl (by kernel_rfl) (by kernel_rfl) (by kernel_rfl) (fun _ _ _ h => h) hHeld (Or.inl ⟨by rfl, ?_⟩) rfl ?_
  rotate_left
  · intro wq hSw
    go_simp
    try with_reducible rfl
  simp only [List.set_cons_zero, List.set_cons_succ]
  refine take_at (v := ?_) 1 8 rfl rfl (by kernel_rfl) (by kernel_rfl) (by kernel_rfl) (fun _ _ _ h => h) hHeld (Or.inl ⟨by rfl, ?_⟩) rfl ?_
  rotate_left
  · intro wq hSw
    have hst := Has.spKey (HSs.out.under hSw HSs.out.lt) HK.out.2.2.1
    go_simp
    try with_reducible rfl
  simp only [List.set_cons_zero, List.set_cons_succ]
  refine take_at (v := ?_) 3 10 rfl rfl (by kernel_rfl) (by kernel_rfl) (by kernel_rfl) (fun _ _ _ h => h) hHeld (Or.inl ⟨by rfl, ?_⟩) rfl ?_
  rotate_left
  · intro wq hSw
    go_simp
    try with_reducible rfl
  simp only [List.set_cons_zero, List.set_cons_succ]
  refine take_at (v := ?_) 4 11 rfl rfl (by kernel_rfl) (by kernel_rfl) (by kernel_rfl) (fun _ _ _ h => h) hHeld (Or.inl ⟨by rfl, ?_⟩) rfl ?_
  rotate_left
  · intro wq hSw
    have hst := (show wq.cell? ⟨g3 + 1, 1, none⟩ = some (.int .u64 (nb64 c.lock)) from (HCs.out.under hSw HCs.out.lt).cell_at (i := 1) rfl)
    go_simp
    try with_reducible rfl
  simp only [List.set_cons_zero, List.set_cons_succ]
  refine wpAnyH_ready (rs := [2]) (by kernel_rfl) (by simp) ?_
  refine AllReadyH.cons rfl (fun K hK => ?_) AllReadyH.nil
  go_simp
  go_at_call 51; refine (plock_any s.key ws HTs.out HK.out.1).mono ?_; rw [← HL.out.1]; rintro e k1 ⟨rfl, hk1⟩
  refine hK.out _ _ (Held.of hk1) (fun _ => ?_)
  clear hK K
  try simp only [Act.put, List.setIfInBounds_toArray, List.set_cons_zero, List.set_cons_succ]
  refine held_grow (w1 := k1) (Held.of hk1) ?_
  clear hHeld
  have hHeld : Held k1 k1 := Held.refl _
  by_cases h1 : lk = c.lock
  · subst h1
    refine take_at (v := .bool true) 5 12 rfl rfl (by kernel_rfl) (by kernel_rfl) (by kernel_rfl) (fun _ _ _ h => h) hHeld (Or.inl ⟨by rfl, ?_⟩) rfl ?_
    · intro wq hSw
      go_simp
      skip
    simp only [List.set_cons_zero, List.set_cons_succ]
    refine take_at (v := ?_) 6 13 rfl rfl (by kernel_rfl) (by kernel_rfl) (by kernel_rfl) (fun _ _ _ h => h) hHeld (Or.inl ⟨by rfl, ?_⟩) rfl ?_
    rotate_left
    · intro wq hSw
      go_simp
      try with_reducible rfl
    simp only [List.set_cons_zero, List.set_cons_succ]
    refine take_at (v := ?_) 7 14 rfl rfl (by kernel_rfl) (by kernel_rfl) (by kernel_rfl) (fun _ _ _ h => h) hHeld (Or.inl ⟨by rfl, ?_⟩) rfl ?_
    rotate_left
    · intro wq hSw
      go_simp
      try with_reducible rfl
    simp only [List.set_cons_zero, List.set_cons_succ]
    refine take_at (v := ?_) 8 15 rfl rfl (by kernel_rfl) (by kernel_rfl) (by kernel_rfl) (fun _ _ _ h => h) hHeld (Or.inl ⟨by rfl, ?_⟩) rfl ?_
    rotate_left
    · intro wq hSw
      have hst := Has.spKey (HSs.out.under (hk1.trans (hSw.mono hk1.size)) HSs.out.lt) HK.out.2.2.1
      go_simp
      try with_reducible rfl
    simp only [List.set_cons_zero, List.set_cons_succ]
    refine take_at 9 16 rfl rfl (by kernel_rfl) (by kernel_rfl) (by kernel_rfl) (fun _ _ _ h => h) hHeld (yieldsIf_load_agg (by rfl) 34 (.tmp 5) rfl _ _ (by rfl) (fun wq hSw => (HHs.out.under (hk1.trans (hSw.mono hk1.size)) HHs.out.lt).load_agg (P := Tryz.prog) (t := 34) Tryz.underlying34 rfl (size_hash' HK.out.2.1))) rfl ?_
    simp only [List.set_cons_zero, List.set_cons_succ]
    refine take_at (v := ?_) 11 18 rfl rfl (by kernel_rfl) (by kernel_rfl) (by kernel_rfl) (fun _ _ _ h => h) hHeld (Or.inl ⟨by rfl, ?_⟩) rfl ?_
    rotate_left
    · intro wq hSw
      go_simp
      try with_reducible rfl
    simp only [List.set_cons_zero, List.set_cons_succ]
    refine take_at (v := ?_) 12 19 rfl rfl (by kernel_rfl) (by kernel_rfl) (by kernel_rfl) (fun _ _ _ h => h) hHeld (Or.inl ⟨by rfl, ?_⟩) rfl ?_
    rotate_left
    · intro wq hSw
      have hst := Has.spSeal (HSs.out.under (hk1.trans (hSw.mono hk1.size)) HSs.out.lt) HK.out.2.2.1
      go_simp
      try with_reducible rfl
    simp only [List.set_cons_zero, List.set_cons_succ]
    refine wpAnyH_ready (rs := [10]) (by kernel_rfl) (by simp) ?_
    refine AllReadyH.cons rfl (fun K hK => ?_) AllReadyH.nil
    go_simp
    go_at_call 109; refine (pseal_any s.key id k1 (HTs.out.below hk1) HK.out.1 HK.out.2.1).mono ?_; rw [← HL.out.2]; rintro e k2 ⟨rfl, hk2⟩
    refine hK.out _ _ (Held.of hk2) (fun _ => ?_)
    clear hK K
    try simp only [Act.put, List.setIfInBounds_toArray, List.set_cons_zero, List.set_cons_succ]
    refine held_grow (w1 := k2) (Held.of hk2) ?_
    clear hHeld
    have hHeld : Held k2 k2 := Held.refl _
    by_cases h2 : sl = s.sl
    · have HE := Lib.hid (show r = true by rw [HR.out, Lk.opens, decide_eq_true_iff, ← HL.out.1, ← HL.out.2]; exact ⟨rfl, h2⟩)
      subst h2
      refine take_at (v := .bool true) 13 20 rfl rfl (by kernel_rfl) (by kernel_rfl) (by kernel_rfl) (fun _ _ _ h => h) hHeld (Or.inl ⟨by rfl, ?_⟩) rfl ?_
      · intro wq hSw
        go_simp
        skip
      simp only [List.set_cons_zero, List.set_cons_succ]
      refine take_at (v := ?_) 14 21 rfl rfl (by kernel_rfl) (by kernel_rfl) (by kernel_rfl) (fun _ _ _ h => h) hHeld (Or.inl ⟨by rfl, ?_⟩) rfl ?_
      rotate_left
      · intro wq hSw
        go_simp
        try with_reducible rfl
      simp only [List.set_cons_zero, List.set_cons_succ]
      refine take_at (v := ?_) 15 6 rfl rfl (by kernel_rfl) (by kernel_rfl) (by kernel_rfl) (fun _ _ _ h => h) hHeld (Or.inl ⟨by rfl, ?_⟩) rfl ?_
      rotate_left
      · intro wq hSw
        go_simp
        try with_reducible rfl
      simp only [List.set_cons_zero, List.set_cons_succ]
      refine wpAnyH_done (by kernel_rfl) ?_ _
      go_wp2
      go_ret
      exact ⟨by rw [HE.out]; rfl, hBs.trans ((hk1.trans (hk2.mono hk1.size)).mono hBs.size)⟩
    · have HE := Lib.hid (show r = false by rw [HR.out, Lk.opens, decide_eq_false_iff_not, ← HL.out.1, ← HL.out.2]; exact fun e => h2 e.2)
      have HQ := Lib.hid (show (nb64 sl == nb64 s.sl) = false from nb64_ne h2)
      clear h2
      refine take_at (v := .bool false) 13 20 rfl rfl (by kernel_rfl) (by kernel_rfl) (by kernel_rfl) (fun _ _ _ h => h) hHeld (Or.inl ⟨by rfl, ?_⟩) rfl ?_
      · intro wq hSw
        have hst := HQ.out
        go_simp
        skip
      simp only [List.set_cons_zero, List.set_cons_succ]
      refine take_at (v := ?_) 14 21 rfl rfl (by kernel_rfl) (by kernel_rfl) (by kernel_rfl) (fun _ _ _ h => h) hHeld (Or.inl ⟨by rfl, ?_⟩) rfl ?_
      rotate_left
      · intro wq hSw
        go_simp
        try with_reducible rfl
      simp only [List.set_cons_zero, List.set_cons_succ]
      refine take_at (v := ?_) 15 6 rfl rfl (by kernel_rfl) (by kernel_rfl) (by kernel_rfl) (fun _ _ _ h => h) hHeld (Or.inl ⟨by rfl, ?_⟩) rfl ?_
      rotate_left
      · intro wq hSw
        go_simp
        try with_reducible rfl
      simp only [List.set_cons_zero, List.set_cons_succ]
      refine wpAnyH_done (by kernel_rfl) ?_ _
      go_wp2
      go_ret
      exact ⟨by rw [HE.out]; rfl, hBs.trans ((hk1.trans (hk2.mono hk1.size)).mono hBs.size)⟩
  · have HE := Lib.hid (show r = false by rw [HR.out, Lk.opens, decide_eq_false_iff_not, ← HL.out.1, ← HL.out.2]; exact fun e => h1 e.1)
    have HQ := Lib.hid (show (nb64 lk == nb64 c.lock) = false from nb64_ne h1)
    clear h1
    refine take_at (v := .bool false) 5 12 rfl rfl (by kernel_rfl) (by kernel_rfl) (by kernel_rfl) (fun _ _ _ h => h) hHeld (Or.inl ⟨by rfl, ?_⟩) rfl ?_
    · intro wq hSw
      have hst := HQ.out
      go_simp
      skip
    simp only [List.set_cons_zero, List.set_cons_succ]
    refine take_at (v := ?_) 6 13 rfl rfl (by kernel_rfl) (by kernel_rfl) (by kernel_rfl) (fun _ _ _ h => h) hHeld (Or.inl ⟨by rfl, ?_⟩) rfl ?_
    rotate_left
    · intro wq hSw
      go_simp
      try with_reducible rfl
    simp only [List.set_cons_zero, List.set_cons_succ]
    refine take_at (v := undef) 7 14 rfl rfl (by kernel_rfl) (by kernel_rfl) (by kernel_rfl) (fun _ _ _ h => h) hHeld (Or.inr ⟨by rfl, rfl⟩) rfl ?_
    simp only [List.set_cons_zero, List.set_cons_succ]
    refine take_at (v := undef) 8 15 rfl rfl (by kernel_rfl) (by kernel_rfl) (by kernel_rfl) (fun _ _ _ h => h) hHeld (Or.inr ⟨by rfl, rfl⟩) rfl ?_
    simp only [List.set_cons_zero, List.set_cons_succ]
    refine take_at (v := undef) 9 16 rfl rfl (by kernel_rfl) (by kernel_rfl) (by kernel_rfl) (fun _ _ _ h => h) hHeld (Or.inr ⟨by rfl, rfl⟩) rfl ?_
    simp only [List.set_cons_zero, List.set_cons_succ]
    refine take_at (v := undef) 10 17 rfl rfl (by kernel_rfl) (by kernel_rfl) (by kernel_rfl) (fun _ _ _ h => h) hHeld (Or.inr ⟨by rfl, rfl⟩) rfl ?_
    simp only [List.set_cons_zero, List.set_cons_succ]
    refine take_at (v := undef) 11 18 rfl rfl (by kernel_rfl) (by kernel_rfl) (by kernel_rfl) (fun _ _ _ h => h) hHeld (Or.inr ⟨by rfl, rfl⟩) rfl ?_
    simp only [List.set_cons_zero, List.set_cons_succ]
    refine take_at (v := undef) 12 19 rfl rfl (by kernel_rfl) (by kernel_rfl) (by kernel_rfl) (fun _ _ _ h => h) hHeld (Or.inr ⟨by rfl, rfl⟩) rfl ?_
    simp only [List.set_cons_zero, List.set_cons_succ]
    refine take_at (v := undef) 13 20 rfl rfl (by kernel_rfl) (by kernel_rfl) (by kernel_rfl) (fun _ _ _ h => h) hHeld (Or.inr ⟨by rfl, rfl⟩) rfl ?_
    simp only [List.set_cons_zero, List.set_cons_succ]
    refine take_at (v := ?_) 14 21 rfl rfl (by kernel_rfl) (by kernel_rfl) (by kernel_rfl) (fun _ _ _ h => h) hHeld (Or.inl ⟨by rfl, ?_⟩) rfl ?_
    rotate_left
    · intro wq hSw
      go_simp
      try with_reducible rfl
    simp only [List.set_cons_zero, List.set_cons_succ]
    refine take_at (v := ?_) 15 6 rfl rfl (by kernel_rfl) (by kernel_rfl) (by kernel_rfl) (fun _ _ _ h => h) hHeld (Or.inl ⟨by rfl, ?_⟩) rfl ?_
    rotate_left
    · intro wq hSw
      go_simp
      try with_reducible rfl
    simp only [List.set_cons_zero, List.set_cons_succ]
    refine wpAnyH_done (by kernel_rfl) ?_ _
    go_wp2
    go_ret
    exact ⟨by rw [HE.out]; rfl, hBs.trans ((hk1).mono hBs.size)⟩
end Go.Proofs.YtdfplenniamnoaaGreatDoor

/-! package tx: Same, Copy; what the premise asks (mktxd.py) -/
namespace Go.Proofs.YtdfplenniamnoaaGreatDoor
open Go Go.RowKit Go.ChangeShapes Go.WideShapes
set_option maxRecDepth 100000 in
set_option maxHeartbeats 16000000 in
theorem clone_sp (a : Option Addr) (n c : Nat) (L : List Tx.Sp) (w : World) (h : Recs spRec w a n L) (hc : a = none → c = 0) (hn : n ≤ 1000000000) :
    Calls Tryz.prog 113 #[.slice a n c] w fun e w' => ∃ v, e = .returned v ∧ OwnR spRec 110 w.heap.size w' v L ∧ Below w.heap.size w w' := by
  cases a with
  | none =>
    obtain rfl := hc rfl
    have h0 : n = 0 := by
      rcases Nat.eq_zero_or_pos n with h0 | h0
      · exact h0
      · obtain ⟨s, hs⟩ := h.get h0
        obtain ⟨_, e, _⟩ := h.2.2.2 0 s hs
        cases e
    subst h0
    obtain rfl := List.length_eq_zero_iff.1 h.1
    have hq := Lib.run_eql_slice_nil (P := Tryz.prog) w 23 110 none 0 0 0 0 Tryz.underlying23
    go_enter Tryz.func113, Tryz.ntmps113
    go_wp2
    go_ret
    exact ⟨_, rfl, OwnR.nil _ _ _ _, Below.refl _ _⟩
  | some x =>
    have HB := Lib.hid ((Below.refl w.heap.size w).alloc (Nat.le_refl _) (.cells #[] 110))
    have HO := Lib.hid (show OwnR spRec 110 w.heap.size (w.alloc (.cells #[] 110)) (.slice (some ⟨w.heap.size, 0, none⟩) 0 0) [] from OwnR.empty (Nat.le_refl _) (Has.fresh _ _ _))
    have HA := Lib.hid (h.past (.cells #[] 110))
    have HN := Lib.hid hn
    have hq := Lib.run_eql_slice_nil (P := Tryz.prog) w 23 110 (some x) n c 0 0 Tryz.underlying23
    clear h hn hc
    go_enter Tryz.func113, Tryz.ntmps113
    go_wp2_with (at_builtin; refine wpList_append_recs (R := spRec) rfl (.tmp 5) (.tmp 6) 23 rfl 110 Tryz.underlying23 info_spend rfl (by decide) w.heap.size _ [] rfl HO.out (some x) n c L rfl HA.out (fun e => by cases e) (by have := HN.out; simp; omega) (by simp) ?_; intro v3 w3 ho3 hg3 hl3)
    go_ret
    rw [List.nil_append] at ho3
    exact ⟨_, rfl, ho3, below_own_recs HB.out hg3 HO.out.lt⟩
set_option maxRecDepth 100000 in
set_option maxHeartbeats 16000000 in
theorem clone_co (a : Option Addr) (n c : Nat) (L : List Tx.Co) (w : World) (h : Recs coRec w a n L) (hc : a = none → c = 0) (hn : n ≤ 1000000000) :
    Calls Tryz.prog 114 #[.slice a n c] w fun e w' => ∃ v, e = .returned v ∧ OwnR coRec 39 w.heap.size w' v L ∧ Below w.heap.size w w' := by
  cases a with
  | none =>
    obtain rfl := hc rfl
    have h0 : n = 0 := by
      rcases Nat.eq_zero_or_pos n with h0 | h0
      · exact h0
      · obtain ⟨s, hs⟩ := h.get h0
        obtain ⟨_, e, _⟩ := h.2.2.2 0 s hs
        cases e
    subst h0
    obtain rfl := List.length_eq_zero_iff.1 h.1
    have hq := Lib.run_eql_slice_nil (P := Tryz.prog) w 24 39 none 0 0 0 0 Tryz.underlying24
    go_enter Tryz.func114, Tryz.ntmps114
    go_wp2
    go_ret
    exact ⟨_, rfl, OwnR.nil _ _ _ _, Below.refl _ _⟩
  | some x =>
    have HB := Lib.hid ((Below.refl w.heap.size w).alloc (Nat.le_refl _) (.cells #[] 39))
    have HO := Lib.hid (show OwnR coRec 39 w.heap.size (w.alloc (.cells #[] 39)) (.slice (some ⟨w.heap.size, 0, none⟩) 0 0) [] from OwnR.empty (Nat.le_refl _) (Has.fresh _ _ _))
    have HA := Lib.hid (h.past (.cells #[] 39))
    have HN := Lib.hid hn
    have hq := Lib.run_eql_slice_nil (P := Tryz.prog) w 24 39 (some x) n c 0 0 Tryz.underlying24
    clear h hn hc
    go_enter Tryz.func114, Tryz.ntmps114
    go_wp2_with (at_builtin; refine wpList_append_recs (R := coRec) rfl (.tmp 5) (.tmp 6) 24 rfl 39 Tryz.underlying24 info_coin rfl (by decide) w.heap.size _ [] rfl HO.out (some x) n c L rfl HA.out (fun e => by cases e) (by have := HN.out; simp; omega) (by simp) ?_; intro v3 w3 ho3 hg3 hl3)
    go_ret
    rw [List.nil_append] at ho3
    exact ⟨_, rfl, ho3, below_own_recs HB.out hg3 HO.out.lt⟩
set_option maxRecDepth 100000 in
set_option maxHeartbeats 16000000 in
theorem pcopy_any (a : Option Addr) (n q : Nat) (b : Option Addr) (m r : Nat) (t : Tx.T) (f : Bool) (hf : f = t.firm) (w : World) (ht : TxAt w a n q b m r t) (hn : n ≤ 1000000000) (hm : m ≤ 1000000000) :
    Calls Tryz.prog 61 #[txv a n q b m r f] w (CopyPost n m t w) := by
  have HF := Lib.hid hf
  obtain ⟨W1, hW1⟩ : ∃ x, x = (w.alloc (.cells #[.slice a n q, .slice b m r, .bool f] 26)).alloc (.cells zTx 26) := ⟨_, rfl⟩
  have hBw : Below w.heap.size w W1 := by
    rw [hW1]
    exact ((Below.refl _ w).alloc (Nat.le_refl _) _).alloc (by simp) _
  have hX : Has W1 w.heap.size 26 #[.slice a n q, .slice b m r, .bool f] := by rw [hW1]; exact (Has.fresh w _ _).past _
  have hR : Has W1 (w.heap.size + 1) 26 zTx := by rw [hW1]; exact Has.fresh_at _ _ _ (by simp)
  have HW := Lib.hid hW1
  have HN := Lib.hid (And.intro hn hm)
  clear hW1 hf hn hm
  go_enter Tryz.func61, Tryz.ntmps61
  go_upto_region 1 with fail
  rw [← HW.out]
  obtain ⟨g1, hg1⟩ : ∃ g, g = w.heap.size := ⟨_, rfl⟩
  have HG := Lib.hid hg1
  rw [← hg1] at hX hR ⊢
  clear hg1
  obtain ⟨ws, hws⟩ : ∃ x, x = W1.drew := ⟨_, rfl⟩
  have hbs : Below W1.heap.size W1 ws := by rw [hws]; exact (Below.refl _ _).drew
  have HXs := Lib.hid (hX.under hbs hX.lt)
  have HRs := Lib.hid (hR.under hbs hR.lt)
  have hBs := hBw.trans (hbs.mono hBw.size)
  have HTs := Lib.hid (ht.below hBs)
  refine wp_region_held_drew (S := HeldM (fun k => k = g1 + 1) ws) (by kernel_rfl) (by rw [hws]; exact HeldM.refl _ _) (fun hHeld => ?_)
  rw [← hws] at hHeld ⊢
  clear hws hbs hX hR ht
  refine take_at (v := ?_) 0 3 rfl rfl (by kernel_rfl) (by kernel_rfl) (by kernel_rfl) (fun _ _ _ h => h) hHeld (Or.inl ⟨by rfl, ?_⟩) rfl ?_
  rotate_left
  · intro wq hSw
    go_simp
    try with_reducible rfl
  simp only [List.set_cons_zero, List.set_cons_succ]
  refine take_at (v := ?_) 1 4 rfl rfl (by kernel_rfl) (by kernel_rfl) (by kernel_rfl) (fun _ _ _ h => h) hHeld (Or.inl ⟨by rfl, ?_⟩) rfl ?_
  rotate_left
  · intro wq hSw
    have hst := (HXs.out.moved hSw.out (fun e => absurd e (Nat.ne_of_lt (Nat.lt_succ_self _)))).cell_at (i := 0) rfl
    go_simp
    try with_reducible rfl
  simp only [List.set_cons_zero, List.set_cons_succ]
  refine take_at (v := ?_) 3 6 rfl rfl (by kernel_rfl) (by kernel_rfl) (by kernel_rfl) (fun _ _ _ h => h) hHeld (Or.inl ⟨by rfl, ?_⟩) rfl ?_
  rotate_left
  · intro wq hSw
    go_simp
    try with_reducible rfl
  simp only [List.set_cons_zero, List.set_cons_succ]
  refine take_at (v := ?_) 4 7 rfl rfl (by kernel_rfl) (by kernel_rfl) (by kernel_rfl) (fun _ _ _ h => h) hHeld (Or.inl ⟨by rfl, ?_⟩) rfl ?_
  rotate_left
  · intro wq hSw
    have hst := (HXs.out.moved hSw.out (fun e => absurd e (Nat.ne_of_lt (Nat.lt_succ_self _)))).cell_at (i := 1) rfl
    go_simp
    try with_reducible rfl
  simp only [List.set_cons_zero, List.set_cons_succ]
  refine take_at (v := ?_) 6 9 rfl rfl (by kernel_rfl) (by kernel_rfl) (by kernel_rfl) (fun _ _ _ h => h) hHeld (Or.inl ⟨by rfl, ?_⟩) rfl ?_
  rotate_left
  · intro wq hSw
    go_simp
    try with_reducible rfl
  simp only [List.set_cons_zero, List.set_cons_succ]
  refine take_at (v := ?_) 7 10 rfl rfl (by kernel_rfl) (by kernel_rfl) (by kernel_rfl) (fun _ _ _ h => h) hHeld (Or.inl ⟨by rfl, ?_⟩) rfl ?_
  rotate_left
  · intro wq hSw
    have hst := (HXs.out.moved hSw.out (fun e => absurd e (Nat.ne_of_lt (Nat.lt_succ_self _)))).cell_at (i := 2) rfl
    go_simp
    try with_reducible rfl
  simp only [List.set_cons_zero, List.set_cons_succ]
  refine wpAnyH_ready (rs := [2]) (by kernel_rfl) (by simp) ?_
  refine AllReadyH.cons rfl (fun K hK => ?_) AllReadyH.nil
  go_simp
  go_at_call 113; refine (clone_sp a n q t.sp ws HTs.out.sp HTs.out.q0 HN.out.1).mono ?_; rintro e w2 ⟨v2, rfl, ho2, hb2⟩; obtain ⟨oa, oc, rfl, _, _, _, _⟩ := ho2.shape HTs.out.sp.1
  refine hK.out _ _ (HeldM.of (Moved.of_below hb2)) (fun _ => ?_)
  clear hK K
  try simp only [Act.put, List.setIfInBounds_toArray, List.set_cons_zero, List.set_cons_succ]
  refine heldM_grow (w1 := w2) (Moved.of_below hb2) ?_
  clear hHeld
  have hHeld : HeldM (fun k => k = g1 + 1) w2 w2 := HeldM.refl _ _
  refine wpAnyH_ready (rs := [5]) (by kernel_rfl) (by simp) ?_
  refine AllReadyH.cons rfl (fun K hK => ?_) AllReadyH.nil
  go_simp
  go_at_call 114; refine (clone_co b m r t.co w2 (HTs.out.co.below hb2) HTs.out.r0 HN.out.2).mono ?_; rintro e w3 ⟨v3, rfl, ho3, hb3⟩; obtain ⟨ob, od, rfl, _, _, _, _⟩ := ho3.shape HTs.out.co.1
  refine hK.out _ _ (HeldM.of (Moved.of_below hb3)) (fun _ => ?_)
  clear hK K
  try simp only [Act.put, List.setIfInBounds_toArray, List.set_cons_zero, List.set_cons_succ]
  refine heldM_grow (w1 := w3) (Moved.of_below hb3) ?_
  clear hHeld
  have hHeld : HeldM (fun k => k = g1 + 1) w3 w3 := HeldM.refl _ _
  have hB3 := hb2.trans (hb3.mono hb2.size)
  have hR3 := HRs.out.under hB3 HRs.out.lt
  refine take_at (v := ?_) 8 11 rfl rfl (by kernel_rfl) (by kernel_rfl) (by kernel_rfl) (fun _ _ _ h => h) hHeld (Or.inl ⟨by rfl, ?_⟩) rfl ?_
  rotate_left
  · intro wq hSw
    go_simp
    try with_reducible rfl
  simp only [List.set_cons_zero, List.set_cons_succ]
  refine wpAnyH_ready (rs := [9]) (by kernel_rfl) (by simp) ?_
  refine AllReadyH.cons rfl (fun K hK => ?_) AllReadyH.nil
  refine step_store_row (by rfl) 26 (.tmp 2) (.tmp 11) rfl (g1 + 1) 0 (#[.slice oa n oc, .slice ob m od, .bool f]) (by first | rfl | simp [Act.eval]) (by first | rfl | simp [Act.eval]) (hR3.there 0 3 (Nat.le_refl _)) (by kernel_rfl) (vRec.all_one ⟨oa, n, oc, ob, m, od, ⟨[], [], f⟩⟩) rfl ?_
  obtain ⟨w6, hw6⟩ : ∃ ww, ww = w3.setCells (g1 + 1) 0 (#[.slice oa n oc, .slice ob m od, .bool f]).toList := ⟨_, rfl⟩
  rw [← hw6]
  have hmw6 : Moved (fun k => k = g1 + 1) w3 w6 := by rw [hw6]; exact Moved.putAll (F := fun k => k = g1 + 1) (.inl rfl) _ 0 (Moved.refl _ _)
  refine hK.out _ _ (HeldM.of hmw6) (fun _ => ?_)
  clear hK K
  refine heldM_grow (w1 := w6) hmw6 ?_
  clear hHeld
  have hHeld : HeldM (fun k => k = g1 + 1) w6 w6 := HeldM.refl _ _
  refine wpAnyH_done (by kernel_rfl) ?_ _
  go_wp2
  have hw7 : w6 = w3.setCells (g1 + 1) 0 [.slice oa n oc, .slice ob m od, .bool f] := hw6
  rw [← hw7]
  have hR6 : Has w6 (g1 + 1) 26 #[.slice oa n oc, .slice ob m od, .bool f] := by rw [hw6]; exact hR3.whole_cs rfl
  have hM6 : Moved (fun k => k = g1 + 1) w3 w6 := by rw [hw6]; exact Moved.putAll (F := fun k => k = g1 + 1) (.inl rfl) _ 0 (Moved.refl _ _)
  have hlt := HRs.out.lt
  have ho6 := (ho2.below hb3).moved hM6 (fun k hk e => by have := ho2.lt k hk; omega)
  have hc6 := ho3.moved hM6 (fun k hk e => by have := ho3.lt k hk; have := hb2.size; omega)
  have hBB := hBs.trans (hB3.mono hBs.size)
  refine bodyPost_ret (results_one_cell rfl _ _ (g1 + 1) rfl _ (hR6.load_var Tryz.underlying26 rfl (by kernel_rfl))) rfl ⟨oa, oc, ob, od, by rw [HF.out], ⟨ho6.low hBs.size, hc6.low (Nat.le_trans hBs.size hb2.size)⟩, ?_⟩
  rw [hw6]
  exact below_setAll (by have := HG.out; omega) _ 0 hBB
end Go.Proofs.YtdfplenniamnoaaGreatDoor

/-! A cell of a record written, in a slice of one's own. Nothing of the program. -/
namespace Go.Proofs.YtdfplenniamnoaaGreatDoor
open Go Go.RowKit Go.ChangeShapes Go.WideShapes
section
variable {α : Type} {R : Rec α}
end
theorem ownr_block {α : Type} {R : Rec α} {T : TypeId} {B k : Nat} {w : World} {v : Value} {L : List α} (h : OwnR R T B w v L) (hk : v.ownBlock = some k) : ∃ cs, Has w k T cs := by
  rcases h.2.2 with ⟨rfl, _⟩ | ⟨j, cap, cur, rfl, _, h2, _⟩
  · cases hk
  · have e : j = k := by simpa [Value.ownBlock] using hk
    subst e
    exact ⟨cur, h2⟩
/-- two results: a variable's cells, a slot -/
theorem results_cellslot {P : Program} {fn : Func} {p q : Tmp} {ty : TypeId} (h : fn.results = #[.cell p ty, .tmp q]) (tmps : Array Value) (w : World) (g : Nat) (hp : tmps.getD p undef = .pointer (some ⟨g, 0, none⟩))
    (v u : Value) (hv : (loadVar ty ⟨g, 0, none⟩).run P w = .ok v w) (hu : tmps.getD q undef = u) : (results fn tmps).run P w = .ok (.tuple #[v, u]) w := by
  rw [Array.getD_eq_getD_getElem?] at hp hu
  simp only [results, h]
  simp [hp, hu, hv, asAddr]
end Go.Proofs.YtdfplenniamnoaaGreatDoor

/-! package lock: Sign, where it copies, then writes keys and seals in order (mklkn.py) -/
namespace Go.Proofs.YtdfplenniamnoaaGreatDoor
open Go Go.RowKit Go.ChangeShapes Go.WideShapes
namespace Lk
end Lk
end Go.Proofs.YtdfplenniamnoaaGreatDoor

/-! LockChecks over the premise (mklkh.py) -/
namespace Go.Proofs.YtdfplenniamnoaaGreatDoor
open Go Go.RowKit Go.ChangeShapes Go.WideShapes
/-- package lock's Check, as a premise -/
def LockChk (KD : World → Prop) : Prop := ∀ (a : Option Addr) (n q : Nat) (b : Option Addr) (m r : Nat) (t : Tx.T) (ca : Option Addr) (cn cq : Nat) (cl : List Tx.Co) (w : World), KD w → TxAt w a n q b m r t → Tx.Small t → Recs coRec w ca cn cl → cn ≤ cq ∧ (ca = none → cq = 0) →
  Calls Tryz.prog 70 #[txv a n q b m r t.firm, .slice ca cn cq] w fun e w' => e = .returned (errn (Lk.check t cl)) ∧ Below w.heap.size w w'
end Go.Proofs.YtdfplenniamnoaaGreatDoor

/-! package lock: Check, where it asks Opens of each spend, in order (mklkm.py) -/
namespace Go.Proofs.YtdfplenniamnoaaGreatDoor
open Go Go.RowKit Go.ChangeShapes Go.WideShapes
set_option maxRecDepth 100000 in
set_option maxHeartbeats 8000000 in
theorem lockChk : LockChk KDg := by
  intro a n q b m r t ca cn cq cl w hT ht hs hc hcq
  obtain ⟨W1, hW1⟩ : ∃ x, x = w.alloc (.cells #[.slice a n q, .slice b m r, .bool t.firm] 26) := ⟨_, rfl⟩
  have hb1 : Below w.heap.size w W1 := by rw [hW1]; exact (Below.refl _ w).alloc (Nat.le_refl _) _
  have hX : Has W1 w.heap.size 26 #[.slice a n q, .slice b m r, .bool t.firm] := by rw [hW1]; exact Has.fresh _ _ _
  have HW := Lib.hid hW1
  have HT := Lib.hid (ht.below hb1)
  have HC := Lib.hid (hc.below hb1)
  have HK := Lib.hid (hT.below hb1)
  have HS := Lib.hid hs
  have hnl : t.sp.length = n := ht.sp.1
  have hcl : cl.length = cn := hc.1
  have hcmx : cn ≤ 9223372036854775807 := hc.2.1
  have hnmx : n ≤ 9223372036854775807 := ht.sp.2.1
  obtain ⟨z, hz⟩ : ∃ z, z = Lk.check t cl := ⟨_, rfl⟩
  rw [← hz]
  have HZ := Lib.hid hz
  obtain ⟨g1, hg1⟩ : ∃ g, g = w.heap.size := ⟨_, rfl⟩
  have HG := Lib.hid hg1
  rw [← hg1] at hX
  have HN := Lib.hid (And.intro hnl hcl)
  clear hW1 ht hc hT hs hnl hcl hz hg1
  have f0 : W1.cell? ⟨g1, 0, none⟩ = some (.slice a n q) := hX.cell_at rfl
  by_cases hne : cn = n
  · subst hne
    obtain ⟨id, hid⟩ : ∃ d, d = Tx.idOf false t := ⟨_, rfl⟩
    have HID := Lib.hid (show Tx.idOf false t = id ∧ id.length = 32 from ⟨hid.symm, by rw [hid]; exact Tx.idOf_len _ _⟩)
    have lX := hX.load_agg (P := Tryz.prog) (t := 26) Tryz.underlying26 rfl (by kernel_rfl)
    clear hid
    go_enter Tryz.func70, Tryz.ntmps70
    go_upto_region 1 with fail
    rw [← HW.out, ← HG.out]
    go_upto_region 4 with (first
      | (refine wpList_store_mid rfl 34 (.tmp 5) (.tmp 16) rfl w2.heap.size 0 (blist id).toArray rfl rfl (there_new w2 _ HID.out.2) (size_hash' HID.out.2) (one_hash _) ?_)
      | (go_at_call 108; refine (pid_any a cn q b m r t t.firm rfl W1 HT.out HS.out HK.out).mono ?_; rw [HID.out.1]; rintro e w2 ⟨rfl, hb2⟩)
      | (refine wpList_load_run rfl 26 (.tmp 2) rfl _ _ rfl lX ?_))
    clear lX f0
    obtain ⟨w3, hw3⟩ : ∃ x, x = (w2.alloc (.cells z32 34)).setCells w2.heap.size 0 (blist id) := ⟨_, rfl⟩
    rw [← hw3]
    obtain ⟨hH, hb3⟩ := hash_new HID.out.2 hw3
    obtain ⟨g5, hg5⟩ : ∃ g, g = w2.heap.size := ⟨_, rfl⟩
    rw [← hg5] at hH ⊢
    have hb13 : Below W1.heap.size W1 w3 := hb2.trans (hb3.mono hb2.size)
    have hX3 := hX.under hb13 hX.lt
    have HT3 := Lib.hid (HT.out.below hb13)
    have HC3 := Lib.hid (HC.out.below hb13)
    have HK3 := Lib.hid (HK.out.below hb13)
    have hw13 := hb1.trans (hb13.mono hb1.size)
    clear hw3 hg5 hX hb2 hb3 hb13
    have f3 : w3.cell? ⟨g1, 0, none⟩ = some (.slice a cn q) := hX3.cell_at rfl
    go_wp2
    clear f3
    go_loopw [20] (fun iv wr => ∃ i : Nat, i ≤ cn ∧ iv = .int .i64 i ∧ RowKit.Hid (∀ (j : Nat) (s : Tx.Sp) (c : Tx.Co), j < i → t.sp[j]? = some s → cl[j]? = some c → Lk.opens s c (Tx.idOf false t) = true) ∧ Below w3.heap.size w3 wr) (fun iv _ => cn - (intOf iv).toNat)
    case atStart => exact ⟨0, Nat.zero_le _, rfl, Lib.hid (fun j s c hj => by omega), Below.refl _ _⟩
    case round =>
      obtain ⟨i, hi, rfl, HB, hb⟩ := hrel
      by_cases hlt : i < cn
      · have hii : (i : Int) < (cn : Int) := by omega
        have hi0 : (0 : Int) ≤ (i : Int) := by omega
        obtain ⟨s, hs⟩ := HT3.out.sp.get hlt
        obtain ⟨c, hc⟩ := HC3.out.get hlt
        obtain ⟨x, hax, _⟩ := HT3.out.sp.2.2.2 i s hs
        obtain ⟨y, hay, _⟩ := HC3.out.2.2.2 i c hc
        subst hax
        subst hay
        have HSC := Lib.hid (show t.sp[i]? = some s ∧ cl[i]? = some c ∧ Tx.SpOk s ∧ s.key.length ≤ 10000 from ⟨hs, hc, HT3.out.sp.okay hs, by have := HS.out.2.2 s (List.mem_of_getElem? hs); omega⟩)
        have hy := spends_at (HT3.out.sp.below hb) hs
        clear hs hc
        go_upto_region 7 with (first
          | (refine wpList_store_mid rfl 110 (.tmp 7) (.tmp 24) rfl wr.heap.size 0 (spCells s).toArray rfl rfl (spRec.there _ _ rfl HSC.out.2.2.1) (spRec.size_eq size_spend HSC.out.2.2.1) (spRec.all_one s) ?_)
          | (refine wpList_load_run rfl 110 (.tmp 23) rfl _ _ rfl hy ?_))
        obtain ⟨w5, hw5⟩ : ∃ x, x = (wr.alloc (.cells zSp 110)).setCells wr.heap.size 0 (spCells s) := ⟨_, rfl⟩
        obtain ⟨hG, hb5⟩ := Rec.new (R := spRec) rfl HSC.out.2.2.1 hw5
        rw [← hw5]
        clear hw5 hy
        obtain ⟨g7, hg7⟩ : ∃ g, g = wr.heap.size := ⟨_, rfl⟩
        rw [← hg7] at hG ⊢
        clear hg7
        replace hb := hb.trans (hb5.mono hb.size)
        clear hb5
        obtain ⟨ws, hws⟩ : ∃ x, x = w5.drew := ⟨_, rfl⟩
        have hbs : Below w5.heap.size w5 ws := by rw [hws]; exact (Below.refl _ _).drew
        have hBs := hb.trans (hbs.mono hb.size)
        have HGs := Lib.hid (hG.under hbs hG.lt)
        have HHs := Lib.hid (hH.under hBs hH.lt)
        have HCs := Lib.hid (HC3.out.below hBs)
        have HKs := Lib.hid (HK3.out.below hBs)
        obtain ⟨o, ho⟩ : ∃ o, o = Lk.opens s c id := ⟨_, rfl⟩
        have HO := Lib.hid ho
        clear ho hG
        refine wp_region_held_drew (S := Held ws) (by kernel_rfl) (by rw [hws]; exact Held.refl _) (fun hHeld => ?_)
        rw [← hws] at hHeld ⊢
        clear hws hbs
        refine take_at 0 25 rfl rfl (by kernel_rfl) (by kernel_rfl) (by kernel_rfl) (fun _ _ _ h => h) hHeld (yieldsIf_load_agg (by rfl) 110 (.tmp 7) rfl _ _ (by rfl) (fun wq hSw => (HGs.out.under hSw HGs.out.lt).load_agg (P := Tryz.prog) (t := 110) Tryz.underlying110 rfl (spRec.size_eq size_spend HSC.out.2.2.1))) rfl ?_
        simp only [List.set_cons_zero, List.set_cons_succ]
        refine take_at (v := ?_) 1 26 rfl rfl (by kernel_rfl) (by kernel_rfl) (by kernel_rfl) (fun _ _ _ h => h) hHeld (Or.inl ⟨by rfl, ?_⟩) rfl ?_
        rotate_left
        · intro wq hSw
          go_simp
          try with_reducible rfl
        simp only [List.set_cons_zero, List.set_cons_succ]
        refine take_at (v := ?_) 2 27 rfl rfl (by kernel_rfl) (by kernel_rfl) (by kernel_rfl) (fun _ _ _ h => h) hHeld (Or.inl ⟨by rfl, ?_⟩) rfl ?_
        rotate_left
        · intro wq hSw
          go_simp
          try with_reducible rfl
        simp only [List.set_cons_zero, List.set_cons_succ]
        refine take_at (v := ?_) 3 28 rfl rfl (by kernel_rfl) (by kernel_rfl) (by kernel_rfl) (fun _ _ _ h => h) hHeld (Or.inl ⟨by rfl, ?_⟩) rfl ?_
        rotate_left
        · intro wq hSw
          go_simp
          try with_reducible rfl
        simp only [List.set_cons_zero, List.set_cons_succ]
        refine take_at 4 29 rfl rfl (by kernel_rfl) (by kernel_rfl) (by kernel_rfl) (fun _ _ _ h => h) hHeld (yieldsIf_load_agg (by rfl) 39 (.tmp 28) rfl _ _ (by rfl) (fun wq hSw => coins_at (HCs.out.below hSw) HSC.out.2.1)) rfl ?_
        simp only [List.set_cons_zero, List.set_cons_succ]
        refine take_at 5 30 rfl rfl (by kernel_rfl) (by kernel_rfl) (by kernel_rfl) (fun _ _ _ h => h) hHeld (yieldsIf_load_agg (by rfl) 34 (.tmp 5) rfl _ _ (by rfl) (fun wq hSw => (HHs.out.under hSw HHs.out.lt).load_agg (P := Tryz.prog) (t := 34) Tryz.underlying34 rfl (size_hash' HID.out.2))) rfl ?_
        simp only [List.set_cons_zero, List.set_cons_succ]
        refine wpAnyH_ready (rs := [6]) (by kernel_rfl) (by simp) ?_
        refine AllReadyH.cons rfl (fun K hK => ?_) AllReadyH.nil
        go_simp
        go_at_call 119; refine (popens_any s c id ws HSC.out.2.2.1 HSC.out.2.2.2 HID.out.2 HKs.out).mono ?_; rw [← HO.out]; rintro e k1 ⟨rfl, hk1⟩
        refine hK.out _ _ (Held.of hk1) (fun _ => ?_)
        clear hK K
        try simp only [Act.put, List.setIfInBounds_toArray, List.set_cons_zero, List.set_cons_succ]
        refine held_grow (w1 := k1) (Held.of hk1) ?_
        clear hHeld
        have hHeld : Held k1 k1 := Held.refl _
        refine take_at (v := ?_) 7 32 rfl rfl (by kernel_rfl) (by kernel_rfl) (by kernel_rfl) (fun _ _ _ h => h) hHeld (Or.inl ⟨by rfl, ?_⟩) rfl ?_
        rotate_left
        · intro wq hSw
          go_simp
          try with_reducible rfl
        simp only [List.set_cons_zero, List.set_cons_succ]
        refine wpAnyH_done (by kernel_rfl) ?_ _
        cases o
        · have HE := Lib.hid (show z = 10 by
            rw [HZ.out, Lk.check, if_pos (by rw [HN.out.1, HN.out.2]), if_neg]
            intro h
            have h2 := h i s c HSC.out.1 HSC.out.2.1
            rw [HID.out.1, ← HO.out] at h2
            cases h2)
          go_wp2
          go_ret
          exact ⟨by rw [HE.out]; rfl, hw13.trans ((hBs.trans (hk1.mono hBs.size)).mono hw13.size)⟩
        · have HB2 := Lib.hid (show ∀ (j : Nat) (s : Tx.Sp) (c : Tx.Co), j < i + 1 → t.sp[j]? = some s → cl[j]? = some c → Lk.opens s c (Tx.idOf false t) = true from fun j u v hj hu hv => by
            rcases Nat.lt_or_ge j i with h | h
            · exact HB.out j u v h hu hv
            · have e2 : j = i := by omega
              subst e2
              rw [HSC.out.1] at hu
              rw [HSC.out.2.1] at hv
              injection hu with hu
              injection hv with hv
              subst hu
              subst hv
              rw [HID.out.1]
              exact HO.out.symm)
          go_wp2
          go_roundw
          case rel => exact ⟨i + 1, by omega, by go_num, HB2, hBs.trans (hk1.mono hBs.size)⟩
          case measure => (simp [intOf]; try omega)
      · have hii : ¬ (i : Int) < (cn : Int) := by omega
        have HE := Lib.hid (show z = 0 by
          rw [HZ.out, Lk.check, if_pos (by rw [HN.out.1, HN.out.2]), if_pos]
          exact fun j s c hs hc => HB.out j s c (by have h9 : j < t.sp.length := (List.getElem?_eq_some_iff.1 hs).1; rw [HN.out.1] at h9; omega) hs hc)
        go_wp2
        go_ret
        exact ⟨by rw [HE.out]; rfl, hw13.trans (hb.mono hw13.size)⟩
  · have HE := Lib.hid (show z = 1 by rw [HZ.out, Lk.check, if_neg (by rw [HN.out.1, HN.out.2]; exact hne)])
    have hnn : ((cn : Int) != (n : Int)) = true := by simp; omega
    go_enter Tryz.func70, Tryz.ntmps70
    go_upto_region 1 with fail
    rw [← HW.out, ← HG.out]
    go_wp2
    go_ret
    exact ⟨by rw [HE.out]; rfl, hb1⟩
end Go.Proofs.YtdfplenniamnoaaGreatDoor

/-! what package coins answers, as a premise -/
namespace Go.Proofs.YtdfplenniamnoaaGreatDoor
open Go Go.RowKit Go.ChangeShapes Go.WideShapes
/-- an Undo: a transaction, the coins that it spent, in memory of their own, made since B -/
structure UndoAt (B : Nat) (w : World) (F : Fp) (ua : Option Addr) (un uq : Nat) (ub : Option Addr) (um ur : Nat) (uc : Option Addr) (uk ul : Nat) (t : Tx.T) (sp : List Tx.Co) : Prop where
  tx : TxOwn B w ua un uq ub um ur t
  co : OwnR coRec 39 B w (.slice uc uk ul) sp
  o1 : ∀ j, (Value.slice ua un uq).ownBlock = some j → ¬ F j
  o2 : ∀ j, (Value.slice ub um ur).ownBlock = some j → ¬ F j
  o3 : ∀ j, (Value.slice uc uk ul).ownBlock = some j → ¬ F j
structure CoinsOk (S : World → Value → Fp → Cs.Mp → Prop) : Prop where
  moved : ∀ {G : Fp} {w w' : World} {v : Value} {F : Fp} {M : Cs.Mp}, S w v F M → Moved G w w' → (∀ j, F j → ¬ G j) → S w' v F M
  lt : ∀ {w : World} {v : Value} {F : Fp} {M : Cs.Mp}, S w v F M → ∀ j, F j → j < w.heap.size
  keys : ∀ {w : World} {v : Value} {F : Fp} {M : Cs.Mp}, S w v F M → Cs.Keys M ∧ ∀ x, x ∈ M → Cs.ptOk x.1 ∧ Tx.CoOk x.2 ∧ Am.Good x.2.v
  new : ∀ (w : World), Calls Tryz.prog 11 #[] w fun e w' => ∃ (v : Value) (F : Fp), e = .returned v ∧ S w' v F [] ∧ (∀ j, F j → w.heap.size ≤ j) ∧ Below w.heap.size w w'
  put : ∀ {w : World} {v : Value} {F : Fp} {M : Cs.Mp} (_ : S w v F M) (p : Cs.Pt) (_ : Cs.ptOk p) (c : Tx.Co) (_ : Tx.CoOk c), Calls Tryz.prog 12 #[v, Cs.ptV p, Cs.coV c] w fun e w' =>
    ∃ (F' : Fp) (M' : Cs.Mp), e = .returned (errn (Cs.putE M p c)) ∧ S w' v F' M' ∧ (∀ q, Cs.look M' q = if Cs.putE M p c = 0 ∧ q = p then some c else Cs.look M q) ∧ Cs.Grown w F F' ∧ Moved F w w' ∧ M'.length ≤ M.length + 1
  len : ∀ {w : World} {v : Value} {F : Fp} {M : Cs.Mp} (_ : S w v F M), Calls Tryz.prog 25 #[v] w fun e w' => e = .returned (.int .i64 M.length) ∧ Below w.heap.size w w'
  worth : ∀ {w : World} {v : Value} {F : Fp} {M : Cs.Mp} (_ : S w v F M) (_ : M.length ≤ 1000000000), Calls Tryz.prog 20 #[v] w fun e w' => e = .returned (.tuple #[.int .i64 (Cs.worthT M).1, errn (Cs.worthT M).2]) ∧ Below w.heap.size w w'
  fee : ∀ {w : World} {v : Value} {F : Fp} {M : Cs.Mp} (_ : S w v F M) (a : Option Addr) (n q : Nat) (b : Option Addr) (m r : Nat) (t : Tx.T) (_ : TxAt w a n q b m r t) (_ : Tx.Small t) (_ : KDg w), Calls Tryz.prog 17 #[v, txv a n q b m r t.firm] w fun e w' =>
    e = .returned (.tuple #[.int .i64 (Cs.feeV M t), errn (Cs.feeE M t)]) ∧ Below w.heap.size w w'
  do_ : ∀ {w : World} {v : Value} {F : Fp} {M : Cs.Mp} (_ : S w v F M) (a : Option Addr) (n q : Nat) (b : Option Addr) (m r : Nat) (t : Tx.T) (_ : TxAt w a n q b m r t) (_ : Tx.Small t) (_ : KDg w), Calls Tryz.prog 15 #[v, txv a n q b m r t.firm] w fun e w' =>
    ∃ (F' : Fp) (M' : Cs.Mp) (ua : Option Addr) (un uq : Nat) (ub : Option Addr) (um ur : Nat) (uc : Option Addr) (uk ul : Nat) (u : Tx.T) (sp : List Tx.Co), e = .returned (.tuple #[.agg #[.slice ua un uq, .slice ub um ur, .bool u.firm, .slice uc uk ul], errn (Cs.doE M (Tx.idOf false t) t)]) ∧ S w' v F' M' ∧ UndoAt w.heap.size w' F' ua un uq ub um ur uc uk ul u sp ∧
      (Cs.doE M (Tx.idOf false t) t = 0 → Cs.IsDo M M' (Tx.idOf false t) t ∧ u = t ∧ sp = Cs.spentOf M t) ∧ (¬ Cs.doE M (Tx.idOf false t) t = 0 → ∀ q, Cs.look M' q = Cs.look M q) ∧ Cs.Grown w F F' ∧ Moved F w w' ∧ M'.length ≤ M.length + t.co.length
/-- the rest of the package -/
structure CoinsOk2 (S : World → Value → Fp → Cs.Mp → Prop) : Prop extends CoinsOk S where
  get : ∀ {w : World} {v : Value} {F : Fp} {M : Cs.Mp} (_ : S w v F M) (p : Cs.Pt) (_ : Cs.ptOk p), Calls Tryz.prog 21 #[v, Cs.ptV p] w fun e w' => e = .returned (.tuple #[Cs.coV ((Cs.look M p).getD ⟨0, 0#64⟩), .bool (Cs.look M p).isSome]) ∧ Below w.heap.size w w'
  points : ∀ {w : World} {v : Value} {F : Fp} {M : Cs.Mp} (_ : S w v F M) (_ : M.length ≤ 1000000000), Calls Tryz.prog 26 #[v] w fun e w' => ∃ (a : Option Addr) (n q : Nat) (L : List Cs.Pt), e = .returned (.slice a n q) ∧ Recs ptRec w' a n L ∧ (n ≤ q ∧ (a = none → q = 0)) ∧ L.Pairwise Cs.Ahead ∧ L.Perm (M.map (·.1)) ∧ Below w.heap.size w w'
  back : ∀ {w : World} {v : Value} {F : Fp} {M : Cs.Mp} (_ : S w v F M) (a : Option Addr) (n q : Nat) (b : Option Addr) (m r : Nat) (t : Tx.T) (c : Option Addr) (k l : Nat) (sp : List Tx.Co) (_ : TxAt w a n q b m r t) (_ : Tx.Small t) (_ : Recs coRec w c k sp) (_ : k ≤ l ∧ (c = none → l = 0)) (_ : ∀ x, x ∈ sp → Am.Good x.v) (_ : KDg w),
    Calls Tryz.prog 24 #[v, .agg #[.slice a n q, .slice b m r, .bool t.firm, .slice c k l]] w fun e w' => ∃ (F' : Fp) (M' : Cs.Mp), e = .returned (errn (Cs.backE M (Tx.idOf false t) t sp)) ∧ S w' v F' M' ∧
      (Cs.backE M (Tx.idOf false t) t sp = 0 → Cs.IsBack M M' (Tx.idOf false t) t sp) ∧ (¬ Cs.backE M (Tx.idOf false t) t sp = 0 → ∀ q, Cs.look M' q = Cs.look M q) ∧ Cs.Grown w F F' ∧ Moved F w w' ∧ M'.length ≤ M.length + t.sp.length
  copy : ∀ {w : World} {v : Value} {F : Fp} {M : Cs.Mp} (_ : S w v F M), Calls Tryz.prog 14 #[v] w fun e w' => ∃ (v' : Value) (F' : Fp) (M' : Cs.Mp), e = .returned v' ∧ S w' v' F' M' ∧ (∀ q, Cs.look M' q = Cs.look M q) ∧ (∀ j, F' j → w.heap.size ≤ j) ∧ Below w.heap.size w w' ∧ M'.length = M.length
section
variable {S : World → Value → Fp → Cs.Mp → Prop} (ok : CoinsOk S) {w w' : World} {v : Value} {F : Fp} {M : Cs.Mp}
include ok
theorem CoinsOk.below (h : S w v F M) (hb : Below w.heap.size w w') : S w' v F M := ok.moved (G := fun _ => False) h (Moved.of_below hb) (fun _ _ e => e)
end
end Go.Proofs.YtdfplenniamnoaaGreatDoor
