/- the reference's Check (mklkc.py) -/
import Derived.Test.YtcedecljbgailaaDoorLkO
import Derived.Test.YtcedecljbgailaaDoorLkS
import Derived.Test.YtcedecljbgailaaDoorTxI
import Derived.Test.YtcedecljbgailaaDoorTxN
namespace Go.Proofs.YtcedecljbgailaaDoor
open Go Go.RowKit Go.ChangeShapes Go.WideShapes
namespace Lk
/-- each spend opens the coin of its place -/
def All (t : Tx.T) (cl : List Tx.Co) : Prop := ∀ (j : Nat) (s : Tx.Sp) (c : Tx.Co), t.sp[j]? = some s → cl[j]? = some c → opens s c (Tx.idOf false t) = true
theorem all_iff (f : Tx.Sp → Tx.Co → Bool) : ∀ (l : List Tx.Sp) (k : List Tx.Co), ((l.zip k).all (fun p => f p.1 p.2) = true ↔ ∀ (j : Nat) (s : Tx.Sp) (c : Tx.Co), l[j]? = some s → k[j]? = some c → f s c = true)
  | [], k => ⟨(fun _ j s c h => by simp at h), fun _ => rfl⟩
  | s :: l, [] => ⟨(fun _ j u c _ h => by simp at h), fun _ => rfl⟩
  | s :: l, c :: k => by
    rw [List.zip_cons_cons, List.all_cons, Bool.and_eq_true, all_iff f l k]
    constructor
    · rintro ⟨h1, h2⟩ j u v hu hv
      cases j with
      | zero =>
        simp at hu hv
        rw [← hu, ← hv]
        exact h1
      | succ j => exact h2 j u v (by simpa using hu) (by simpa using hv)
    · intro h
      exact ⟨h 0 s c rfl rfl, fun j u v hu hv => h (j + 1) u v (by simpa using hu) (by simpa using hv)⟩
instance (t : Tx.T) (cl : List Tx.Co) : Decidable (All t cl) := decidable_of_iff _ (all_iff (fun s c => opens s c (Tx.idOf false t)) t.sp cl)
/-- why spends don't open their coins; 0: they do -/
def check (t : Tx.T) (cl : List Tx.Co) : Int := if cl.length = t.sp.length then (if All t cl then 0 else 10) else 1
end Lk
set_option maxRecDepth 100000 in
set_option maxHeartbeats 8000000 in
theorem rlcheck_any (a : Option Addr) (n q : Nat) (b : Option Addr) (m r : Nat) (t : Tx.T) (ca : Option Addr) (cn cq : Nat) (cl : List Tx.Co) (w : World) (ht : TxAt w a n q b m r t) (hs : Tx.Small t) (hc : Recs coRec w ca cn cl) (hT : Tab32 w 1 Dg.kL) :
    Calls Tryd.prog 22 #[txv a n q b m r t.firm, .slice ca cn cq] w fun e w' => e = .returned (.int .i64 (Lk.check t cl)) ∧ Below w.heap.size w w' := by
  obtain ⟨W1, hW1⟩ : ∃ x, x = w.alloc (.cells #[.slice a n q, .slice b m r, .bool t.firm] 38) := ⟨_, rfl⟩
  have hb1 : Below w.heap.size w W1 := by rw [hW1]; exact (Below.refl _ w).alloc (Nat.le_refl _) _
  have hX : Has W1 w.heap.size 38 #[.slice a n q, .slice b m r, .bool t.firm] := by rw [hW1]; exact Has.fresh _ _ _
  have HW := Lib.hid hW1
  have HT := Lib.hid (ht.below hb1)
  have HC := Lib.hid (hc.below hb1)
  have HK := Lib.hid (hT.below hb1)
  have HS := Lib.hid hs
  have hnl : t.sp.length = n := ht.sp.1
  have hcl : cl.length = cn := hc.1
  have hcmx : cn ≤ 9223372036854775807 := hc.2.1
  have hnmx : n ≤ 9223372036854775807 := ht.sp.2.1
  obtain ⟨z, hz⟩ : ∃ z, z = Lk.check t cl := ⟨_, rfl⟩
  rw [← hz]
  have HZ := Lib.hid hz
  obtain ⟨g1, hg1⟩ : ∃ g, g = w.heap.size := ⟨_, rfl⟩
  have HG := Lib.hid hg1
  rw [← hg1] at hX
  have HN := Lib.hid (And.intro hnl hcl)
  clear hW1 ht hc hT hs hnl hcl hz hg1
  have f0 : W1.cell? ⟨g1, 0, none⟩ = some (.slice a n q) := hX.cell_at rfl
  by_cases hne : cn = n
  · subst hne
    go_enter Tryd.func22, Tryd.ntmps22
    go_upto_region 1 with fail
    rw [← HW.out, ← HG.out]
    go_wp2
    clear f0
    go_loopw [5] (fun iv wr => ∃ i : Nat, i ≤ cn ∧ iv = .int .i64 i ∧ RowKit.Hid (∀ (j : Nat) (s : Tx.Sp) (c : Tx.Co), j < i → t.sp[j]? = some s → cl[j]? = some c → Lk.opens s c (Tx.idOf false t) = true) ∧ Below W1.heap.size W1 wr) (fun iv _ => cn - (intOf iv).toNat)
    case atStart => exact ⟨0, Nat.zero_le _, rfl, Lib.hid (fun j s c hj => by omega), Below.refl _ _⟩
    case round =>
      obtain ⟨i, hi, rfl, HB, hb⟩ := hrel
      by_cases hlt : i < cn
      · have hii : (i : Int) < (cn : Int) := by omega
        have hi0 : (0 : Int) ≤ (i : Int) := by omega
        obtain ⟨s, hs⟩ := HT.out.sp.get hlt
        obtain ⟨c, hc⟩ := HC.out.get hlt
        obtain ⟨x, hax, _⟩ := HT.out.sp.2.2.2 i s hs
        obtain ⟨y, hay, _⟩ := HC.out.2.2.2 i c hc
        subst hax
        subst hay
        have HSC := Lib.hid (show t.sp[i]? = some s ∧ cl[i]? = some c ∧ Tx.SpOk s ∧ s.key.length ≤ 10000 from ⟨hs, hc, HT.out.sp.okay hs, by have := HS.out.2.2 s (List.mem_of_getElem? hs); omega⟩)
        clear hs hc
        go_upto_region 6 with fail
        obtain ⟨ws, hws⟩ : ∃ x, x = wr.drew := ⟨_, rfl⟩
        have hbs : Below wr.heap.size wr ws := by rw [hws]; exact (Below.refl _ _).drew
        have hBs := hb.trans (hbs.mono hb.size)
        have HXs := Lib.hid (hX.under hBs hX.lt)
        have HTs := Lib.hid (HT.out.below hBs)
        have HCs := Lib.hid (HC.out.below hBs)
        have HKs := Lib.hid (HK.out.below hBs)
        obtain ⟨id, hid⟩ : ∃ d, d = Tx.idOf false t := ⟨_, rfl⟩
        have HID := Lib.hid (show Tx.idOf false t = id ∧ id.length = 32 from ⟨hid.symm, by rw [hid]; exact Tx.idOf_len _ _⟩)
        obtain ⟨o, ho⟩ : ∃ o, o = Lk.opens s c id := ⟨_, rfl⟩
        have HO := Lib.hid ho
        clear hid ho
        refine wp_region_held_drew (S := Held ws) (by kernel_rfl) (by rw [hws]; exact Held.refl _) (fun hHeld => ?_)
        rw [← hws] at hHeld ⊢
        clear hws hbs
        refine take_at (v := ?_) 0 18 rfl rfl (by kernel_rfl) (by kernel_rfl) (by kernel_rfl) (fun _ _ _ h => h) hHeld (Or.inl ⟨by rfl, ?_⟩) rfl ?_
        rotate_left
        · intro wq hSw
          go_simp
          try with_reducible rfl
        simp only [List.set_cons_zero, List.set_cons_succ]
        refine take_at (v := ?_) 1 19 rfl rfl (by kernel_rfl) (by kernel_rfl) (by kernel_rfl) (fun _ _ _ h => h) hHeld (Or.inl ⟨by rfl, ?_⟩) rfl ?_
        rotate_left
        · intro wq hSw
          have hst := (HXs.out.under hSw HXs.out.lt).cell_at (i := 0) rfl
          go_simp
          try with_reducible rfl
        simp only [List.set_cons_zero, List.set_cons_succ]
        refine take_at (v := ?_) 2 20 rfl rfl (by kernel_rfl) (by kernel_rfl) (by kernel_rfl) (fun _ _ _ h => h) hHeld (Or.inl ⟨by rfl, ?_⟩) rfl ?_
        rotate_left
        · intro wq hSw
          go_simp
          try with_reducible rfl
        simp only [List.set_cons_zero, List.set_cons_succ]
        refine take_at (v := ?_) 3 21 rfl rfl (by kernel_rfl) (by kernel_rfl) (by kernel_rfl) (fun _ _ _ h => h) hHeld (Or.inl ⟨by rfl, ?_⟩) rfl ?_
        rotate_left
        · intro wq hSw
          go_simp
          try with_reducible rfl
        simp only [List.set_cons_zero, List.set_cons_succ]
        refine take_at 4 22 rfl rfl (by kernel_rfl) (by kernel_rfl) (by kernel_rfl) (fun _ _ _ h => h) hHeld (yieldsIf_load_agg (by rfl) 28 (.tmp 21) rfl _ _ (by rfl) (fun wq hSw => spends_at (HTs.out.sp.below hSw) HSC.out.1)) rfl ?_
        simp only [List.set_cons_zero, List.set_cons_succ]
        refine take_at (v := ?_) 5 23 rfl rfl (by kernel_rfl) (by kernel_rfl) (by kernel_rfl) (fun _ _ _ h => h) hHeld (Or.inl ⟨by rfl, ?_⟩) rfl ?_
        rotate_left
        · intro wq hSw
          go_simp
          try with_reducible rfl
        simp only [List.set_cons_zero, List.set_cons_succ]
        refine take_at (v := ?_) 6 24 rfl rfl (by kernel_rfl) (by kernel_rfl) (by kernel_rfl) (fun _ _ _ h => h) hHeld (Or.inl ⟨by rfl, ?_⟩) rfl ?_
        rotate_left
        · intro wq hSw
          go_simp
          try with_reducible rfl
        simp only [List.set_cons_zero, List.set_cons_succ]
        refine take_at (v := ?_) 7 25 rfl rfl (by kernel_rfl) (by kernel_rfl) (by kernel_rfl) (fun _ _ _ h => h) hHeld (Or.inl ⟨by rfl, ?_⟩) rfl ?_
        rotate_left
        · intro wq hSw
          go_simp
          try with_reducible rfl
        simp only [List.set_cons_zero, List.set_cons_succ]
        refine take_at 8 26 rfl rfl (by kernel_rfl) (by kernel_rfl) (by kernel_rfl) (fun _ _ _ h => h) hHeld (yieldsIf_load_agg (by rfl) 30 (.tmp 25) rfl _ _ (by rfl) (fun wq hSw => coins_at (HCs.out.below hSw) HSC.out.2.1)) rfl ?_
        simp only [List.set_cons_zero, List.set_cons_succ]
        refine take_at 9 27 rfl rfl (by kernel_rfl) (by kernel_rfl) (by kernel_rfl) (fun _ _ _ h => h) hHeld (yieldsIf_load_agg (by rfl) 38 (.tmp 2) rfl _ _ (by rfl) (fun wq hSw => (HXs.out.under hSw HXs.out.lt).load_agg (P := Tryd.prog) (t := 38) Tryd.underlying38 rfl (by kernel_rfl))) rfl ?_
        simp only [List.set_cons_zero, List.set_cons_succ]
        refine wpAnyH_ready (rs := [10]) (by kernel_rfl) (by simp) ?_
        refine AllReadyH.cons rfl (fun K hK => ?_) AllReadyH.nil
        go_simp
        go_at_call 29; refine (rid_any (some x) cn q b m r t ws HTs.out HS.out HKs.out).mono ?_; rw [HID.out.1]; rintro e k1 ⟨rfl, hk1⟩
        refine hK.out _ _ (Held.of hk1) (fun _ => ?_)
        clear hK K
        try simp only [Act.put, List.setIfInBounds_toArray, List.set_cons_zero, List.set_cons_succ]
        refine held_grow (w1 := k1) (Held.of hk1) ?_
        clear hHeld
        have hHeld : Held k1 k1 := Held.refl _
        refine wpAnyH_ready (rs := [11]) (by kernel_rfl) (by simp) ?_
        refine AllReadyH.cons rfl (fun K hK => ?_) AllReadyH.nil
        go_simp
        go_at_call 12; refine (ropens_any s c id k1 HSC.out.2.2.1 HSC.out.2.2.2 HID.out.2 (HKs.out.below hk1)).mono ?_; rw [← HO.out]; rintro e k2 ⟨rfl, hk2⟩
        refine hK.out _ _ (Held.of hk2) (fun _ => ?_)
        clear hK K
        try simp only [Act.put, List.setIfInBounds_toArray, List.set_cons_zero, List.set_cons_succ]
        refine held_grow (w1 := k2) (Held.of hk2) ?_
        clear hHeld
        have hHeld : Held k2 k2 := Held.refl _
        have hk12 := hk1.trans (hk2.mono hk1.size)
        refine take_at (v := ?_) 12 30 rfl rfl (by kernel_rfl) (by kernel_rfl) (by kernel_rfl) (fun _ _ _ h => h) hHeld (Or.inl ⟨by rfl, ?_⟩) rfl ?_
        rotate_left
        · intro wq hSw
          go_simp
          try with_reducible rfl
        simp only [List.set_cons_zero, List.set_cons_succ]
        refine wpAnyH_done (by kernel_rfl) ?_ _
        cases o
        · have HE := Lib.hid (show z = 10 by
            rw [HZ.out, Lk.check, if_pos (by rw [HN.out.1, HN.out.2]), if_neg]
            intro h
            have h2 := h i s c HSC.out.1 HSC.out.2.1
            rw [HID.out.1, ← HO.out] at h2
            cases h2)
          go_wp2
          go_ret
          exact ⟨by rw [HE.out]; rfl, hb1.trans ((hBs.trans (hk12.mono hBs.size)).mono hb1.size)⟩
        · have HB2 := Lib.hid (show ∀ (j : Nat) (s : Tx.Sp) (c : Tx.Co), j < i + 1 → t.sp[j]? = some s → cl[j]? = some c → Lk.opens s c (Tx.idOf false t) = true from fun j u v hj hu hv => by
            rcases Nat.lt_or_ge j i with h | h
            · exact HB.out j u v h hu hv
            · have e2 : j = i := by omega
              subst e2
              rw [HSC.out.1] at hu
              rw [HSC.out.2.1] at hv
              injection hu with hu
              injection hv with hv
              subst hu
              subst hv
              rw [HID.out.1]
              exact HO.out.symm)
          go_wp2
          go_roundw
          case rel => exact ⟨i + 1, by omega, by go_num, HB2, hBs.trans (hk12.mono hBs.size)⟩
          case measure => (simp [intOf]; try omega)
      · have hii : ¬ (i : Int) < (cn : Int) := by omega
        have HE := Lib.hid (show z = 0 by
          rw [HZ.out, Lk.check, if_pos (by rw [HN.out.1, HN.out.2]), if_pos]
          exact fun j s c hs hc => HB.out j s c (by have h9 : j < t.sp.length := (List.getElem?_eq_some_iff.1 hs).1; rw [HN.out.1] at h9; omega) hs hc)
        go_wp2
        go_ret
        exact ⟨by rw [HE.out]; rfl, hb1.trans (hb.mono hb1.size)⟩
  · have HE := Lib.hid (show z = 1 by rw [HZ.out, Lk.check, if_neg (by rw [HN.out.1, HN.out.2]; exact hne)])
    have hnn : ((cn : Int) != (n : Int)) = true := by simp; omega
    go_enter Tryd.func22, Tryd.ntmps22
    go_upto_region 1 with fail
    rw [← HW.out, ← HG.out]
    go_wp2
    go_ret
    exact ⟨by rw [HE.out]; rfl, hb1⟩
end Go.Proofs.YtcedecljbgailaaDoor
