/- the reference's Check (mklkc.py) · What applying and taking back comes to (pure): fees, errors, worth. Nothing of the program. · Errors of Fee, Do, Back (pure); that a second Do fails, that a Back is possible. Nothing of the program. -/
import Derived.Test.YtagjolbpmhbifaaGreatDoorLkr
import Derived.Test.YtagjolbpmhbifaaGreatDoorTxI
import Derived.Test.YtagjolbpmhbifaaGreatDoorTxz
import Derived.Test.YtagjolbpmhbifaaGreatDoorCsz
import Derived.Test.YtagjolbpmhbifaaGreatDoorTxR
/-! the reference's Check (mklkc.py) -/
namespace Go.Proofs.YtagjolbpmhbifaaGreatDoor
open Go Go.RowKit Go.ChangeShapes Go.WideShapes
namespace Lk
/-- each spend opens the coin of its place -/
def All (t : Tx.T) (cl : List Tx.Co) : Prop := ∀ (j : Nat) (s : Tx.Sp) (c : Tx.Co), t.sp[j]? = some s → cl[j]? = some c → opens s c (Tx.idOf false t) = true
theorem all_iff (f : Tx.Sp → Tx.Co → Bool) : ∀ (l : List Tx.Sp) (k : List Tx.Co), ((l.zip k).all (fun p => f p.1 p.2) = true ↔ ∀ (j : Nat) (s : Tx.Sp) (c : Tx.Co), l[j]? = some s → k[j]? = some c → f s c = true)
  | [], k => ⟨(fun _ j s c h => by simp at h), fun _ => rfl⟩
  | s :: l, [] => ⟨(fun _ j u c _ h => by simp at h), fun _ => rfl⟩
  | s :: l, c :: k => by
    rw [List.zip_cons_cons, List.all_cons, Bool.and_eq_true, all_iff f l k]
    constructor
    · rintro ⟨h1, h2⟩ j u v hu hv
      cases j with
      | zero =>
        simp at hu hv
        rw [← hu, ← hv]
        exact h1
      | succ j => exact h2 j u v (by simpa using hu) (by simpa using hv)
    · intro h
      exact ⟨h 0 s c rfl rfl, fun j u v hu hv => h (j + 1) u v (by simpa using hu) (by simpa using hv)⟩
instance (t : Tx.T) (cl : List Tx.Co) : Decidable (All t cl) := decidable_of_iff _ (all_iff (fun s c => opens s c (Tx.idOf false t)) t.sp cl)
/-- why spends don't open their coins; 0: they do -/
def check (t : Tx.T) (cl : List Tx.Co) : Int := if cl.length = t.sp.length then (if All t cl then 0 else 10) else 1
end Lk
set_option maxRecDepth 100000 in
set_option maxHeartbeats 8000000 in
theorem rlcheck_any (a : Option Addr) (n q : Nat) (b : Option Addr) (m r : Nat) (t : Tx.T) (ca : Option Addr) (cn cq : Nat) (cl : List Tx.Co) (w : World) (ht : TxAt w a n q b m r t) (hs : Tx.Small t) (hc : Recs coRec w ca cn cl) (hT : Tab32 w 2 Dg.kL) :
    Calls Tryz.prog 77 #[txv a n q b m r t.firm, .slice ca cn cq] w fun e w' => e = .returned (.int .i64 (Lk.check t cl)) ∧ Below w.heap.size w w' := by
  obtain ⟨W1, hW1⟩ : ∃ x, x = w.alloc (.cells #[.slice a n q, .slice b m r, .bool t.firm] 39) := ⟨_, rfl⟩
  have hb1 : Below w.heap.size w W1 := by rw [hW1]; exact (Below.refl _ w).alloc (Nat.le_refl _) _
  have hX : Has W1 w.heap.size 39 #[.slice a n q, .slice b m r, .bool t.firm] := by rw [hW1]; exact Has.fresh _ _ _
  have HW := Lib.hid hW1
  have HT := Lib.hid (ht.below hb1)
  have HC := Lib.hid (hc.below hb1)
  have HK := Lib.hid (hT.below hb1)
  have HS := Lib.hid hs
  have hnl : t.sp.length = n := ht.sp.1
  have hcl : cl.length = cn := hc.1
  have hcmx : cn ≤ 9223372036854775807 := hc.2.1
  have hnmx : n ≤ 9223372036854775807 := ht.sp.2.1
  obtain ⟨z, hz⟩ : ∃ z, z = Lk.check t cl := ⟨_, rfl⟩
  rw [← hz]
  have HZ := Lib.hid hz
  obtain ⟨g1, hg1⟩ : ∃ g, g = w.heap.size := ⟨_, rfl⟩
  have HG := Lib.hid hg1
  rw [← hg1] at hX
  have HN := Lib.hid (And.intro hnl hcl)
  clear hW1 ht hc hT hs hnl hcl hz hg1
  have f0 : W1.cell? ⟨g1, 0, none⟩ = some (.slice a n q) := hX.cell_at rfl
  by_cases hne : cn = n
  · subst hne
    go_enter Tryz.func77, Tryz.ntmps77
    go_upto_region 1 with fail
    rw [← HW.out, ← HG.out]
    go_wp2
    clear f0
    go_loopw [5] (fun iv wr => ∃ i : Nat, i ≤ cn ∧ iv = .int .i64 i ∧ RowKit.Hid (∀ (j : Nat) (s : Tx.Sp) (c : Tx.Co), j < i → t.sp[j]? = some s → cl[j]? = some c → Lk.opens s c (Tx.idOf false t) = true) ∧ Below W1.heap.size W1 wr) (fun iv _ => cn - (intOf iv).toNat)
    case atStart => exact ⟨0, Nat.zero_le _, rfl, Lib.hid (fun j s c hj => by omega), Below.refl _ _⟩
    case round =>
      obtain ⟨i, hi, rfl, HB, hb⟩ := hrel
      by_cases hlt : i < cn
      · have hii : (i : Int) < (cn : Int) := by omega
        have hi0 : (0 : Int) ≤ (i : Int) := by omega
        obtain ⟨s, hs⟩ := HT.out.sp.get hlt
        obtain ⟨c, hc⟩ := HC.out.get hlt
        obtain ⟨x, hax, _⟩ := HT.out.sp.2.2.2 i s hs
        obtain ⟨y, hay, _⟩ := HC.out.2.2.2 i c hc
        subst hax
        subst hay
        have HSC := Lib.hid (show t.sp[i]? = some s ∧ cl[i]? = some c ∧ Tx.SpOk s ∧ s.key.length ≤ 10000 from ⟨hs, hc, HT.out.sp.okay hs, by have := HS.out.2.2 s (List.mem_of_getElem? hs); omega⟩)
        clear hs hc
        go_upto_region 6 with fail
        obtain ⟨ws, hws⟩ : ∃ x, x = wr.drew := ⟨_, rfl⟩
        have hbs : Below wr.heap.size wr ws := by rw [hws]; exact (Below.refl _ _).drew
        have hBs := hb.trans (hbs.mono hb.size)
        have HXs := Lib.hid (hX.under hBs hX.lt)
        have HTs := Lib.hid (HT.out.below hBs)
        have HCs := Lib.hid (HC.out.below hBs)
        have HKs := Lib.hid (HK.out.below hBs)
        obtain ⟨id, hid⟩ : ∃ d, d = Tx.idOf false t := ⟨_, rfl⟩
        have HID := Lib.hid (show Tx.idOf false t = id ∧ id.length = 32 from ⟨hid.symm, by rw [hid]; exact Tx.idOf_len _ _⟩)
        obtain ⟨o, ho⟩ : ∃ o, o = Lk.opens s c id := ⟨_, rfl⟩
        have HO := Lib.hid ho
        clear hid ho
        refine wp_region_held_drew (S := Held ws) (by kernel_rfl) (by rw [hws]; exact Held.refl _) (fun hHeld => ?_)
        rw [← hws] at hHeld ⊢
        clear hws hbs
        refine take_at (v := ?_) 0 18 rfl rfl (by kernel_rfl) (by kernel_rfl) (by kernel_rfl) (fun _ _ _ h => h) hHeld (Or.inl ⟨by rfl, ?_⟩) rfl ?_
        rotate_left
        · intro wq hSw
          go_simp
          try with_reducible rfl
        simp only [List.set_cons_zero, List.set_cons_succ]
        refine take_at (v := ?_) 1 19 rfl rfl (by kernel_rfl) (by kernel_rfl) (by kernel_rfl) (fun _ _ _ h => h) hHeld (Or.inl ⟨by rfl, ?_⟩) rfl ?_
        rotate_left
        · intro wq hSw
          have hst := (HXs.out.under hSw HXs.out.lt).cell_at (i := 0) rfl
          go_simp
          try with_reducible rfl
        simp only [List.set_cons_zero, List.set_cons_succ]
        refine take_at (v := ?_) 2 20 rfl rfl (by kernel_rfl) (by kernel_rfl) (by kernel_rfl) (fun _ _ _ h => h) hHeld (Or.inl ⟨by rfl, ?_⟩) rfl ?_
        rotate_left
        · intro wq hSw
          go_simp
          try with_reducible rfl
        simp only [List.set_cons_zero, List.set_cons_succ]
        refine take_at (v := ?_) 3 21 rfl rfl (by kernel_rfl) (by kernel_rfl) (by kernel_rfl) (fun _ _ _ h => h) hHeld (Or.inl ⟨by rfl, ?_⟩) rfl ?_
        rotate_left
        · intro wq hSw
          go_simp
          try with_reducible rfl
        simp only [List.set_cons_zero, List.set_cons_succ]
        refine take_at 4 22 rfl rfl (by kernel_rfl) (by kernel_rfl) (by kernel_rfl) (fun _ _ _ h => h) hHeld (yieldsIf_load_agg (by rfl) 75 (.tmp 21) rfl _ _ (by rfl) (fun wq hSw => spends_at (HTs.out.sp.below hSw) HSC.out.1)) rfl ?_
        simp only [List.set_cons_zero, List.set_cons_succ]
        refine take_at (v := ?_) 5 23 rfl rfl (by kernel_rfl) (by kernel_rfl) (by kernel_rfl) (fun _ _ _ h => h) hHeld (Or.inl ⟨by rfl, ?_⟩) rfl ?_
        rotate_left
        · intro wq hSw
          go_simp
          try with_reducible rfl
        simp only [List.set_cons_zero, List.set_cons_succ]
        refine take_at (v := ?_) 6 24 rfl rfl (by kernel_rfl) (by kernel_rfl) (by kernel_rfl) (fun _ _ _ h => h) hHeld (Or.inl ⟨by rfl, ?_⟩) rfl ?_
        rotate_left
        · intro wq hSw
          go_simp
          try with_reducible rfl
        simp only [List.set_cons_zero, List.set_cons_succ]
        refine take_at (v := ?_) 7 25 rfl rfl (by kernel_rfl) (by kernel_rfl) (by kernel_rfl) (fun _ _ _ h => h) hHeld (Or.inl ⟨by rfl, ?_⟩) rfl ?_
        rotate_left
        · intro wq hSw
          go_simp
          try with_reducible rfl
        simp only [List.set_cons_zero, List.set_cons_succ]
        refine take_at 8 26 rfl rfl (by kernel_rfl) (by kernel_rfl) (by kernel_rfl) (fun _ _ _ h => h) hHeld (yieldsIf_load_agg (by rfl) 35 (.tmp 25) rfl _ _ (by rfl) (fun wq hSw => coins_at (HCs.out.below hSw) HSC.out.2.1)) rfl ?_
        simp only [List.set_cons_zero, List.set_cons_succ]
        refine take_at 9 27 rfl rfl (by kernel_rfl) (by kernel_rfl) (by kernel_rfl) (fun _ _ _ h => h) hHeld (yieldsIf_load_agg (by rfl) 39 (.tmp 2) rfl _ _ (by rfl) (fun wq hSw => (HXs.out.under hSw HXs.out.lt).load_agg (P := Tryz.prog) (t := 39) Tryz.underlying39 rfl (by kernel_rfl))) rfl ?_
        simp only [List.set_cons_zero, List.set_cons_succ]
        refine wpAnyH_ready (rs := [10]) (by kernel_rfl) (by simp) ?_
        refine AllReadyH.cons rfl (fun K hK => ?_) AllReadyH.nil
        go_simp
        go_at_call 50; refine (rid_any (some x) cn q b m r t ws HTs.out HS.out HKs.out).mono ?_; rw [HID.out.1]; rintro e k1 ⟨rfl, hk1⟩
        refine hK.out _ _ (Held.of hk1) (fun _ => ?_)
        clear hK K
        try simp only [Act.put, List.setIfInBounds_toArray, List.set_cons_zero, List.set_cons_succ]
        refine held_grow (w1 := k1) (Held.of hk1) ?_
        clear hHeld
        have hHeld : Held k1 k1 := Held.refl _
        refine wpAnyH_ready (rs := [11]) (by kernel_rfl) (by simp) ?_
        refine AllReadyH.cons rfl (fun K hK => ?_) AllReadyH.nil
        go_simp
        go_at_call 98; refine (ropens_any s c id k1 HSC.out.2.2.1 HSC.out.2.2.2 HID.out.2 (HKs.out.below hk1)).mono ?_; rw [← HO.out]; rintro e k2 ⟨rfl, hk2⟩
        refine hK.out _ _ (Held.of hk2) (fun _ => ?_)
        clear hK K
        try simp only [Act.put, List.setIfInBounds_toArray, List.set_cons_zero, List.set_cons_succ]
        refine held_grow (w1 := k2) (Held.of hk2) ?_
        clear hHeld
        have hHeld : Held k2 k2 := Held.refl _
        have hk12 := hk1.trans (hk2.mono hk1.size)
        refine take_at (v := ?_) 12 30 rfl rfl (by kernel_rfl) (by kernel_rfl) (by kernel_rfl) (fun _ _ _ h => h) hHeld (Or.inl ⟨by rfl, ?_⟩) rfl ?_
        rotate_left
        · intro wq hSw
          go_simp
          try with_reducible rfl
        simp only [List.set_cons_zero, List.set_cons_succ]
        refine wpAnyH_done (by kernel_rfl) ?_ _
        cases o
        · have HE := Lib.hid (show z = 10 by
            rw [HZ.out, Lk.check, if_pos (by rw [HN.out.1, HN.out.2]), if_neg]
            intro h
            have h2 := h i s c HSC.out.1 HSC.out.2.1
            rw [HID.out.1, ← HO.out] at h2
            cases h2)
          go_wp2
          go_ret
          exact ⟨by rw [HE.out]; rfl, hb1.trans ((hBs.trans (hk12.mono hBs.size)).mono hb1.size)⟩
        · have HB2 := Lib.hid (show ∀ (j : Nat) (s : Tx.Sp) (c : Tx.Co), j < i + 1 → t.sp[j]? = some s → cl[j]? = some c → Lk.opens s c (Tx.idOf false t) = true from fun j u v hj hu hv => by
            rcases Nat.lt_or_ge j i with h | h
            · exact HB.out j u v h hu hv
            · have e2 : j = i := by omega
              subst e2
              rw [HSC.out.1] at hu
              rw [HSC.out.2.1] at hv
              injection hu with hu
              injection hv with hv
              subst hu
              subst hv
              rw [HID.out.1]
              exact HO.out.symm)
          go_wp2
          go_roundw
          case rel => exact ⟨i + 1, by omega, by go_num, HB2, hBs.trans (hk12.mono hBs.size)⟩
          case measure => (simp [intOf]; try omega)
      · have hii : ¬ (i : Int) < (cn : Int) := by omega
        have HE := Lib.hid (show z = 0 by
          rw [HZ.out, Lk.check, if_pos (by rw [HN.out.1, HN.out.2]), if_pos]
          exact fun j s c hs hc => HB.out j s c (by have h9 : j < t.sp.length := (List.getElem?_eq_some_iff.1 hs).1; rw [HN.out.1] at h9; omega) hs hc)
        go_wp2
        go_ret
        exact ⟨by rw [HE.out]; rfl, hb1.trans (hb.mono hb1.size)⟩
  · have HE := Lib.hid (show z = 1 by rw [HZ.out, Lk.check, if_neg (by rw [HN.out.1, HN.out.2]; exact hne)])
    have hnn : ((cn : Int) != (n : Int)) = true := by simp; omega
    go_enter Tryz.func77, Tryz.ntmps77
    go_upto_region 1 with fail
    rw [← HW.out, ← HG.out]
    go_wp2
    go_ret
    exact ⟨by rw [HE.out]; rfl, hb1⟩
end Go.Proofs.YtagjolbpmhbifaaGreatDoor

/-! What applying and taking back comes to (pure): fees, errors, worth. Nothing of the program. -/
namespace Go.Proofs.YtagjolbpmhbifaaGreatDoor
open Go Go.RowKit
namespace Cs
theorem put_keys' {M : Mp} (h : Keys M) (p : Pt) (c : Tx.Co) : Keys (put M p c) := put_keys h
theorem idx_cons (p : Pt) (x : Pt × Tx.Co) (M : Mp) : idx p (x :: M) = if p = x.1 then some (0, x.2) else (idx p M).map (fun r => (r.1 + 1, r.2)) := rfl
def delAll (M : Mp) (l : List Pt) : Mp := l.foldl (fun M p => del M p) M
def putAll (M : Mp) (l : Mp) : Mp := l.foldl (fun M x => put M x.1 x.2) M
theorem delAll_keys : ∀ (l : List Pt) {M : Mp}, Keys M → Keys (delAll M l)
  | [], _, h => h
  | p :: l, _, h => delAll_keys l (del_keys h p)
theorem putAll_keys : ∀ (l : Mp) {M : Mp}, Keys M → Keys (putAll M l)
  | [], _, h => h
  | x :: l, _, h => putAll_keys l (put_keys' h x.1 x.2)
theorem look_delAll : ∀ (l : List Pt) {M : Mp} (_ : Keys M) (q : Pt), look (delAll M l) q = if q ∈ l then none else look M q
  | [], M, _, q => by simp [delAll]
  | p :: l, M, h, q => by
    have ih := look_delAll l (del_keys h p) q
    show look (delAll (del M p) l) q = _
    rw [ih, look_del h]
    by_cases h1 : q ∈ l
    · rw [if_pos h1, if_pos (List.mem_cons_of_mem _ h1)]
    · rw [if_neg h1]
      by_cases h2 : q = p
      · rw [if_pos h2, if_pos (by rw [h2]; exact List.mem_cons_self)]
      · rw [if_neg h2, if_neg (fun e => (List.mem_cons.1 e).elim h2 h1)]
theorem worth_delAll : ∀ (l : List Pt) {M : Mp} (_ : Keys M) (_ : l.Nodup) (_ : ∀ p, p ∈ l → (look M p).isSome = true), worth (delAll M l) + (l.map (fun p => ((look M p).getD ⟨0, 0#64⟩).v)).sum = worth M
  | [], M, _, _, _ => by simp [delAll]
  | p :: l, M, h, hn, hs => by
    obtain ⟨h1, h2⟩ := List.nodup_cons.1 hn
    obtain ⟨c, hc⟩ := Option.isSome_iff_exists.1 (hs p List.mem_cons_self)
    have hd : ∀ q, q ∈ l → look (del M p) q = look M q := fun q hq => by
      rw [look_del h, if_neg (fun e => h1 (by rw [← e]; exact hq))]
    have ih := worth_delAll l (del_keys h p) h2 (fun q hq => by rw [hd q hq]; exact hs q (List.mem_cons_of_mem _ hq))
    have e : l.map (fun q => ((look (del M p) q).getD ⟨0, 0#64⟩).v) = l.map (fun q => ((look M q).getD ⟨0, 0#64⟩).v) := List.map_congr_left fun q hq => by rw [hd q hq]
    rw [e] at ih
    have h3 := worth_del hc
    show worth (delAll (del M p) l) + _ = _
    rw [List.map_cons, List.sum_cons, hc]
    show worth (delAll (del M p) l) + (c.v + _) = _
    omega
theorem look_putAll : ∀ (l : Mp) {M : Mp} (_ : Keys M) (_ : Keys l) (q : Pt), look (putAll M l) q = match look l q with
    | some c => some c
    | none => look M q
  | [], M, _, _, q => rfl
  | x :: l, M, h, hl, q => by
    obtain ⟨h1, h2⟩ := List.nodup_cons.1 (show (x.1 :: l.map (·.1)).Nodup from hl)
    have ih := look_putAll l (put_keys' h x.1 x.2) h2 q
    show look (putAll (put M x.1 x.2) l) q = _
    rw [ih, look_put h]
    by_cases h3 : q = x.1
    · have h4 : look l q = none := look_none.2 fun y hy e => h1 (List.mem_map.2 ⟨y, hy, by rw [e, h3]⟩)
      have h5 : look (x :: l) q = some x.2 := (look_some hl).2 (by rw [h3]; exact List.mem_cons_self)
      rw [h4, h5, if_pos h3]
    · have h5 : look (x :: l) q = look l q := by
        unfold look
        rw [idx_cons, if_neg h3, Option.map_map]
        rfl
      rw [h5, if_neg h3]
theorem worth_putAll : ∀ (l : Mp) {M : Mp} (_ : Keys M) (_ : Keys l) (_ : ∀ x, x ∈ l → look M x.1 = none), worth (putAll M l) = worth M + worth l
  | [], M, _, _, _ => by simp [putAll, worth]
  | x :: l, M, h, hl, ha => by
    obtain ⟨h1, h2⟩ := List.nodup_cons.1 (show (x.1 :: l.map (·.1)).Nodup from hl)
    have ih := worth_putAll l (put_keys' h x.1 x.2) h2 (fun y hy => by
      rw [look_put h, if_neg (fun e => h1 (List.mem_map.2 ⟨y, hy, e⟩))]
      exact ha y (List.mem_cons_of_mem _ hy))
    have h3 := worth_put (c := x.2) (ha x List.mem_cons_self)
    show worth (putAll (put M x.1 x.2) l) = _
    rw [ih, h3]
    unfold worth
    rw [List.map_cons, List.sum_cons]
    omega
/-- a transaction's own coins as a map -/
def ownL (id : List (BitVec 8)) (co : List Tx.Co) : Mp := co.mapIdx (fun i c => ((id, (i : Int)), c))
theorem ownL_at {id : List (BitVec 8)} {co : List Tx.Co} {i : Nat} {x : Pt × Tx.Co} : (ownL id co)[i]? = some x ↔ ∃ c, co[i]? = some c ∧ x = ((id, (i : Int)), c) := by
  unfold ownL
  rw [List.getElem?_mapIdx, Option.map_eq_some_iff]
  exact ⟨fun ⟨c, h1, h2⟩ => ⟨c, h1, h2.symm⟩, fun ⟨c, h1, h2⟩ => ⟨c, h1, h2.symm⟩⟩
theorem ownL_keys (id : List (BitVec 8)) (co : List Tx.Co) : Keys (ownL id co) := by
  unfold Keys
  rw [List.nodup_iff_pairwise_ne, List.pairwise_iff_getElem]
  intro i j hi hj hlt e
  rw [List.length_map] at hi hj
  rw [List.getElem_map, List.getElem_map] at e
  obtain ⟨c, _, h1⟩ := ownL_at.1 (List.getElem?_eq_getElem hi)
  obtain ⟨d, _, h2⟩ := ownL_at.1 (List.getElem?_eq_getElem hj)
  rw [h1, h2] at e
  have e2 : (i : Int) = (j : Int) := congrArg Prod.snd e
  omega
theorem look_ownL (id : List (BitVec 8)) (co : List Tx.Co) (q : Pt) : look (ownL id co) q = own id co q := by
  unfold own
  by_cases h : q.1 = id ∧ 0 ≤ q.2
  · rw [if_pos h]
    have hq : q = (id, ((q.2.toNat : Nat) : Int)) := Prod.ext h.1 (by show q.2 = _; omega)
    cases hc : co[q.2.toNat]? with
    | some c =>
      rw [look_some (ownL_keys id co)]
      exact List.mem_of_getElem? (ownL_at.2 ⟨c, hc, by rw [← hq]⟩)
    | none =>
      rw [look_none]
      intro x hx e
      obtain ⟨i, hi⟩ := List.mem_iff_getElem?.1 hx
      obtain ⟨c, h1, rfl⟩ := ownL_at.1 hi
      have e2 : (i : Int) = q.2 := congrArg Prod.snd e
      rw [← e2, Int.toNat_natCast] at hc
      rw [hc] at h1
      cases h1
  · rw [if_neg h, look_none]
    intro x hx e
    obtain ⟨i, hi⟩ := List.mem_iff_getElem?.1 hx
    obtain ⟨c, h1, rfl⟩ := ownL_at.1 hi
    exact h ⟨by rw [← e], by rw [← e]; show 0 ≤ (i : Int); omega⟩
theorem worth_ownL (id : List (BitVec 8)) (co : List Tx.Co) : worth (ownL id co) = (Tx.vals co).sum := by
  have e : (ownL id co).map (fun x => x.2.v) = Tx.vals co := by
    apply List.ext_getElem?
    intro i
    unfold ownL Tx.vals
    rw [List.getElem?_map, List.getElem?_mapIdx, List.getElem?_map, Option.map_map]
    rfl
  unfold worth
  rw [e]
/-- applied -/
def doM (M : Mp) (id : List (BitVec 8)) (t : Tx.T) : Mp := putAll (delAll M (t.sp.map pt)) (ownL id t.co)
theorem doM_keys {M : Mp} (h : Keys M) (id : List (BitVec 8)) (t : Tx.T) : Keys (doM M id t) := putAll_keys _ (delAll_keys _ h)
theorem doM_is {M : Mp} (h : Keys M) (id : List (BitVec 8)) (t : Tx.T) : IsDo M (doM M id t) id t := fun q => by
  unfold doM
  rw [look_putAll _ (delAll_keys _ h) (ownL_keys _ _), look_ownL, look_delAll _ h]
  cases own id t.co q <;> rfl
theorem do_worth {M N : Mp} (hM : Keys M) (hN : Keys N) {id : List (BitVec 8)} {t : Tx.T} (hd : IsDo M N id t) (hn : (t.sp.map pt).Nodup) (hs : ∀ p, p ∈ t.sp.map pt → (look M p).isSome = true) (ho : ∀ q, (own id t.co q).isSome = true → look M q = none) :
    worth N + ((t.sp.map pt).map (fun p => ((look M p).getD ⟨0, 0#64⟩).v)).sum = worth M + (Tx.vals t.co).sum := by
  have hp : N.Perm (doM M id t) := perm_of_look hN (doM_keys hM id t) (fun q => by rw [hd q, doM_is hM id t q])
  have h1 := worth_delAll (t.sp.map pt) hM hn hs
  have h2 := worth_putAll (ownL id t.co) (delAll_keys (t.sp.map pt) hM) (ownL_keys id t.co) (fun x hx => by
    have h3 : look (ownL id t.co) x.1 = some x.2 := (look_some (ownL_keys id t.co)).2 hx
    rw [look_ownL] at h3
    rw [look_delAll _ hM, ho x.1 (by rw [h3]; rfl)]
    split <;> rfl)
  rw [worth_perm hp]
  unfold doM
  rw [h2, worth_ownL]
  omega
end Cs
end Go.Proofs.YtagjolbpmhbifaaGreatDoor

/-! Errors of Fee, Do, Back (pure); that a second Do fails, that a Back is possible. Nothing of the program. -/
namespace Go.Proofs.YtagjolbpmhbifaaGreatDoor
open Go Go.RowKit
namespace Cs
def spentOf (M : Mp) (t : Tx.T) : List Tx.Co := (t.sp.map pt).map (fun p => (look M p).getD ⟨0, 0#64⟩)
def inT (M : Mp) (t : Tx.T) : Int × Int := Am.total (Tx.vals (spentOf M t)) 0
def outT (t : Tx.T) : Int × Int := Am.total (Tx.vals t.co) 0
def feeE (M : Mp) (t : Tx.T) : Int :=
  if Tx.check t = 0 then
    if ∀ p, p ∈ t.sp.map pt → (look M p).isSome = true then
      if Lk.check t (spentOf M t) = 0 then
        if (inT M t).2 = 0 then if (inT M t).1 < (outT t).1 then 9 else 0
        else (inT M t).2
      else Lk.check t (spentOf M t)
    else 7
  else Tx.check t
def feeV (M : Mp) (t : Tx.T) : Int := if feeE M t = 0 then (inT M t).1 - (outT t).1 else 0
def clash (M : Mp) (id : List (BitVec 8)) (t : Tx.T) : Bool := (ownL id t.co).any (fun x => (look M x.1).isSome)
def doE (M : Mp) (id : List (BitVec 8)) (t : Tx.T) : Int := if feeE M t = 0 then if clash M id t then 6 else 0 else feeE M t
def backE (M : Mp) (id : List (BitVec 8)) (t : Tx.T) (spent : List Tx.Co) : Int :=
  if spent.length = t.sp.length then
    if (ownL id t.co).all (fun x => (look M x.1).isSome) then
      if (t.sp.map pt).any (fun p => (look M p).isSome) then 6 else 0
    else 4
  else 1
def backM (M : Mp) (id : List (BitVec 8)) (t : Tx.T) (spent : List Tx.Co) : Mp := putAll (delAll M ((ownL id t.co).map (·.1))) ((t.sp.map pt).zip spent)
theorem feeE_same {M N : Mp} (h : look M = look N) (t : Tx.T) : feeE M t = feeE N t ∧ feeV M t = feeV N t := by
  unfold feeV feeE inT spentOf
  rw [h]
  exact ⟨rfl, rfl⟩
theorem doE_same {M N : Mp} (h : look M = look N) (id : List (BitVec 8)) (t : Tx.T) : doE M id t = doE N id t := by
  unfold doE clash
  rw [(feeE_same h t).1, h]
theorem backE_same {M N : Mp} (h : look M = look N) (id : List (BitVec 8)) (t : Tx.T) (spent : List Tx.Co) : backE M id t spent = backE N id t spent := by
  unfold backE
  rw [h]
theorem total_ok : ∀ (l : List Int) (s : Int), (Am.total l s).2 = 0 → (Am.total l s).1 = s + l.sum
  | [], s, _ => by simp [Am.total]
  | z :: l, s, h => by
    unfold Am.total at h ⊢
    by_cases h1 : Am.Good z
    · rw [if_pos h1] at h ⊢
      by_cases h2 : Am.Good (s + z)
      · rw [if_pos h2] at h ⊢
        rw [total_ok l (s + z) h, List.sum_cons, Int.add_assoc]
      · rw [if_neg h2] at h
        exact absurd h (by decide)
    · rw [if_neg h1] at h
      exact absurd h (by decide)
theorem check_parts {t : Tx.T} (h : Tx.check t = 0) : 1 ≤ t.sp.length ∧ (t.sp.map pt).Nodup ∧ (outT t).2 = 0 := by
  unfold Tx.check at h
  by_cases h1 : Tx.Sized t
  · rw [if_pos h1] at h
    by_cases h2 : ∀ s, s ∈ t.sp → ¬ Tx.badSp s
    · rw [if_pos h2] at h
      by_cases h3 : (Am.total (Tx.vals t.co) 0).2 = 0
      · rw [if_pos h3] at h
        by_cases h4 : Tx.Twice t.sp
        · rw [if_pos h4] at h
          exact absurd h (by decide)
        · refine ⟨h1.1, ?_, h3⟩
          rw [List.nodup_iff_pairwise_ne, List.pairwise_iff_getElem]
          intro i j hi hj hlt e
          rw [List.length_map] at hi hj
          rw [List.getElem_map, List.getElem_map] at e
          exact h4 ⟨j, i, t.sp[j], t.sp[i], hlt, List.getElem?_eq_getElem hj, List.getElem?_eq_getElem hi, (congrArg Prod.fst e).symm, (congrArg Prod.snd e).symm⟩
      · rw [if_neg h3] at h
        exact absurd h h3
    · rw [if_neg h2] at h
      exact absurd h (by decide)
  · rw [if_neg h1] at h
    exact absurd h (by decide)
theorem fee_parts {M : Mp} {t : Tx.T} (h : feeE M t = 0) : Tx.check t = 0 ∧ (∀ p, p ∈ t.sp.map pt → (look M p).isSome = true) ∧ Lk.check t (spentOf M t) = 0 ∧ (inT M t).2 = 0 ∧ (outT t).1 ≤ (inT M t).1 := by
  unfold feeE at h
  by_cases h1 : Tx.check t = 0
  · rw [if_pos h1] at h
    by_cases h2 : ∀ p, p ∈ t.sp.map pt → (look M p).isSome = true
    · rw [if_pos h2] at h
      by_cases h3 : Lk.check t (spentOf M t) = 0
      · rw [if_pos h3] at h
        by_cases h4 : (inT M t).2 = 0
        · rw [if_pos h4] at h
          by_cases h5 : (inT M t).1 < (outT t).1
          · rw [if_pos h5] at h
            exact absurd h (by decide)
          · exact ⟨h1, h2, h3, h4, by omega⟩
        · rw [if_neg h4] at h
          exact absurd h h4
      · rw [if_neg h3] at h
        exact absurd h h3
    · rw [if_neg h2] at h
      exact absurd h (by decide)
  · rw [if_neg h1] at h
    exact absurd h h1
theorem clash_none {M : Mp} {id : List (BitVec 8)} {t : Tx.T} (h : clash M id t = false) : ∀ q, (own id t.co q).isSome = true → look M q = none := by
  intro q hq
  obtain ⟨c, hc⟩ := Option.isSome_iff_exists.1 hq
  rw [← look_ownL] at hc
  have hm := (look_some (ownL_keys id t.co)).1 hc
  unfold clash at h
  have h2 := List.any_eq_false.1 h _ hm
  cases hl : look M q with
  | none => rfl
  | some d => rw [hl] at h2; exact absurd rfl h2
theorem do_parts {M : Mp} {id : List (BitVec 8)} {t : Tx.T} (h : doE M id t = 0) : feeE M t = 0 ∧ ∀ q, (own id t.co q).isSome = true → look M q = none := by
  unfold doE at h
  by_cases h1 : feeE M t = 0
  · rw [if_pos h1] at h
    cases hc : clash M id t with
    | true => rw [hc] at h; exact absurd h (by decide)
    | false => exact ⟨h1, clash_none hc⟩
  · rw [if_neg h1] at h
    exact absurd h h1
/-- what is applied takes its fee -/
theorem do_fee {M N : Mp} (hM : Keys M) (hN : Keys N) {id : List (BitVec 8)} {t : Tx.T} (h : doE M id t = 0) (hd : IsDo M N id t) : worth N = worth M - feeV M t ∧ 0 ≤ feeV M t := by
  obtain ⟨h1, h2⟩ := do_parts h
  obtain ⟨c1, c2, _, c4, c5⟩ := fee_parts h1
  obtain ⟨_, k2, k3⟩ := check_parts c1
  have hw := do_worth hM hN hd k2 c2 h2
  have e1 : (inT M t).1 = (Tx.vals (spentOf M t)).sum := by
    have := total_ok _ _ c4
    rw [Int.zero_add] at this
    exact this
  have e2 : (outT t).1 = (Tx.vals t.co).sum := by
    have := total_ok _ _ k3
    rw [Int.zero_add] at this
    exact this
  have e3 : Tx.vals (spentOf M t) = (t.sp.map pt).map (fun p => ((look M p).getD ⟨0, 0#64⟩).v) := by
    unfold Tx.vals spentOf
    rw [List.map_map]
    rfl
  unfold feeV
  rw [if_pos h1, e1, e2, e3]
  rw [e1, e2, e3] at c5
  omega
/-- once more: not -/
theorem do_twice {M N : Mp} {id : List (BitVec 8)} {t : Tx.T} (h : doE M id t = 0) (hd : IsDo M N id t) : ¬ doE N id t = 0 := by
  intro h9
  obtain ⟨h1, h2⟩ := do_parts h
  obtain ⟨c1, c2, _, _, _⟩ := fee_parts h1
  obtain ⟨k1, _, _⟩ := check_parts c1
  obtain ⟨g1, _⟩ := do_parts h9
  obtain ⟨_, d2, _⟩ := fee_parts g1
  obtain ⟨s, hs⟩ : ∃ s, s ∈ t.sp := ⟨t.sp[0]'(by omega), List.getElem_mem _⟩
  have hm : pt s ∈ t.sp.map pt := List.mem_map.2 ⟨s, hs, rfl⟩
  have e := d2 _ hm
  rw [hd (pt s)] at e
  cases ho : own id t.co (pt s) with
  | some c =>
    have h3 := h2 (pt s) (by rw [ho]; rfl)
    have h4 := c2 _ hm
    rw [h3] at h4
    cases h4
  | none =>
    rw [ho] at e
    have e2 : ((if pt s ∈ t.sp.map pt then none else look M (pt s)) : Option Tx.Co).isSome = true := e
    rw [if_pos hm] at e2
    cases e2
theorem look_puts : ∀ (l : Mp) {M : Mp} (_ : Keys M) (q : Pt), look (putAll M l) q = match l.reverse.find? (fun x => decide (x.1 = q)) with
    | some x => some x.2
    | none => look M q
  | [], M, _, q => rfl
  | x :: l, M, h, q => by
    have ih := look_puts l (put_keys' h x.1 x.2) q
    show look (putAll (put M x.1 x.2) l) q = _
    rw [ih, List.reverse_cons, List.find?_append, look_put h]
    cases hf : l.reverse.find? (fun x => decide (x.1 = q)) with
    | some y => rfl
    | none =>
      by_cases e : q = x.1
      · rw [if_pos e, List.find?_cons_of_pos (by simpa using e.symm)]
        rfl
      · rw [if_neg e, List.find?_cons_of_neg (by simpa using fun e2 => e e2.symm)]
        rfl
theorem backM_keys {M : Mp} (h : Keys M) (id : List (BitVec 8)) (t : Tx.T) (spent : List Tx.Co) : Keys (backM M id t spent) := putAll_keys _ (delAll_keys _ h)
theorem backM_is {M : Mp} (h : Keys M) (id : List (BitVec 8)) (t : Tx.T) (spent : List Tx.Co) : IsBack M (backM M id t spent) id t spent := fun q => by
  unfold backM
  rw [look_puts _ (delAll_keys _ h), look_delAll _ h]
  have e : q ∈ (ownL id t.co).map (·.1) ↔ (own id t.co q).isSome = true := by
    rw [← look_ownL]
    constructor
    · intro hm
      obtain ⟨x, hx, rfl⟩ := List.mem_map.1 hm
      rw [(look_some (ownL_keys id t.co) (p := x.1) (c := x.2)).2 hx]
      rfl
    · intro hs
      obtain ⟨c, hc⟩ := Option.isSome_iff_exists.1 hs
      exact List.mem_map.2 ⟨_, (look_some (ownL_keys id t.co)).1 hc, rfl⟩
  cases hf : ((t.sp.map pt).zip spent).reverse.find? (fun x => decide (x.1 = q)) with
  | some x => rfl
  | none =>
    show (if q ∈ (ownL id t.co).map (·.1) then none else look M q) = if (own id t.co q).isSome then none else look M q
    by_cases hq : (own id t.co q).isSome = true
    · rw [if_pos (e.2 hq), if_pos hq]
    · rw [if_neg (fun h => hq (e.1 h)), if_neg hq]
/-- what was applied may be taken back, and all is as it was -/
theorem back_ok {M N : Mp} {id : List (BitVec 8)} {t : Tx.T} (h : doE M id t = 0) (hd : IsDo M N id t) : backE N id t (spentOf M t) = 0 := by
  obtain ⟨h1, h2⟩ := do_parts h
  obtain ⟨c1, c2, _, _, _⟩ := fee_parts h1
  unfold backE
  rw [if_pos (by simp [spentOf]), if_pos, if_neg]
  · intro ha
    obtain ⟨p, hp, hs⟩ := List.any_eq_true.1 ha
    rw [hd p] at hs
    cases ho : own id t.co p with
    | some c =>
      have h3 := h2 p (by rw [ho]; rfl)
      have h4 := c2 p hp
      rw [h3] at h4
      cases h4
    | none =>
      rw [ho] at hs
      have e2 : ((if p ∈ t.sp.map pt then none else look M p) : Option Tx.Co).isSome = true := hs
      rw [if_pos hp] at e2
      cases e2
  · refine List.all_eq_true.2 fun x hx => ?_
    have h3 : own id t.co x.1 = some x.2 := by
      rw [← look_ownL]
      exact (look_some (ownL_keys id t.co)).2 hx
    rw [hd x.1, h3]
    rfl
theorem spent_zip {M : Mp} {t : Tx.T} (h : ∀ p, p ∈ t.sp.map pt → (look M p).isSome = true) : ∀ x, x ∈ (t.sp.map pt).zip (spentOf M t) → look M x.1 = some x.2 := by
  intro x hx
  obtain ⟨i, hi⟩ := List.mem_iff_getElem?.1 hx
  rw [List.getElem?_zip_eq_some] at hi
  obtain ⟨h1, h2⟩ := hi
  unfold spentOf at h2
  rw [List.getElem?_map, h1] at h2
  injection h2 with h2
  obtain ⟨c, hc⟩ := Option.isSome_iff_exists.1 (h x.1 (List.mem_of_getElem? h1))
  replace h2 : (look M x.1).getD ⟨0, 0#64⟩ = x.2 := h2
  rw [hc] at h2
  rw [hc, ← h2]
  rfl
theorem back_same {M N K L : Mp} {id : List (BitVec 8)} {t : Tx.T} (h : doE M id t = 0) (hd : IsDo M N id t) (he : ∀ q, look K q = look N q) (hb : IsBack K L id t (spentOf M t)) : ∀ q, look L q = look M q :=
  back_do hd he hb (spent_zip (fee_parts (do_parts h).1).2.1) (by simp [spentOf]) (do_parts h).2
end Cs
end Go.Proofs.YtagjolbpmhbifaaGreatDoor
