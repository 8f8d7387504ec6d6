/- law 12: stands (mkcrf.py) -/
import Derived.Test.YtagjolbpmhbifaaGreatDoorCrB
import Derived.Test.YtagjolbpmhbifaaGreatDoorCsu
import Derived.Test.YtagjolbpmhbifaaGreatDoorCsO
import Derived.Test.YtagjolbpmhbifaaGreatDoorLz
namespace Go.Proofs.YtagjolbpmhbifaaGreatDoor
open Go Go.RowKit Go.ChangeShapes Go.WideShapes
abbrev zHl : Array Value := #[.int .u8 0, .int .u8 0, .int .u8 0, .int .u8 0, .int .u8 0, .int .u8 0, .int .u8 0, .int .u8 0, .int .u8 0, .int .u8 0, .int .u8 0, .int .u8 0, .int .u8 0, .int .u8 0, .int .u8 0, .int .u8 0, .int .u8 0, .int .u8 0, .int .u8 0, .int .u8 0, .int .u8 0, .int .u8 0, .int .u8 0, .int .u8 0, .int .u8 0, .int .u8 0, .int .u8 0, .int .u8 0, .int .u8 0, .int .u8 0, .int .u8 0, .int .u8 0, .int .i64 0, .int .i64 0, .int .u64 0]
/-- a set in the program and the reference's list beside it -/
structure Cs.Beside (M : Cs.Mp) (m : List Cs.Hv) : Prop where
  srt : Cs.Srt m
  look : ∀ q, Cs.look M q = Cs.look m q
theorem Cs.worth_beside {M : Cs.Mp} {m : List Cs.Hv} (hp : m.Perm M) (hg : ∀ x, x ∈ M → Am.Good x.2.v) : Am.total (Tx.vals (m.map (·.2))) 0 = Cs.worthT M := by
  rw [Cs.tot_perm (List.Perm.refl (m.map (·.2))) (fun c hc => by
    obtain ⟨x, hx, rfl⟩ := List.mem_map.1 hc
    exact hg x (hp.subset hx))]
  have e : (Tx.vals (m.map (·.2))).sum = Cs.worth M := by
    rw [← Cs.worth_perm hp]
    unfold Cs.worth Tx.vals
    rw [List.map_map]
    rfl
  unfold Cs.tot Cs.worthT
  rw [e]
set_option maxRecDepth 100000 in
set_option maxHeartbeats 8000000 in
theorem stands_any {S : World → Value → Fp → Cs.Mp → Prop} (ok : CoinsOk2 S) {w : World} {v : Value} {F : Fp} {M : Cs.Mp} (hS : S w v F M) (a : Option Addr) (n q : Nat) (m : List Cs.Hv) (hr : Recs hvRec w a n m) (hbs : Cs.Beside M m) (hn : n ≤ 1000000) :
    Calls Tryz.prog 21 #[v, .slice a n q] w fun e w' => e = .returned (.bool true) ∧ Below w.heap.size w w' := by
  have HOK := ok.toCoinsOk
  have hnmx : n ≤ 9223372036854775807 := hr.2.1
  have hkm := HOK.keys hS
  have hkr := Cs.srt_keys hbs.srt
  have hpm : m.Perm M := Cs.perm_of_look hkr hkm.1 (fun q => (hbs.look q).symm)
  have hML : M.length = n := by rw [← hpm.length_eq, hr.1]
  have hPT := ok.points hS (by rw [hML]; omega)
  have HPT := Lib.hid hPT
  have HLN := Lib.hid (show ∀ w', Below w.heap.size w w' → Calls Tryz.prog 23 #[v] w' fun e w2 => e = .returned (.int .i64 n) ∧ Below w'.heap.size w' w2 from fun w' hb => by
    have h := HOK.len (HOK.below hS hb)
    rw [hML] at h
    exact h)
  obtain ⟨T, hT⟩ : ∃ T, T = Cs.worthT M := ⟨_, rfl⟩
  have HWT := Lib.hid (show ∀ w', Below w.heap.size w w' → Calls Tryz.prog 10 #[v] w' fun e w2 => e = .returned (.tuple #[.int .i64 T.1, errn T.2]) ∧ Below w'.heap.size w' w2 from fun w' hb => by
    have h := HOK.worth (HOK.below hS hb) (by rw [hML]; omega)
    rw [← hT] at h
    exact h)
  have HRW := Lib.hid (show ∀ w' oa oc, Recs coRec w' oa n (m.map (·.2)) → Calls Tryz.prog 55 #[.slice oa n oc] w' fun e w2 => e = .returned (.tuple #[.int .i64 T.1, .int .i64 T.2]) ∧ Below w'.heap.size w' w2 from fun w' oa oc h => by
    have h2 := r12worth oa n oc (m.map (·.2)) w' h hn
    rw [Cs.worth_beside hpm (fun x hx => (hkm.2 x hx).2.2), ← hT] at h2
    exact h2)
  have HPL := Lib.hid (show ∀ PL : List Cs.Pt, PL.Pairwise Cs.Ahead → PL.Perm (M.map (·.1)) → PL = m.map (·.1) from fun PL h1 h2 => Cs.points_same hkm.1 hkr hbs.look h1 hbs.srt h2 (List.Perm.refl _))
  have HLK := Lib.hid (show ∀ (i : Nat) (x : Cs.Hv), m[i]? = some x → Cs.look M x.1 = some x.2 from fun i x hx => by
    rw [hbs.look]
    exact (Cs.look_some hkr).2 (List.mem_of_getElem? hx))
  have HSS := Lib.hid (fun (w' : World) (hb : Below w.heap.size w w') => HOK.below hS hb)
  have HM := Lib.hid hr
  have HN := Lib.hid hn
  have HO2 := ok
  clear hS hr hbs hkm hkr hpm hML hPT hT hn ok
  obtain ⟨T1, T2⟩ := T
  dsimp only at HWT HRW
  go_enter Tryz.func21, Tryz.ntmps21
  go_upto_region 2 with (go_at_call 15; refine HPT.out.mono ?_; rintro e w2 ⟨pa, pn, pq, PL, rfl, hrp, hqp, hpw, hpp, hb2⟩)
  obtain rfl : PL = m.map (·.1) := HPL.out PL hpw hpp
  obtain rfl : n = pn := by rw [← hrp.1, List.length_map, HM.out.1]
  have HRP := Lib.hid hrp
  have HL2 := Lib.hid (HLN.out w2 hb2)
  clear hrp hqp hpw hpp
  go_upto_region 4 with (go_at_call 23; refine HL2.out.mono ?_; rintro e w3 ⟨rfl, hb3⟩)
  have hb23 := hb2.trans (hb3.mono hb2.size)
  have HB3 := Lib.hid hb23
  have HP := Lib.hid (HRP.out.below hb3)
  have HM3 := Lib.hid (HM.out.below hb23)
  have HS3 := Lib.hid (HSS.out w3 hb23)
  clear hb2 hb3 hb23 HRP HPT HLN
  go_upto_region 5 with fail
  have hE : OwnR coRec 35 w3.heap.size (w3.alloc (.cells #[] 35 )) (.slice (some ⟨w3.heap.size, 0, none⟩) 0 0) [] := OwnR.empty (Nat.le_refl _) (Has.fresh w3 _ _)
  have hbE : Below w3.heap.size w3 (w3.alloc (.cells #[] 35 )) := (Below.refl _ _).alloc (Nat.le_refl _) _
  have HO0 := Lib.hid (show OwnR coRec 35 w3.heap.size (w3.alloc (.cells #[] 35 )) (.slice (some ⟨w3.heap.size, 0, none⟩) 0 0) ((m.take 0).map (·.2)) from hE)
  clear hE
  go_wp2
  go_loopw [6, 32] (fun sv iv wr => ∃ (i : Nat) (ov : Value), i ≤ n ∧ iv = .int .i64 i ∧ ov = sv ∧ RowKit.Hid (OwnR coRec 35 w3.heap.size wr ov ((m.take i).map (·.2))) ∧ Below w3.heap.size w3 wr) (fun _ iv _ => n - (intOf iv).toNat)
  case atStart => exact ⟨0, _, Nat.zero_le _, rfl, rfl, HO0, hbE⟩
  case round =>
    clear HO0 hbE
    obtain ⟨i, ov, hi, rfl, rfl, HO, hb⟩ := hrel
    by_cases hlt : i < n
    · have hii : (i : Int) < (n : Int) := by omega
      have hi0 : (0 : Int) ≤ (i : Int) := by omega
      obtain ⟨x, hx⟩ := HM3.out.get hlt
      obtain ⟨x0, hax, _⟩ := HM3.out.2.2.2 i x hx
      subst hax
      have hxp : (m.map (·.1))[i]? = some x.1 := by rw [List.getElem?_map, hx]; rfl
      obtain ⟨xb, hbx, _⟩ := HP.out.2.2.2 i x.1 hxp
      subst hbx
      have hy := (HM3.out.below hb).load_at Tryz.underlying112 rfl size_have hx
      have HX := Lib.hid (HM3.out.okay hx)
      have HXP := Lib.hid hxp
      have hlk := HLK.out i x hx
      have HG := Lib.hid (show ∀ w', Below w3.heap.size w3 w' → Calls Tryz.prog 16 #[v, .agg (ptCells x.1.1 x.1.2).toArray] w' fun e w2 => e = .returned (.tuple #[.agg (coCells x.2).toArray, .bool true]) ∧ Below w'.heap.size w' w2 from fun w' hb => by
        have h := HO2.get (HOK.below HS3.out hb) x.1 HX.out.1
        rw [hlk] at h
        exact h)
      have HTK := Lib.hid (show (m.take (i + 1)).map (·.2) = (m.take i).map (·.2) ++ [x.2] by
        obtain ⟨h2, h3⟩ := List.getElem?_eq_some_iff.1 hx
        rw [List.take_succ_eq_append_getElem h2, h3, List.map_append, List.map_singleton])
      have HOL := Lib.hid (show ((m.take i).map (·.2)).length ≤ 1000000 by rw [List.length_map, List.length_take]; have := HN.out; omega)
      clear hx hxp hlk
      go_upto_region 8 with (first
        | (refine wpList_store_mid rfl 112 (.tmp 8) (.tmp 36) rfl wr.heap.size 0 (hvCells x).toArray rfl rfl (hvRec.there wr 112 (by kernel_rfl) HX.out) (hvRec.size_eq size_have HX.out) (hvRec.all_one x) ?_)
        | (refine wpList_load_run rfl 112 (.tmp 35) rfl _ _ rfl hy ?_))
      obtain ⟨w5, hw5⟩ : ∃ u, u = (wr.alloc (.cells zHl 112 )).setCells wr.heap.size 0 (hvCells x) := ⟨_, rfl⟩
      obtain ⟨hG, hb5⟩ := Rec.new (R := hvRec) (by kernel_rfl) HX.out hw5
      rw [← hw5]
      obtain ⟨g5, hg5⟩ : ∃ g, g = wr.heap.size := ⟨_, rfl⟩
      rw [← hg5] at hG ⊢
      have hT5 := hb.trans (hb5.mono hb.size)
      have hcp : ∀ (j : Nat) (u : Value), (ptCells x.1.1 x.1.2)[j]? = some u → (hvCells x).toArray[0 + j]? = some u := fun j u h => by rw [List.getElem?_toArray, Nat.zero_add]; exact hv_pt j u h
      have hcc : ∀ (j : Nat) (u : Value), (coCells x.2)[j]? = some u → (hvCells x).toArray[33 + j]? = some u := fun j u h => by rw [List.getElem?_toArray]; exact hv_co HX.out.1.1 j u h
      have HCP := Lib.hid (And.intro hcp hcc)
      have lP := has_mid (t := 32 ) (show Has w5 g5 112 (hvCells x).toArray from hG) 0 (ptCells x.1.1 x.1.2) HCP.out.1 Tryz.underlying32 rfl (by rw [ptCells_len HX.out.1.1]; kernel_rfl)
      clear hw5 hg5 hy hcp hcc
      go_upto_region 9 with (first
        | (refine wpList_store_mid rfl 35 (.tmp 9) (.tmp 42) rfl w6.heap.size 0 (coCells x.2).toArray rfl rfl ((Has.fresh w6 35 #[.int .i64 0, .int .u64 0]).there 0 2 (Nat.le_refl _)) (size_co x.2) (coRec.all_one x.2) ?_)
        | (go_at_call 16; refine (HG.out w5 hT5).mono ?_; rintro e w6 ⟨rfl, hb6⟩)
        | (refine wpList_load_run rfl 32 (.tmp 39) rfl _ _ rfl lP ?_))
      obtain ⟨w7, hw7⟩ : ∃ u, u = (w6.alloc (.cells #[.int .i64 0, .int .u64 0] 35 )).setCells w6.heap.size 0 (coCells x.2).toArray.toList := ⟨_, rfl⟩
      have hw7n : w7 = (w6.alloc (.cells #[.int .i64 0, .int .u64 0] 35 )).setCells w6.heap.size 0 (coCells x.2) := hw7
      have hX7 : Has w7 w6.heap.size 35 (coCells x.2).toArray := by rw [hw7]; exact (Has.fresh w6 _ _).whole_cs rfl
      have hb67 : Below w6.heap.size w6 w7 := by rw [hw7]; exact below_setAll (Nat.le_refl _) _ 0 ((Below.refl _ _).alloc (Nat.le_refl _) _)
      first | rw [← hw7] | rw [← hw7n]
      obtain ⟨g7, hg7⟩ : ∃ g, g = w6.heap.size := ⟨_, rfl⟩
      rw [← hg7] at hX7 ⊢
      have hb57 := hb6.trans (hb67.mono hb6.size)
      have hT7 := hT5.trans (hb57.mono hT5.size)
      have hG7 : Has w7 g5 112 (hvCells x).toArray := hG.under hb57 hG.lt
      clear lP hw7 hw7n hg7
      obtain ⟨ws, hws⟩ : ∃ u, u = w7.drew := ⟨_, rfl⟩
      have hbs : Below w7.heap.size w7 ws := by rw [hws]; exact (Below.refl _ _).drew
      have hTs := hT7.trans (hbs.mono hT7.size)
      have hGs := hG7.under hbs hG7.lt
      have hXs := hX7.under hbs hX7.lt
      have HOS := Lib.hid (HO.out.below (hb5.trans ((hb57.trans (hbs.mono hb57.size)).mono hb5.size)))
      have lB := fun (wq : World) (hSw : Held ws wq) => ((HP.out.below hTs).below hSw.below).load_at Tryz.underlying32 rfl size_ptr HXP.out
      have lG := fun (wq : World) (hSw : Held ws wq) => has_mid (t := 32 ) (hGs.under hSw.below hGs.lt) 0 (ptCells x.1.1 x.1.2) HCP.out.1 Tryz.underlying32 rfl (by rw [ptCells_len HX.out.1.1]; kernel_rfl)
      have l7 := fun (wq : World) (hSw : Held ws wq) => (hXs.under hSw.below hXs.lt).load_agg (P := Tryz.prog) (t := 35 ) Tryz.underlying35 rfl (size_co x.2)
      have l9 := fun (wq : World) (hSw : Held ws wq) => has_mid (t := 35 ) (hGs.under hSw.below hGs.lt) 33 (coCells x.2) HCP.out.2 Tryz.underlying35 rfl (by kernel_rfl)
      have lC := has_mid (t := 35 ) hGs 33 (coCells x.2) HCP.out.2 Tryz.underlying35 rfl (by kernel_rfl)
      have HEQ := Lib.hid (show ∀ w, (binOp .neq 32 (.agg (ptCells x.1.1 x.1.2).toArray) (.agg (ptCells x.1.1 x.1.2).toArray)).run Tryz.prog w = .ok (.bool false) w from fun w => (neq_point w x.1.1 x.1.1 x.1.2 x.1.2 HX.out.1.1 HX.out.1.1).trans (by rw [decide_eq_true (show x.1.1 = x.1.1 ∧ x.1.2 = x.1.2 from ⟨rfl, rfl⟩)]; rfl))
      have HEC := Lib.hid (show ∀ w, (binOp .neq 35 (.agg (coCells x.2).toArray) (.agg (coCells x.2).toArray)).run Tryz.prog w = .ok (.bool false) w from fun w => (neq_coin w x.2 x.2).trans (by rw [decide_eq_true rfl]; rfl))
      refine wp_region_held_drew (S := Held ws) (by kernel_rfl) (by rw [hws]; exact Held.refl _) (fun hHeld => ?_)
      rw [← hws] at hHeld ⊢
      clear hws
      refine take_at (v := ?_) 0 44 rfl rfl (by kernel_rfl) (by kernel_rfl) (by kernel_rfl) (fun _ _ _ h => h) hHeld (Or.inl ⟨by rfl, ?_⟩) rfl ?_
      rotate_left
      · intro wq hSw
        go_simp
        try with_reducible rfl
      simp only [List.set_cons_zero, List.set_cons_succ]
      refine take_at (v := ?_) 1 45 rfl rfl (by kernel_rfl) (by kernel_rfl) (by kernel_rfl) (fun _ _ _ h => h) hHeld (Or.inl ⟨by rfl, ?_⟩) rfl ?_
      rotate_left
      · intro wq hSw
        go_simp
        try with_reducible rfl
      simp only [List.set_cons_zero, List.set_cons_succ]
      refine take_at (v := ?_) 2 46 rfl rfl (by kernel_rfl) (by kernel_rfl) (by kernel_rfl) (fun _ _ _ h => h) hHeld (Or.inl ⟨by rfl, ?_⟩) rfl ?_
      rotate_left
      · intro wq hSw
        go_simp
        try with_reducible rfl
      simp only [List.set_cons_zero, List.set_cons_succ]
      refine take_at 3 47 rfl rfl (by kernel_rfl) (by kernel_rfl) (by kernel_rfl) (fun _ _ _ h => h) hHeld (yieldsIf_load_agg (by rfl) 32 (.tmp 46) rfl _ _ (by rfl) (fun wq hSw => lB wq hSw)) rfl ?_
      simp only [List.set_cons_zero, List.set_cons_succ]
      refine take_at (v := ?_) 4 48 rfl rfl (by kernel_rfl) (by kernel_rfl) (by kernel_rfl) (fun _ _ _ h => h) hHeld (Or.inl ⟨by rfl, ?_⟩) rfl ?_
      rotate_left
      · intro wq hSw
        go_simp
        try with_reducible rfl
      simp only [List.set_cons_zero, List.set_cons_succ]
      refine take_at 5 49 rfl rfl (by kernel_rfl) (by kernel_rfl) (by kernel_rfl) (fun _ _ _ h => h) hHeld (yieldsIf_load_agg (by rfl) 32 (.tmp 48) rfl _ _ (by rfl) (fun wq hSw => lG wq hSw)) rfl ?_
      simp only [List.set_cons_zero, List.set_cons_succ]
      refine take_at (v := .bool false) 6 50 rfl rfl (by kernel_rfl) (by kernel_rfl) (by kernel_rfl) (fun _ _ _ h => h) hHeld (yieldsIf_bin (by rfl) .neq 32 (.tmp 47) (.tmp 49) _ rfl (ptCells x.1.1 x.1.2).toArray (ptCells x.1.1 x.1.2).toArray (by rfl) (by rfl) (by kernel_rfl) _ HEQ.out) rfl ?_
      simp only [List.set_cons_zero, List.set_cons_succ]
      refine take_at (v := ?_) 7 51 rfl rfl (by kernel_rfl) (by kernel_rfl) (by kernel_rfl) (fun _ _ _ h => h) hHeld (Or.inl ⟨by rfl, ?_⟩) rfl ?_
      rotate_left
      · intro wq hSw
        go_simp
        try with_reducible rfl
      simp only [List.set_cons_zero, List.set_cons_succ]
      refine take_at (v := ?_) 8 52 rfl rfl (by kernel_rfl) (by kernel_rfl) (by kernel_rfl) (fun _ _ _ h => h) hHeld (Or.inl ⟨by rfl, ?_⟩) rfl ?_
      rotate_left
      · intro wq hSw
        go_simp
        try with_reducible rfl
      simp only [List.set_cons_zero, List.set_cons_succ]
      refine take_at (v := ?_) 9 53 rfl rfl (by kernel_rfl) (by kernel_rfl) (by kernel_rfl) (fun _ _ _ h => h) hHeld (Or.inl ⟨by rfl, ?_⟩) rfl ?_
      rotate_left
      · intro wq hSw
        go_simp
        try with_reducible rfl
      simp only [List.set_cons_zero, List.set_cons_succ]
      refine take_at (v := ?_) 10 54 rfl rfl (by kernel_rfl) (by kernel_rfl) (by kernel_rfl) (fun _ _ _ h => h) hHeld (Or.inl ⟨by rfl, ?_⟩) rfl ?_
      rotate_left
      · intro wq hSw
        go_simp
        try with_reducible rfl
      simp only [List.set_cons_zero, List.set_cons_succ]
      refine take_at (v := ?_) 11 55 rfl rfl (by kernel_rfl) (by kernel_rfl) (by kernel_rfl) (fun _ _ _ h => h) hHeld (Or.inl ⟨by rfl, ?_⟩) rfl ?_
      rotate_left
      · intro wq hSw
        go_simp
        try with_reducible rfl
      simp only [List.set_cons_zero, List.set_cons_succ]
      refine take_at 12 56 rfl rfl (by kernel_rfl) (by kernel_rfl) (by kernel_rfl) (fun _ _ _ h => h) hHeld (yieldsIf_load_agg (by rfl) 35 (.tmp 9) rfl _ _ (by rfl) (fun wq hSw => l7 wq hSw)) rfl ?_
      simp only [List.set_cons_zero, List.set_cons_succ]
      refine take_at (v := ?_) 13 57 rfl rfl (by kernel_rfl) (by kernel_rfl) (by kernel_rfl) (fun _ _ _ h => h) hHeld (Or.inl ⟨by rfl, ?_⟩) rfl ?_
      rotate_left
      · intro wq hSw
        go_simp
        try with_reducible rfl
      simp only [List.set_cons_zero, List.set_cons_succ]
      refine take_at 14 58 rfl rfl (by kernel_rfl) (by kernel_rfl) (by kernel_rfl) (fun _ _ _ h => h) hHeld (yieldsIf_load_agg (by rfl) 35 (.tmp 57) rfl _ _ (by rfl) (fun wq hSw => l9 wq hSw)) rfl ?_
      simp only [List.set_cons_zero, List.set_cons_succ]
      refine take_at (v := .bool false) 15 59 rfl rfl (by kernel_rfl) (by kernel_rfl) (by kernel_rfl) (fun _ _ _ h => h) hHeld (yieldsIf_bin (by rfl) .neq 35 (.tmp 56) (.tmp 58) _ rfl (coCells x.2).toArray (coCells x.2).toArray (by rfl) (by rfl) (by kernel_rfl) _ HEC.out) rfl ?_
      simp only [List.set_cons_zero, List.set_cons_succ]
      refine take_at (v := ?_) 16 60 rfl rfl (by kernel_rfl) (by kernel_rfl) (by kernel_rfl) (fun _ _ _ h => h) hHeld (Or.inl ⟨by rfl, ?_⟩) rfl ?_
      rotate_left
      · intro wq hSw
        go_simp
        try with_reducible rfl
      simp only [List.set_cons_zero, List.set_cons_succ]
      refine wpAnyH_done (by kernel_rfl) ?_ _
      go_wp2_with (first
        | (at_builtin; refine wpList_append_recs (R := coRec) rfl (.tmp 61) (.tmp 64) 37 rfl 35 Tryz.underlying37 info_coin (by kernel_rfl) (by decide) w3.heap.size ov _ rfl (HOS.out.below ((Below.refl _ _).alloc (Nat.le_refl _) _)) (some ⟨ws.heap.size, 0, none⟩) 1 1 [x.2] rfl (co_fresh HX.out.2) (fun e => by cases e) (by have := HOL.out; omega) (by have := hTs.size; simp; omega) ?_; intro v' wf ho' hg' hl')
        | (refine wpList_build_row rfl (.tmp 63) 37 rfl 35 Tryz.underlying37 info_coin (by decide) (by decide) (coCells x.2).toArray rfl rfl ?_)
        | (refine wpList_load_run rfl 35 (.tmp 62) rfl _ _ rfl lC ?_))
      have hTf := below_own_recs (hTs.alloc hTs.size _) hg' HOS.out.lt
      have HOF := Lib.hid (show OwnR coRec 35 w3.heap.size wf v' ((m.take (i + 1)).map (·.2)) by rw [HTK.out]; exact ho')
      clear ho' hg' hl' lC
      go_roundw
      case rel => exact ⟨i + 1, v', by omega, by go_num, rfl, HOF, hTf⟩
      case measure => (simp [intOf]; try omega)
    · have hii : ¬ (i : Int) < (n : Int) := by omega
      have htk : (m.take i).map (·.2) = m.map (·.2) := by rw [List.take_of_length_le (by rw [HM3.out.1]; omega)]
      have ho := HO.out
      rw [htk] at ho
      obtain ⟨oa, oc, rfl, _, _, _, hro⟩ := ho.shape (K := n) (by rw [List.length_map, HM3.out.1])
      have hTr := HB3.out.trans (hb.mono HB3.out.size)
      have HW1 := Lib.hid (HWT.out wr hTr)
      have HW2 := Lib.hid (fun (w' : World) (hb' : Below wr.heap.size wr w') => HRW.out w' oa oc (hro.below hb'))
      clear htk ho hro
      go_upto_region 14 with (go_at_call 10; refine HW1.out.mono ?_; rintro e wC ⟨rfl, hbC⟩)
      have HW3 := Lib.hid (HW2.out wC hbC)
      go_wp2_with (first
        | (go_at_call 19; refine (num_any T2 _).mono ?_; rintro e wE ⟨rfl, rfl⟩)
        | (go_at_call 55; refine HW3.out.mono ?_; rintro e wD ⟨rfl, hbD⟩))
      go_ret
      exact ⟨rfl, hTr.trans ((hbC.trans (hbD.mono hbC.size)).mono hTr.size)⟩
end Go.Proofs.YtagjolbpmhbifaaGreatDoor
