/- reference of coins: less, Get, Without, With, Put, Worth (mkcrb.py) -/
import Derived.Test.YtdfplenniamnoaaGreatDoorJ32
import Derived.Test.YtdfplenniamnoaaGreatDoorJ22
/-! reference of coins: less, Get, Without, With, Put, Worth (mkcrb.py) -/
namespace Go.Proofs.YtdfplenniamnoaaGreatDoor
open Go Go.RowKit Go.ChangeShapes Go.WideShapes
theorem info_have : (Tryz.prog.info? 103 ).map (fun i => (i.zero, i.size, i.bytes)) = some (some (.agg (zPt ++ #[.int .i64 0, .int .u64 0])), hvRec.k, 56) := by kernel_rfl
theorem Cs.look_at {L : List Cs.Hv} {p : Cs.Pt} {c : Tx.Co} : ∀ {i : Nat}, (∀ (j : Nat) (x : Cs.Hv), j < i → L[j]? = some x → x.1 ≠ p) → L[i]? = some (p, c) → Cs.look L p = some c := by
  induction L with
  | nil => intro i _ h; simp at h
  | cons y L ih =>
    intro i hn hi
    unfold Cs.look
    rw [Cs.idx_cons]
    cases i with
    | zero =>
      have e : y = (p, c) := by simpa using hi
      rw [e, if_pos rfl]
      rfl
    | succ i =>
      have h0 := hn 0 y (by omega) rfl
      rw [if_neg (fun e => h0 e.symm)]
      have h1 := ih (i := i) (fun j x hj hx => hn (j + 1) x (by omega) (by simpa using hx)) (by simpa using hi)
      unfold Cs.look at h1
      cases hq : Cs.idx p L with
      | none => rw [hq] at h1; cases h1
      | some r => rw [hq] at h1; injection h1 with h1; simp [h1]
theorem Cs.look_no {L : List Cs.Hv} {p : Cs.Pt} (h : ∀ (j : Nat) (x : Cs.Hv), j < L.length → L[j]? = some x → x.1 ≠ p) : Cs.look L p = none := by
  unfold Cs.look
  rw [Cs.idx_none.2 fun x hx e => by
    obtain ⟨j, hj⟩ := List.mem_iff_getElem?.1 hx
    exact h j x (List.getElem?_eq_some_iff.1 hj).1 hj e]
  rfl
theorem Cs.rwi_app (p : Cs.Pt) (c : Tx.Co) : ∀ (l m : List Cs.Hv), (∀ x, x ∈ l → ¬ Cs.Ahead p x.1) → l ++ Cs.rwi m p c = Cs.rwi (l ++ m) p c
  | [], _, _ => rfl
  | x :: l, m, h => by
    have ih := Cs.rwi_app p c l m (fun y hy => h y (List.mem_cons_of_mem _ hy))
    show x :: (l ++ Cs.rwi m p c) = Cs.rwi (x :: (l ++ m)) p c
    rw [ih]
    conv => rhs; unfold Cs.rwi
    rw [if_neg (h x List.mem_cons_self)]
theorem hv_fresh {w : World} {x : Cs.Hv} (hx : hvRec.ok x) : Recs hvRec (w.alloc (.cells (hvCells x).toArray 103 )) (some ⟨w.heap.size, 0, none⟩) 1 [x] :=
  recs_fresh (R := hvRec) (L := [x]) (fun q hq => by rw [List.mem_singleton.1 hq]; exact hx) (Has.fresh _ _ _) (by show 1 ≤ maxLen; unfold maxLen; omega) (fun j u hj => by
    have e : hvRec.row [x] = hvCells x := by show hvRec.cells x ++ [] = _; rw [List.append_nil]; rfl
    rw [e] at hj
    rw [← Array.getElem?_toList]
    exact hj)
set_option maxRecDepth 100000 in
set_option maxHeartbeats 8000000 in
theorem r12less (p q : Cs.Pt) (hp : p.1.length = 32) (hq : q.1.length = 32) (w : World) :
    Calls Tryz.prog 110 #[.agg (ptCells p.1 p.2).toArray, .agg (ptCells q.1 q.2).toArray] w fun e w' => e = .returned (.bool (decide (Cs.Ahead p q))) ∧ Below w.heap.size w w' := by
  obtain ⟨W1, hW1⟩ : ∃ ww, ww = (w.alloc (.cells (ptCells p.1 p.2).toArray 36 )).alloc (.cells (ptCells q.1 q.2).toArray 36 ) := ⟨_, rfl⟩
  have hB1 : Below w.heap.size w W1 := by rw [hW1]; exact ((Below.refl _ _).alloc (Nat.le_refl _) _).alloc (by simp) _
  obtain ⟨g1, hg1⟩ : ∃ x, x = w.heap.size := ⟨_, rfl⟩
  have hP1 : Has W1 g1 36 (ptCells p.1 p.2).toArray := by rw [hW1, hg1]; exact (Has.fresh _ _ _).past _
  have hQ1 : Has W1 (g1 + 1) 36 (ptCells q.1 q.2).toArray := by rw [hW1, hg1]; exact Has.fresh_at _ _ _ (by simp)
  have lP := has_mid (t := 34 ) hP1 0 (blist p.1) pt_hash Tryz.underlying34 rfl (by rw [blist_length, hp]; kernel_rfl)
  have lQ := has_mid (t := 34 ) hQ1 0 (blist q.1) pt_hash Tryz.underlying34 rfl (by rw [blist_length, hq]; kernel_rfl)
  have cP : W1.cell? ⟨g1, 32, none⟩ = some (.int .i64 p.2) := hP1.cell_at (ptCells_last hp)
  have cQ : W1.cell? ⟨g1 + 1, 32, none⟩ = some (.int .i64 q.2) := hQ1.cell_at (ptCells_last hq)
  have HW1 := Lib.hid hW1
  have HG1 := Lib.hid hg1
  have HP := Lib.hid (And.intro hp hq)
  have HB1 := Lib.hid hB1
  obtain ⟨r, hr⟩ : ∃ r, r = decide (Cs.Ahead p q) := ⟨_, rfl⟩
  rw [← hr]
  by_cases he : p.1 = q.1
  · have HE := Lib.hid (show ∀ w, (binOp .neq 34 (.agg (blist p.1).toArray) (.agg (blist q.1).toArray)).run Tryz.prog w = .ok (.bool false) w from fun w => (run_neq_hash w Tryz.underlying34 Tryz.underlying5 (by kernel_rfl) p.1 q.1 hp hq).trans (by rw [decide_eq_true he]; rfl))
    have HR := Lib.hid (show decide (p.2 < q.2) = r by
      rw [hr]
      exact decide_eq_decide.2 ⟨fun h => .inr ⟨he, h⟩, fun h => h.elim (fun h1 => by rw [he, Cs.cmp_same] at h1; cases h1) (fun h1 => h1.2)⟩)
    clear hW1 hP1 hQ1 hr he hp hq hg1 hB1
    go_enter Tryz.func110, Tryz.ntmps110
    go_upto_region 1 with fail
    rw [← HW1.out, ← HG1.out]
    go_wp2_with (first
      | (refine wpList_load_run rfl 34 (.tmp 5) rfl _ _ rfl lP ?_)
      | (refine wpList_load_run rfl 34 (.tmp 7) rfl _ _ rfl lQ ?_)
      | (refine wpList_bin_run rfl .neq 34 (.tmp 6) (.tmp 8) _ rfl _ _ rfl rfl (by kernel_rfl) _ (HE.out _) ?_))
    go_ret
    exact ⟨by rw [← HR.out]; rfl, HB1.out⟩
  · have HE := Lib.hid (show ∀ w, (binOp .neq 34 (.agg (blist p.1).toArray) (.agg (blist q.1).toArray)).run Tryz.prog w = .ok (.bool true) w from fun w => (run_neq_hash w Tryz.underlying34 Tryz.underlying5 (by kernel_rfl) p.1 q.1 hp hq).trans (by rw [decide_eq_false he]; rfl))
    have HR := Lib.hid (show decide (Dg.cmp p.1 q.1 = -1) = r by
      rw [hr]
      exact decide_eq_decide.2 ⟨.inl, fun h => h.elim id (fun h1 => absurd h1.1 he)⟩)
    have HL := Lib.hid (rless_any p.1 q.1 hp hq W1)
    clear hW1 hP1 hQ1 hr he hp hq hg1 hB1
    go_enter Tryz.func110, Tryz.ntmps110
    go_upto_region 1 with fail
    rw [← HW1.out, ← HG1.out]
    go_wp2_with (first
      | (go_at_call 148; refine HL.out.mono ?_; rw [HR.out]; rintro e w2 ⟨rfl, hb2⟩)
      | (refine wpList_load_run rfl 34 (.tmp 5) rfl _ _ rfl lP ?_)
      | (refine wpList_load_run rfl 34 (.tmp 7) rfl _ _ rfl lQ ?_)
      | (refine wpList_load_run rfl 34 (.tmp 10) rfl _ _ rfl lP ?_)
      | (refine wpList_load_run rfl 34 (.tmp 12) rfl _ _ rfl lQ ?_)
      | (refine wpList_bin_run rfl .neq 34 (.tmp 6) (.tmp 8) _ rfl _ _ rfl rfl (by kernel_rfl) _ (HE.out _) ?_))
    go_ret
    exact ⟨rfl, HB1.out.trans (hb2.mono HB1.out.size)⟩
set_option maxRecDepth 100000 in
set_option maxHeartbeats 8000000 in
theorem r12get (a : Option Addr) (n q : Nat) (L : List Cs.Hv) (p : Cs.Pt) (hp : p.1.length = 32) (w : World) (h : Recs hvRec w a n L) :
    Calls Tryz.prog 56 #[.slice a n q, .agg (ptCells p.1 p.2).toArray] w fun e w' => e = .returned (.tuple #[.agg (coCells ((Cs.look L p).getD ⟨0, 0#64⟩)).toArray, .bool (Cs.look L p).isSome]) ∧ Below w.heap.size w w' := by
  have hnmx : n ≤ 9223372036854775807 := h.2.1
  obtain ⟨W1, hW1⟩ : ∃ ww, ww = (w.alloc (.cells (ptCells p.1 p.2).toArray 36 )).alloc (.cells #[.int .i64 0, .int .u64 0] 39 ) := ⟨_, rfl⟩
  have hB1 : Below w.heap.size w W1 := by rw [hW1]; exact ((Below.refl _ _).alloc (Nat.le_refl _) _).alloc (by simp) _
  have hP1 : Has W1 w.heap.size 36 (ptCells p.1 p.2).toArray := by rw [hW1]; exact (Has.fresh _ _ _).past _
  have hC1 : Has W1 (w.heap.size + 1) 39 #[.int .i64 0, .int .u64 0] := by rw [hW1]; exact Has.fresh_at _ _ _ (by simp)
  obtain ⟨rc, hrc⟩ : ∃ c, c = (Cs.look L p).getD ⟨0, 0#64⟩ := ⟨_, rfl⟩
  obtain ⟨ro, hro⟩ : ∃ o, o = (Cs.look L p).isSome := ⟨_, rfl⟩
  rw [← hrc, ← hro]
  have HRC := Lib.hid (And.intro hrc hro)
  have HW1 := Lib.hid hW1
  have HP1 := Lib.hid hP1
  have HC1 := Lib.hid hC1
  have HB1 := Lib.hid hB1
  have HPL := Lib.hid hp
  have HR := Lib.hid (h.below hB1)
  have hbd := fun (w : World) => run_build (P := Tryz.prog) w 39 #[] #[.int .i64 0, .int .u64 0] (by kernel_rfl)
  clear hW1 hP1 hC1 hrc hro hp hB1 h
  go_enter Tryz.func56, Tryz.ntmps56
  go_upto_region 1 with fail
  rw [← HW1.out]
  go_wp2
  go_loopw [6] (fun iv wr => ∃ i : Nat, i ≤ n ∧ iv = .int .i64 i ∧ RowKit.Hid (∀ (j : Nat) (x : Cs.Hv), j < i → L[j]? = some x → x.1 ≠ p) ∧ Below W1.heap.size W1 wr) (fun iv _ => n - (intOf iv).toNat)
  case atStart => exact ⟨0, Nat.zero_le _, rfl, Lib.hid (fun j x hj => by omega), Below.refl _ _⟩
  case round =>
    obtain ⟨i, hi, rfl, HN, hb⟩ := hrel
    by_cases hlt : i < n
    · have hii : (i : Int) < (n : Int) := by omega
      have hi0 : (0 : Int) ≤ (i : Int) := by omega
      obtain ⟨x, hx⟩ := HR.out.get hlt
      obtain ⟨x0, hax, _⟩ := HR.out.2.2.2 i x hx
      subst hax
      have HX := Lib.hid (HR.out.okay hx)
      have HXI := Lib.hid hx
      clear hx
      go_upto_region 4 with fail
      have hx := HXI.out
      obtain ⟨ws, hws⟩ : ∃ u, u = wr.drew := ⟨_, rfl⟩
      have hbs : Below wr.heap.size wr ws := by rw [hws]; exact (Below.refl _ _).drew
      have hTs := hb.trans (hbs.mono hb.size)
      have hPs := HP1.out.under hTs HP1.out.lt
      have lE := fun (wq : World) (hSw : Held ws wq) => Recs.load_part (R := hvRec) Tryz.underlying36 rfl ((HR.out.below hTs).below hSw.below) hx (ptCells x.1.1 x.1.2) (by rw [ptCells_len HX.out.1.1]; kernel_rfl) hv_pt
      have lQ := fun (wq : World) (hSw : Held ws wq) => (hPs.under hSw.below hPs.lt).load_agg (P := Tryz.prog) (t := 36 ) Tryz.underlying36 rfl (size_pt HPL.out)
      refine wp_region_held_drew (S := Held ws) (by kernel_rfl) (by rw [hws]; exact Held.refl _) (fun hHeld => ?_)
      rw [← hws] at hHeld ⊢
      clear hws
      by_cases hxe : x.1 = p
      · have HEQ := Lib.hid (show ∀ w, (binOp .eql 36 (.agg (ptCells x.1.1 x.1.2).toArray) (.agg (ptCells p.1 p.2).toArray)).run Tryz.prog w = .ok (.bool true) w from fun w => (eql_point w x.1.1 p.1 x.1.2 p.2 HX.out.1.1 HPL.out).trans (by rw [decide_eq_true (show x.1.1 = p.1 ∧ x.1.2 = p.2 from ⟨by rw [hxe], by rw [hxe]⟩)]))
        have HF := Lib.hid (show Cs.look L p = some x.2 from Cs.look_at HN.out (by rw [HXI.out, ← hxe]))
        clear hxe hx
        refine take_at (v := ?_) 0 13 rfl rfl (by kernel_rfl) (by kernel_rfl) (by kernel_rfl) (fun _ _ _ h => h) hHeld (Or.inl ⟨by rfl, ?_⟩) rfl ?_
        rotate_left
        · intro wq hSw
          go_simp
          try with_reducible rfl
        simp only [List.set_cons_zero, List.set_cons_succ]
        refine take_at (v := ?_) 1 14 rfl rfl (by kernel_rfl) (by kernel_rfl) (by kernel_rfl) (fun _ _ _ h => h) hHeld (Or.inl ⟨by rfl, ?_⟩) rfl ?_
        rotate_left
        · intro wq hSw
          go_simp
          try with_reducible rfl
        simp only [List.set_cons_zero, List.set_cons_succ]
        refine take_at (v := ?_) 2 15 rfl rfl (by kernel_rfl) (by kernel_rfl) (by kernel_rfl) (fun _ _ _ h => h) hHeld (Or.inl ⟨by rfl, ?_⟩) rfl ?_
        rotate_left
        · intro wq hSw
          go_simp
          try with_reducible rfl
        simp only [List.set_cons_zero, List.set_cons_succ]
        refine take_at (v := ?_) 3 16 rfl rfl (by kernel_rfl) (by kernel_rfl) (by kernel_rfl) (fun _ _ _ h => h) hHeld (Or.inl ⟨by rfl, ?_⟩) rfl ?_
        rotate_left
        · intro wq hSw
          go_simp
          try with_reducible rfl
        simp only [List.set_cons_zero, List.set_cons_succ]
        refine take_at 4 17 rfl rfl (by kernel_rfl) (by kernel_rfl) (by kernel_rfl) (fun _ _ _ h => h) hHeld (yieldsIf_load_agg (by rfl) 36 (.tmp 16) rfl _ _ (by rfl) (fun wq hSw => lE wq hSw)) rfl ?_
        simp only [List.set_cons_zero, List.set_cons_succ]
        refine take_at 5 18 rfl rfl (by kernel_rfl) (by kernel_rfl) (by kernel_rfl) (fun _ _ _ h => h) hHeld (yieldsIf_load_agg (by rfl) 36 (.tmp 3) rfl _ _ (by rfl) (fun wq hSw => lQ wq hSw)) rfl ?_
        simp only [List.set_cons_zero, List.set_cons_succ]
        refine take_at (v := .bool true) 6 19 rfl rfl (by kernel_rfl) (by kernel_rfl) (by kernel_rfl) (fun _ _ _ h => h) hHeld (yieldsIf_bin (by rfl) .eql 36 (.tmp 17) (.tmp 18) _ rfl (ptCells x.1.1 x.1.2).toArray (ptCells p.1 p.2).toArray (by rfl) (by rfl) (by kernel_rfl) _ HEQ.out) rfl ?_
        simp only [List.set_cons_zero, List.set_cons_succ]
        refine wpAnyH_done (by kernel_rfl) ?_ _
        have lC := Recs.load_later (R := hvRec) (T := 39 ) Tryz.underlying39 rfl (HR.out.below hTs) HXI.out 32 (coCells x.2) (by kernel_rfl) (hv_co HX.out.1.1)
        have hCs := HC1.out.under hTs HC1.out.lt
        go_wp2_with (first
          | (refine wpList_load_run rfl 39 (.tmp 23) rfl _ _ rfl lC ?_)
          | (refine wpList_store_mid rfl 39 (.tmp 4) (.tmp 24) rfl (w.heap.size + 1) 0 (coCells x.2).toArray rfl rfl (hCs.there 0 2 (Nat.le_refl _)) (size_co x.2) (coRec.all_one x.2) ?_))
        have hE := hCs.whole_cs (cs2 := (coCells x.2).toArray) rfl
        have e1 : rc = x.2 := by rw [HRC.out.1, HF.out]; rfl
        have e2 : ro = true := by rw [HRC.out.2, HF.out]; rfl
        rw [e1, e2]
        exact bodyPost_ret (results_cellslot rfl _ _ (w.heap.size + 1) rfl _ _ (hE.load_var Tryz.underlying39 rfl (size_co x.2)) rfl) rfl ⟨rfl, below_setAll (by omega) _ 0 (HB1.out.trans (hTs.mono HB1.out.size))⟩
      · have HEQ := Lib.hid (show ∀ w, (binOp .eql 36 (.agg (ptCells x.1.1 x.1.2).toArray) (.agg (ptCells p.1 p.2).toArray)).run Tryz.prog w = .ok (.bool false) w from fun w => (eql_point w x.1.1 p.1 x.1.2 p.2 HX.out.1.1 HPL.out).trans (by rw [decide_eq_false (fun h : x.1.1 = p.1 ∧ x.1.2 = p.2 => hxe (Prod.ext h.1 h.2))]))
        have HN2 := Lib.hid (show ∀ (j : Nat) (y : Cs.Hv), j < i + 1 → L[j]? = some y → y.1 ≠ p from fun j y hj hy => by
          rcases Nat.lt_or_ge j i with h | h
          · exact HN.out j y h hy
          · have e2 : j = i := by omega
            subst e2
            rw [HXI.out] at hy
            injection hy with hy
            subst hy
            exact hxe)
        clear hxe hx
        refine take_at (v := ?_) 0 13 rfl rfl (by kernel_rfl) (by kernel_rfl) (by kernel_rfl) (fun _ _ _ h => h) hHeld (Or.inl ⟨by rfl, ?_⟩) rfl ?_
        rotate_left
        · intro wq hSw
          go_simp
          try with_reducible rfl
        simp only [List.set_cons_zero, List.set_cons_succ]
        refine take_at (v := ?_) 1 14 rfl rfl (by kernel_rfl) (by kernel_rfl) (by kernel_rfl) (fun _ _ _ h => h) hHeld (Or.inl ⟨by rfl, ?_⟩) rfl ?_
        rotate_left
        · intro wq hSw
          go_simp
          try with_reducible rfl
        simp only [List.set_cons_zero, List.set_cons_succ]
        refine take_at (v := ?_) 2 15 rfl rfl (by kernel_rfl) (by kernel_rfl) (by kernel_rfl) (fun _ _ _ h => h) hHeld (Or.inl ⟨by rfl, ?_⟩) rfl ?_
        rotate_left
        · intro wq hSw
          go_simp
          try with_reducible rfl
        simp only [List.set_cons_zero, List.set_cons_succ]
        refine take_at (v := ?_) 3 16 rfl rfl (by kernel_rfl) (by kernel_rfl) (by kernel_rfl) (fun _ _ _ h => h) hHeld (Or.inl ⟨by rfl, ?_⟩) rfl ?_
        rotate_left
        · intro wq hSw
          go_simp
          try with_reducible rfl
        simp only [List.set_cons_zero, List.set_cons_succ]
        refine take_at 4 17 rfl rfl (by kernel_rfl) (by kernel_rfl) (by kernel_rfl) (fun _ _ _ h => h) hHeld (yieldsIf_load_agg (by rfl) 36 (.tmp 16) rfl _ _ (by rfl) (fun wq hSw => lE wq hSw)) rfl ?_
        simp only [List.set_cons_zero, List.set_cons_succ]
        refine take_at 5 18 rfl rfl (by kernel_rfl) (by kernel_rfl) (by kernel_rfl) (fun _ _ _ h => h) hHeld (yieldsIf_load_agg (by rfl) 36 (.tmp 3) rfl _ _ (by rfl) (fun wq hSw => lQ wq hSw)) rfl ?_
        simp only [List.set_cons_zero, List.set_cons_succ]
        refine take_at (v := .bool false) 6 19 rfl rfl (by kernel_rfl) (by kernel_rfl) (by kernel_rfl) (fun _ _ _ h => h) hHeld (yieldsIf_bin (by rfl) .eql 36 (.tmp 17) (.tmp 18) _ rfl (ptCells x.1.1 x.1.2).toArray (ptCells p.1 p.2).toArray (by rfl) (by rfl) (by kernel_rfl) _ HEQ.out) rfl ?_
        simp only [List.set_cons_zero, List.set_cons_succ]
        refine wpAnyH_done (by kernel_rfl) ?_ _
        go_wp2
        go_roundw
        case rel => exact ⟨i + 1, by omega, by go_num, HN2, hTs⟩
        case measure => (simp [intOf]; try omega)
    · have hii : ¬ (i : Int) < (n : Int) := by omega
      have HF := Lib.hid (show Cs.look L p = none from Cs.look_no (fun j x hj hx => HN.out j x (by have := HR.out.1; omega) hx))
      have hCs := HC1.out.under hb HC1.out.lt
      go_wp2_with (refine wpList_store_mid rfl 39 (.tmp 4) (.tmp 25) rfl (w.heap.size + 1) 0 #[.int .i64 0, .int .u64 0] rfl rfl (hCs.there 0 2 (Nat.le_refl _)) (by kernel_rfl) (coRec.all_one ⟨0, 0#64⟩) ?_)
      have hE := hCs.whole_cs (cs2 := #[.int .i64 0, .int .u64 0]) rfl
      have e1 : rc = ⟨0, 0#64⟩ := by rw [HRC.out.1, HF.out]; rfl
      have e2 : ro = false := by rw [HRC.out.2, HF.out]; rfl
      rw [e1, e2]
      exact bodyPost_ret (results_cellslot rfl _ _ (w.heap.size + 1) rfl _ _ (hE.load_var Tryz.underlying39 rfl (by kernel_rfl)) rfl) rfl ⟨rfl, below_setAll (by omega) _ 0 (HB1.out.trans (hb.mono HB1.out.size))⟩
set_option maxRecDepth 100000 in
set_option maxHeartbeats 8000000 in
theorem r12without (a : Option Addr) (n q : Nat) (L : List Cs.Hv) (p : Cs.Pt) (hp : p.1.length = 32) (w : World) (h : Recs hvRec w a n L) (hn : n ≤ 1000000) :
    Calls Tryz.prog 68 #[.slice a n q, .agg (ptCells p.1 p.2).toArray] w fun e w' => ∃ v, e = .returned v ∧ OwnR hvRec 103 w.heap.size w' v (Cs.rwo L p) ∧ Below w.heap.size w w' := by
  have hnmx : n ≤ 9223372036854775807 := h.2.1
  obtain ⟨W1, hW1⟩ : ∃ ww, ww = w.alloc (.cells (ptCells p.1 p.2).toArray 36 ) := ⟨_, rfl⟩
  have hB1 : Below w.heap.size w W1 := by rw [hW1]; exact (Below.refl _ _).alloc (Nat.le_refl _) _
  have hP1 : Has W1 w.heap.size 36 (ptCells p.1 p.2).toArray := by rw [hW1]; exact Has.fresh _ _ _
  have HW1 := Lib.hid hW1
  have HPL := Lib.hid hp
  have HR := Lib.hid (h.below hB1)
  have HNN := Lib.hid hn
  have HRB := Lib.hid h
  have HO0 := Lib.hid (show OwnR hvRec 103 w.heap.size W1 (.slice none 0 0) (Cs.rwo (L.take 0) p) from OwnR.nil hvRec 103 w.heap.size W1)
  clear hW1 hp h hn
  go_enter Tryz.func68, Tryz.ntmps68
  go_upto_region 1 with fail
  rw [← HW1.out]
  go_wp2
  go_loopw [5, 6] (fun sv iv wr => ∃ (i : Nat) (ov : Value), i ≤ n ∧ iv = .int .i64 i ∧ ov = sv ∧ RowKit.Hid (OwnR hvRec 103 w.heap.size wr ov (Cs.rwo (L.take i) p) ∧ Recs hvRec wr a n L ∧ Has wr w.heap.size 36 (ptCells p.1 p.2).toArray) ∧ Below w.heap.size w wr) (fun _ iv _ => n - (intOf iv).toNat)
  case atStart => exact ⟨0, _, Nat.zero_le _, rfl, rfl, Lib.hid ⟨HO0.out, HR.out, hP1⟩, hB1⟩
  case round =>
    clear HO0 hP1 hB1 HR
    obtain ⟨i, ov, hi, rfl, rfl, HI, hb⟩ := hrel
    obtain ⟨hO, hR, hP1⟩ := HI.out
    have HR := Lib.hid hR
    have HO := Lib.hid hO
    by_cases hlt : i < n
    · have hii : (i : Int) < (n : Int) := by omega
      have hi0 : (0 : Int) ≤ (i : Int) := by omega
      obtain ⟨x, hx⟩ := hR.get hlt
      obtain ⟨x0, hax, _⟩ := hR.2.2.2 i x hx
      subst hax
      have HX := Lib.hid (hR.okay hx)
      have HXI := Lib.hid hx
      have HT := Lib.hid (show Cs.rwo (L.take (i + 1)) p = Cs.rwo (L.take i) p ++ Cs.rwo [x] p by
        obtain ⟨h2, h3⟩ := List.getElem?_eq_some_iff.1 hx
        unfold Cs.rwo
        rw [List.take_succ_eq_append_getElem h2, h3, List.filter_append])
      have HLN := Lib.hid (show (Cs.rwo (L.take i) p).length ≤ 1000000 by
        have h1 := List.length_filter_le (fun x : Cs.Hv => !decide (x.1 = p)) (L.take i)
        have h2 : (L.take i).length ≤ i := by rw [List.length_take]; omega
        have h3 : (Cs.rwo (L.take i) p).length = (List.filter (fun x : Cs.Hv => !decide (x.1 = p)) (L.take i)).length := rfl
        have := HNN.out
        omega)
      clear HI hO hR hx
      go_upto_region 5 with fail
      obtain ⟨ws, hws⟩ : ∃ u, u = wr.drew := ⟨_, rfl⟩
      have hbs : Below wr.heap.size wr ws := by rw [hws]; exact (Below.refl _ _).drew
      have hTs := hb.trans (hbs.mono hb.size)
      have hPs := hP1.under hbs hP1.lt
      have hRs := HR.out.below hbs
      have hOs := HO.out.below hbs
      have lE := fun (wq : World) (hSw : Held ws wq) => Recs.load_part (R := hvRec) Tryz.underlying36 rfl (hRs.below hSw.below) HXI.out (ptCells x.1.1 x.1.2) (by rw [ptCells_len HX.out.1.1]; kernel_rfl) hv_pt
      have lQ := fun (wq : World) (hSw : Held ws wq) => (hPs.under hSw.below hPs.lt).load_agg (P := Tryz.prog) (t := 36 ) Tryz.underlying36 rfl (size_pt HPL.out)
      refine wp_region_held_drew (S := Held ws) (by kernel_rfl) (by rw [hws]; exact Held.refl _) (fun hHeld => ?_)
      rw [← hws] at hHeld ⊢
      clear hws
      by_cases hxe : x.1 = p
      · have HEQ := Lib.hid (show ∀ w, (binOp .neq 36 (.agg (ptCells x.1.1 x.1.2).toArray) (.agg (ptCells p.1 p.2).toArray)).run Tryz.prog w = .ok (.bool false) w from fun w => (neq_point w x.1.1 p.1 x.1.2 p.2 HX.out.1.1 HPL.out).trans (by rw [decide_eq_true (show x.1.1 = p.1 ∧ x.1.2 = p.2 from ⟨by rw [hxe], by rw [hxe]⟩)]; rfl))
        have HI2 := Lib.hid (show OwnR hvRec 103 w.heap.size ws ov (Cs.rwo (L.take (i + 1)) p) ∧ Recs hvRec ws (some x0) n L ∧ Has ws w.heap.size 36 (ptCells p.1 p.2).toArray from
          ⟨by rw [HT.out, show Cs.rwo [x] p = [] by simp [Cs.rwo, hxe], List.append_nil]; exact hOs, hRs, hPs⟩)
        clear hxe
        refine take_at (v := ?_) 0 13 rfl rfl (by kernel_rfl) (by kernel_rfl) (by kernel_rfl) (fun _ _ _ h => h) hHeld (Or.inl ⟨by rfl, ?_⟩) rfl ?_
        rotate_left
        · intro wq hSw
          go_simp
          try with_reducible rfl
        simp only [List.set_cons_zero, List.set_cons_succ]
        refine take_at (v := ?_) 1 14 rfl rfl (by kernel_rfl) (by kernel_rfl) (by kernel_rfl) (fun _ _ _ h => h) hHeld (Or.inl ⟨by rfl, ?_⟩) rfl ?_
        rotate_left
        · intro wq hSw
          go_simp
          try with_reducible rfl
        simp only [List.set_cons_zero, List.set_cons_succ]
        refine take_at (v := ?_) 2 15 rfl rfl (by kernel_rfl) (by kernel_rfl) (by kernel_rfl) (fun _ _ _ h => h) hHeld (Or.inl ⟨by rfl, ?_⟩) rfl ?_
        rotate_left
        · intro wq hSw
          go_simp
          try with_reducible rfl
        simp only [List.set_cons_zero, List.set_cons_succ]
        refine take_at (v := ?_) 3 16 rfl rfl (by kernel_rfl) (by kernel_rfl) (by kernel_rfl) (fun _ _ _ h => h) hHeld (Or.inl ⟨by rfl, ?_⟩) rfl ?_
        rotate_left
        · intro wq hSw
          go_simp
          try with_reducible rfl
        simp only [List.set_cons_zero, List.set_cons_succ]
        refine take_at 4 17 rfl rfl (by kernel_rfl) (by kernel_rfl) (by kernel_rfl) (fun _ _ _ h => h) hHeld (yieldsIf_load_agg (by rfl) 36 (.tmp 16) rfl _ _ (by rfl) (fun wq hSw => lE wq hSw)) rfl ?_
        simp only [List.set_cons_zero, List.set_cons_succ]
        refine take_at 5 18 rfl rfl (by kernel_rfl) (by kernel_rfl) (by kernel_rfl) (fun _ _ _ h => h) hHeld (yieldsIf_load_agg (by rfl) 36 (.tmp 3) rfl _ _ (by rfl) (fun wq hSw => lQ wq hSw)) rfl ?_
        simp only [List.set_cons_zero, List.set_cons_succ]
        refine take_at (v := .bool false) 6 19 rfl rfl (by kernel_rfl) (by kernel_rfl) (by kernel_rfl) (fun _ _ _ h => h) hHeld (yieldsIf_bin (by rfl) .neq 36 (.tmp 17) (.tmp 18) _ rfl (ptCells x.1.1 x.1.2).toArray (ptCells p.1 p.2).toArray (by rfl) (by rfl) (by kernel_rfl) _ HEQ.out) rfl ?_
        simp only [List.set_cons_zero, List.set_cons_succ]
        refine wpAnyH_done (by kernel_rfl) ?_ _
        go_wp2
        go_roundw
        case rel => exact ⟨i + 1, ov, by omega, by go_num, rfl, HI2, hTs⟩
        case measure => (simp [intOf]; try omega)
      · have HEQ := Lib.hid (show ∀ w, (binOp .neq 36 (.agg (ptCells x.1.1 x.1.2).toArray) (.agg (ptCells p.1 p.2).toArray)).run Tryz.prog w = .ok (.bool true) w from fun w => (neq_point w x.1.1 p.1 x.1.2 p.2 HX.out.1.1 HPL.out).trans (by rw [decide_eq_false (fun h : x.1.1 = p.1 ∧ x.1.2 = p.2 => hxe (Prod.ext h.1 h.2))]; rfl))
        have HT2 := Lib.hid (show Cs.rwo [x] p = [x] by simp [Cs.rwo, hxe])
        have lH := hRs.load_at Tryz.underlying103 rfl size_have HXI.out
        have HZ := Lib.hid (And.intro hOs (And.intro hRs hPs))
        clear hxe
        refine take_at (v := ?_) 0 13 rfl rfl (by kernel_rfl) (by kernel_rfl) (by kernel_rfl) (fun _ _ _ h => h) hHeld (Or.inl ⟨by rfl, ?_⟩) rfl ?_
        rotate_left
        · intro wq hSw
          go_simp
          try with_reducible rfl
        simp only [List.set_cons_zero, List.set_cons_succ]
        refine take_at (v := ?_) 1 14 rfl rfl (by kernel_rfl) (by kernel_rfl) (by kernel_rfl) (fun _ _ _ h => h) hHeld (Or.inl ⟨by rfl, ?_⟩) rfl ?_
        rotate_left
        · intro wq hSw
          go_simp
          try with_reducible rfl
        simp only [List.set_cons_zero, List.set_cons_succ]
        refine take_at (v := ?_) 2 15 rfl rfl (by kernel_rfl) (by kernel_rfl) (by kernel_rfl) (fun _ _ _ h => h) hHeld (Or.inl ⟨by rfl, ?_⟩) rfl ?_
        rotate_left
        · intro wq hSw
          go_simp
          try with_reducible rfl
        simp only [List.set_cons_zero, List.set_cons_succ]
        refine take_at (v := ?_) 3 16 rfl rfl (by kernel_rfl) (by kernel_rfl) (by kernel_rfl) (fun _ _ _ h => h) hHeld (Or.inl ⟨by rfl, ?_⟩) rfl ?_
        rotate_left
        · intro wq hSw
          go_simp
          try with_reducible rfl
        simp only [List.set_cons_zero, List.set_cons_succ]
        refine take_at 4 17 rfl rfl (by kernel_rfl) (by kernel_rfl) (by kernel_rfl) (fun _ _ _ h => h) hHeld (yieldsIf_load_agg (by rfl) 36 (.tmp 16) rfl _ _ (by rfl) (fun wq hSw => lE wq hSw)) rfl ?_
        simp only [List.set_cons_zero, List.set_cons_succ]
        refine take_at 5 18 rfl rfl (by kernel_rfl) (by kernel_rfl) (by kernel_rfl) (fun _ _ _ h => h) hHeld (yieldsIf_load_agg (by rfl) 36 (.tmp 3) rfl _ _ (by rfl) (fun wq hSw => lQ wq hSw)) rfl ?_
        simp only [List.set_cons_zero, List.set_cons_succ]
        refine take_at (v := .bool true) 6 19 rfl rfl (by kernel_rfl) (by kernel_rfl) (by kernel_rfl) (fun _ _ _ h => h) hHeld (yieldsIf_bin (by rfl) .neq 36 (.tmp 17) (.tmp 18) _ rfl (ptCells x.1.1 x.1.2).toArray (ptCells p.1 p.2).toArray (by rfl) (by rfl) (by kernel_rfl) _ HEQ.out) rfl ?_
        simp only [List.set_cons_zero, List.set_cons_succ]
        refine wpAnyH_done (by kernel_rfl) ?_ _
        go_wp2_with (first
          | (at_builtin; refine wpList_append_recs (R := hvRec) rfl (.tmp 20) (.tmp 25) 32 rfl 103 Tryz.underlying32 info_have (by kernel_rfl) (by decide) w.heap.size ov _ rfl (HZ.out.1.below ((Below.refl _ _).alloc (Nat.le_refl _) _)) (some ⟨ws.heap.size, 0, none⟩) 1 1 [x] rfl (hv_fresh HX.out) (fun e => by cases e) (by have := HLN.out; omega) (by have := hTs.size; simp; omega) ?_; intro v' w6 ho' hg' hl')
          | (refine wpList_build_row rfl (.tmp 24) 32 rfl 103 Tryz.underlying32 info_have (by decide) (by decide) (hvCells x).toArray (by rw [List.size_toArray]; exact hvRec.len x HX.out) rfl ?_)
          | (refine wpList_load_run rfl 103 (.tmp 23) rfl _ _ rfl lH ?_))
        have hT6 := below_own_recs (hTs.alloc hTs.size _) hg' HZ.out.1.lt
        have hbA : Below ws.heap.size ws (ws.alloc (.cells (hvCells x).toArray 103 )) := (Below.refl _ _).alloc (Nat.le_refl _) _
        have hmA : Moved (fun j => ov.ownBlock = some j) ws w6 := (Moved.of_below hbA).trans (Moved.of_grown (F := fun j => ov.ownBlock = some j) hg' (fun k e => e)) (fun k hk => .inl hk)
        have HI2 := Lib.hid (show OwnR hvRec 103 w.heap.size w6 v' (Cs.rwo (L.take (i + 1)) p) ∧ Recs hvRec w6 (some x0) n L ∧ Has w6 w.heap.size 36 (ptCells p.1 p.2).toArray from
          ⟨by rw [HT.out, HT2.out]; exact ho', (HRB.out.below hT6), has_own (HZ.out.2.2.past _) (HZ.out.1.below hbA) (by decide) hg'⟩)
        clear ho' hg' hl' hmA hbA lH
        go_roundw
        case rel => exact ⟨i + 1, v', by omega, by go_num, rfl, HI2, hT6⟩
        case measure => (simp [intOf]; try omega)
    · have hii : ¬ (i : Int) < (n : Int) := by omega
      obtain rfl : i = n := by omega
      have HE := Lib.hid (show Cs.rwo (L.take i) p = Cs.rwo L p by rw [List.take_of_length_le (by rw [hR.1]; omega)])
      go_wp2
      go_ret
      exact ⟨_, rfl, HE.out ▸ hO, hb⟩
set_option maxRecDepth 100000 in
theorem built_hv32 (d0 d1 d2 d3 d4 d5 d6 d7 d8 d9 d10 d11 d12 d13 d14 d15 d16 d17 d18 d19 d20 d21 d22 d23 d24 d25 d26 d27 d28 d29 d30 d31 : BitVec 8) (z v : Int) (lk : BitVec 64) : Tryz.prog.built 103 [(0, .agg (ptCells [d0, d1, d2, d3, d4, d5, d6, d7, d8, d9, d10, d11, d12, d13, d14, d15, d16, d17, d18, d19, d20, d21, d22, d23, d24, d25, d26, d27, d28, d29, d30, d31] z).toArray), (1, .agg (coCells ⟨v, lk⟩).toArray)] = some (hvCells (([d0, d1, d2, d3, d4, d5, d6, d7, d8, d9, d10, d11, d12, d13, d14, d15, d16, d17, d18, d19, d20, d21, d22, d23, d24, d25, d26, d27, d28, d29, d30, d31], z), ⟨v, lk⟩)).toArray := by kernel_rfl
theorem built_hv : ∀ (x : Cs.Hv), x.1.1.length = 32 → Tryz.prog.built 103 [(0, .agg (ptCells x.1.1 x.1.2).toArray), (1, .agg (coCells x.2).toArray)] = some (hvCells x).toArray
  | (([d0, d1, d2, d3, d4, d5, d6, d7, d8, d9, d10, d11, d12, d13, d14, d15, d16, d17, d18, d19, d20, d21, d22, d23, d24, d25, d26, d27, d28, d29, d30, d31], z), ⟨v, lk⟩), _ => built_hv32 d0 d1 d2 d3 d4 d5 d6 d7 d8 d9 d10 d11 d12 d13 d14 d15 d16 d17 d18 d19 d20 d21 d22 d23 d24 d25 d26 d27 d28 d29 d30 d31 z v lk
theorem wpList_build_hv {w : World} {ops : Array Oper} {rest : List Oper} {o : Oper} {a : Act} {Q : Exit → Act → World → Prop} (hgd : o.guard = none) (y z : Operand) (ho : o.op = .build 103 #[(0, y), (1, z)]) (x : Cs.Hv) (hl : x.1.1.length = 32)
    (hy : a.eval y = .agg (ptCells x.1.1 x.1.2).toArray) (hz : a.eval z = .agg (coCells x.2).toArray) (h : wpList Tryz.prog ops Q rest (a.put o.dst (.agg (hvCells x).toArray)) w) : wpList Tryz.prog ops Q (o :: rest) a w :=
  wpList_plain hgd fun K hK => by
    have hr := run_build (P := Tryz.prog) w 103 #[(0, .agg (ptCells x.1.1 x.1.2).toArray), (1, .agg (coCells x.2).toArray)] _ (built_hv x hl)
    unfold Oper.wp execOp
    simp only [ho, List.map_toArray, List.map_cons, List.map_nil, hy, hz, Sem.run_bind, Sem.run_pure, Result.andThen_ok, hr]
    exact hK _ _ h
set_option maxRecDepth 100000 in
set_option maxHeartbeats 8000000 in
theorem r12with (a : Option Addr) (n q : Nat) (L : List Cs.Hv) (p : Cs.Pt) (c : Tx.Co) (hpc : hvRec.ok (p, c)) (w : World) (h : Recs hvRec w a n L) (hn : n ≤ 1000000) :
    Calls Tryz.prog 57 #[.slice a n q, .agg (ptCells p.1 p.2).toArray, .agg (coCells c).toArray] w fun e w' => ∃ v, e = .returned v ∧ OwnR hvRec 103 w.heap.size w' v (Cs.rwi L p c) ∧ Below w.heap.size w w' := by
  have hnmx : n ≤ 9223372036854775807 := h.2.1
  obtain ⟨W1, hW1⟩ : ∃ ww, ww = (w.alloc (.cells (ptCells p.1 p.2).toArray 36 )).alloc (.cells (coCells c).toArray 39 ) := ⟨_, rfl⟩
  have hB1 : Below w.heap.size w W1 := by rw [hW1]; exact ((Below.refl _ _).alloc (Nat.le_refl _) _).alloc (by simp) _
  obtain ⟨g1, hg1⟩ : ∃ x, x = w.heap.size := ⟨_, rfl⟩
  have hP1 : Has W1 g1 36 (ptCells p.1 p.2).toArray := by rw [hW1, hg1]; exact (Has.fresh _ _ _).past _
  have hC1 : Has W1 (g1 + 1) 39 (coCells c).toArray := by rw [hW1, hg1]; exact Has.fresh_at _ _ _ (by simp)
  have HW1 := Lib.hid hW1
  have HG1 := Lib.hid hg1
  have HPC := Lib.hid hpc
  have HPL := Lib.hid (And.intro hpc.1.1 True.intro)
  have HNN := Lib.hid hn
  have HRW := Lib.hid h
  have HI0 := Lib.hid (show OwnR hvRec 103 w.heap.size W1 (.slice none 0 0) [] ∧ Recs hvRec W1 a n L ∧ Has W1 g1 36 (ptCells p.1 p.2).toArray ∧ Has W1 (g1 + 1) 39 (coCells c).toArray ∧ (if false = true then ([] : List Cs.Hv) ++ L.drop 0 = Cs.rwi L p c else [] = L.take 0 ∧ ∀ x, x ∈ L.take 0 → ¬ Cs.Ahead p x.1) ∧ ([] : List Cs.Hv).length ≤ 0 + 1 from ⟨OwnR.nil _ _ _ _, h.below hB1, hP1, hC1, by rw [if_neg Bool.false_ne_true]; exact ⟨rfl, fun x hx => by cases hx⟩, by simp⟩)
  clear hW1 hpc h hn hg1 hP1 hC1
  go_enter Tryz.func57, Tryz.ntmps57
  go_upto_region 1 with fail
  rw [← HW1.out, ← HG1.out]
  go_wp2
  go_loopw [7, 8, 9] (fun sv dv iv wr => ∃ (i : Nat) (ov : Value) (d : Bool) (O : List Cs.Hv), i ≤ n ∧ iv = .int .i64 i ∧ ov = sv ∧ dv = .bool d ∧ RowKit.Hid (OwnR hvRec 103 w.heap.size wr ov O ∧ Recs hvRec wr a n L ∧ Has wr g1 36 (ptCells p.1 p.2).toArray ∧ Has wr (g1 + 1) 39 (coCells c).toArray ∧ (if d = true then O ++ L.drop i = Cs.rwi L p c else O = L.take i ∧ ∀ x, x ∈ L.take i → ¬ Cs.Ahead p x.1) ∧ O.length ≤ i + 1) ∧ Below w.heap.size w wr) (fun _ _ iv _ => n - (intOf iv).toNat)
  case atStart => exact ⟨0, _, false, [], Nat.zero_le _, rfl, rfl, rfl, HI0, hB1⟩
  case round =>
    clear HI0 hB1
    obtain ⟨i, ov, d, O, hi, rfl, rfl, rfl, HI, hb⟩ := hrel
    by_cases hlt : i < n
    · have hii : (i : Int) < (n : Int) := by omega
      have hi0 : (0 : Int) ≤ (i : Int) := by omega
      obtain ⟨x, hx⟩ := HI.out.2.1.get hlt
      obtain ⟨x0, hax, _⟩ := HI.out.2.1.2.2.2 i x hx
      subst hax
      have HX := Lib.hid (HI.out.2.1.okay hx)
      have HXI := Lib.hid hx
      have HTK := Lib.hid (show L.take (i + 1) = L.take i ++ [x] ∧ L.drop i = x :: L.drop (i + 1) from by
        obtain ⟨h2, h3⟩ := List.getElem?_eq_some_iff.1 hx
        exact ⟨by rw [List.take_succ_eq_append_getElem h2, h3], by rw [List.drop_eq_getElem_cons h2, h3]⟩)
      have HLS := Lib.hid (fun w => r12less p x.1 HPL.out.1 HX.out.1.1 w)
      clear hx
      go_upto_region 6 with fail
      obtain ⟨ws, hws⟩ : ∃ u, u = wr.drew := ⟨_, rfl⟩
      have hbs : Below wr.heap.size wr ws := by rw [hws]; exact (Below.refl _ _).drew
      have hTs := hb.trans (hbs.mono hb.size)
      have HS := Lib.hid (show OwnR hvRec 103 w.heap.size ws ov O ∧ Recs hvRec ws (some x0) n L ∧ Has ws g1 36 (ptCells p.1 p.2).toArray ∧ Has ws (g1 + 1) 39 (coCells c).toArray from ⟨HI.out.1.below hbs, HI.out.2.1.below hbs, HI.out.2.2.1.under hbs HI.out.2.2.1.lt, HI.out.2.2.2.1.under hbs HI.out.2.2.2.1.lt⟩)
      have lE := fun (wq : World) (hSw : Held ws wq) => Recs.load_part (R := hvRec) Tryz.underlying36 rfl (HS.out.2.1.below hSw.below) HXI.out (ptCells x.1.1 x.1.2) (by rw [ptCells_len HX.out.1.1]; kernel_rfl) hv_pt
      have lQ := fun (wq : World) (hSw : Held ws wq) => (HS.out.2.2.1.under hSw.below HS.out.2.2.1.lt).load_agg (P := Tryz.prog) (t := 36 ) Tryz.underlying36 rfl (size_pt HPL.out.1)
      refine wp_region_held_drew (S := Held ws) (by kernel_rfl) (by rw [hws]; exact Held.refl _) (fun hHeld => ?_)
      rw [← hws] at hHeld ⊢
      clear hws
      cases d
      · by_cases hah : Cs.Ahead p x.1
        · rw [decide_eq_true hah] at HLS
          have HAH := Lib.hid hah
          clear hah
          refine take_at (v := ?_) 0 16 rfl rfl (by kernel_rfl) (by kernel_rfl) (by kernel_rfl) (fun _ _ _ h => h) hHeld (Or.inl ⟨by rfl, ?_⟩) rfl ?_
          rotate_left
          · intro wq hSw
            go_simp
            try with_reducible rfl
          simp only [List.set_cons_zero, List.set_cons_succ]
          refine take_at (v := ?_) 1 17 rfl rfl (by kernel_rfl) (by kernel_rfl) (by kernel_rfl) (fun _ _ _ h => h) hHeld (Or.inl ⟨by rfl, ?_⟩) rfl ?_
          rotate_left
          · intro wq hSw
            go_simp
            try with_reducible rfl
          simp only [List.set_cons_zero, List.set_cons_succ]
          refine take_at (v := ?_) 2 18 rfl rfl (by kernel_rfl) (by kernel_rfl) (by kernel_rfl) (fun _ _ _ h => h) hHeld (Or.inl ⟨by rfl, ?_⟩) rfl ?_
          rotate_left
          · intro wq hSw
            go_simp
            try with_reducible rfl
          simp only [List.set_cons_zero, List.set_cons_succ]
          refine take_at 3 19 rfl rfl (by kernel_rfl) (by kernel_rfl) (by kernel_rfl) (fun _ _ _ h => h) hHeld (yieldsIf_load_agg (by rfl) 36 (.tmp 4) rfl _ _ (by rfl) (fun wq hSw => lQ wq hSw)) rfl ?_
          simp only [List.set_cons_zero, List.set_cons_succ]
          refine take_at (v := ?_) 4 20 rfl rfl (by kernel_rfl) (by kernel_rfl) (by kernel_rfl) (fun _ _ _ h => h) hHeld (Or.inl ⟨by rfl, ?_⟩) rfl ?_
          rotate_left
          · intro wq hSw
            go_simp
            try with_reducible rfl
          simp only [List.set_cons_zero, List.set_cons_succ]
          refine take_at (v := ?_) 5 21 rfl rfl (by kernel_rfl) (by kernel_rfl) (by kernel_rfl) (fun _ _ _ h => h) hHeld (Or.inl ⟨by rfl, ?_⟩) rfl ?_
          rotate_left
          · intro wq hSw
            go_simp
            try with_reducible rfl
          simp only [List.set_cons_zero, List.set_cons_succ]
          refine take_at (v := ?_) 6 22 rfl rfl (by kernel_rfl) (by kernel_rfl) (by kernel_rfl) (fun _ _ _ h => h) hHeld (Or.inl ⟨by rfl, ?_⟩) rfl ?_
          rotate_left
          · intro wq hSw
            go_simp
            try with_reducible rfl
          simp only [List.set_cons_zero, List.set_cons_succ]
          refine take_at (v := ?_) 7 23 rfl rfl (by kernel_rfl) (by kernel_rfl) (by kernel_rfl) (fun _ _ _ h => h) hHeld (Or.inl ⟨by rfl, ?_⟩) rfl ?_
          rotate_left
          · intro wq hSw
            go_simp
            try with_reducible rfl
          simp only [List.set_cons_zero, List.set_cons_succ]
          refine take_at 8 24 rfl rfl (by kernel_rfl) (by kernel_rfl) (by kernel_rfl) (fun _ _ _ h => h) hHeld (yieldsIf_load_agg (by rfl) 36 (.tmp 23) rfl _ _ (by rfl) (fun wq hSw => lE wq hSw)) rfl ?_
          simp only [List.set_cons_zero, List.set_cons_succ]
          refine wpAnyH_ready (rs := [9]) (by kernel_rfl) (by simp) ?_
          refine AllReadyH.cons rfl (fun K hK => ?_) AllReadyH.nil
          go_simp
          go_at_call 110
          refine (HLS.out ws).mono ?_
          rintro e w2 ⟨rfl, hb2⟩
          refine hK.out _ _ (Held.of hb2) (fun _ => ?_)
          clear hK K
          try simp only [Act.put, List.setIfInBounds_toArray, List.set_cons_zero, List.set_cons_succ]
          replace hHeld := Held.of hb2
          refine take_at (v := ?_) 10 26 rfl rfl (by kernel_rfl) (by kernel_rfl) (by kernel_rfl) (fun _ _ _ h => h) hHeld (Or.inl ⟨by rfl, ?_⟩) rfl ?_
          rotate_left
          · intro wq hSw
            go_simp
            try with_reducible rfl
          simp only [List.set_cons_zero, List.set_cons_succ]
          refine wpAnyH_done (by kernel_rfl) ?_ _
          have hTs2 := hTs.trans (hb2.mono hTs.size)
          have hTs := hTs2
          have lP := ((HS.out.2.2.1.under hb2 HS.out.2.2.1.lt)).load_agg (P := Tryz.prog) (t := 36 ) Tryz.underlying36 rfl (size_pt HPL.out.1)
          have lC := ((HS.out.2.2.2.under hb2 HS.out.2.2.2.lt)).load_agg (P := Tryz.prog) (t := 39 ) Tryz.underlying39 rfl (size_co c)
          go_upto_region 8 with (first
            | (at_builtin; refine wpList_append_recs (R := hvRec) rfl (.tmp 27) (.tmp 31) 32 rfl 103 Tryz.underlying32 info_have (by kernel_rfl) (by decide) w.heap.size ov _ rfl ((HS.out.1.below hb2).below ((Below.refl _ _).alloc (Nat.le_refl _) _)) (some ⟨w2.heap.size, 0, none⟩) 1 1 [(p, c)] rfl (hv_fresh HPC.out) (fun e => by cases e) (by have := HI.out.2.2.2.2.2; have := HNN.out; omega) (by have := hTs.size; simp; omega) ?_; intro v' w6 ho' hg' hl')
            | (refine wpList_build_row rfl (.tmp 30) 32 rfl 103 Tryz.underlying32 info_have (by decide) (by decide) (hvCells (p, c)).toArray (by rw [List.size_toArray]; exact hvRec.len (p, c) HPC.out) rfl ?_)
            | (refine wpList_build_hv rfl (.tmp 28) (.tmp 29) rfl (p, c) HPC.out.1.1 rfl rfl ?_)
            | (refine wpList_load_run rfl 36 (.tmp 4) rfl _ _ rfl lP ?_)
            | (refine wpList_load_run rfl 39 (.tmp 5) rfl _ _ rfl lC ?_))
          have hT6 := below_own_recs (hTs.alloc hTs.size _) hg' (HS.out.1.below hb2).lt
          have HS6 := Lib.hid (show OwnR hvRec 103 w.heap.size w6 v' (O ++ [(p, c)]) ∧ Recs hvRec w6 (some x0) n L ∧ Has w6 g1 36 (ptCells p.1 p.2).toArray ∧ Has w6 (g1 + 1) 39 (coCells c).toArray from
            ⟨ho', HRW.out.below hT6, has_own ((HS.out.2.2.1.under hb2 HS.out.2.2.1.lt).past _) ((HS.out.1.below hb2).below ((Below.refl _ _).alloc (Nat.le_refl _) _)) (by decide) hg', has_own ((HS.out.2.2.2.under hb2 HS.out.2.2.2.lt).past _) ((HS.out.1.below hb2).below ((Below.refl _ _).alloc (Nat.le_refl _) _)) (by decide) hg'⟩)
          clear ho' hg' hl' lP lC hTs
          have hTs := hT6
          have HQ := Lib.hid (show O = L.take i ∧ ∀ x, x ∈ L.take i → ¬ Cs.Ahead p x.1 from by have h7 := HI.out.2.2.2.2.1; rw [if_neg Bool.false_ne_true] at h7; exact h7)
          have HO1 := Lib.hid (show (O ++ [(p, c)]).length ≤ i + 2 by have := HI.out.2.2.2.2.2; simp; omega)
          have hH := HS6.out.2.1.load_at Tryz.underlying103 rfl size_have HXI.out
          go_wp2_with (first
            | (at_builtin; refine wpList_append_recs (R := hvRec) rfl (.tmp 33) (.tmp 38) 32 rfl 103 Tryz.underlying32 info_have (by kernel_rfl) (by decide) w.heap.size v' _ rfl (HS6.out.1.below ((Below.refl _ _).alloc (Nat.le_refl _) _)) (some ⟨w6.heap.size, 0, none⟩) 1 1 [x] rfl (hv_fresh HX.out) (fun e => by cases e) (by have := HO1.out; have := HNN.out; omega) (by have := hTs.size; simp; omega) ?_; intro v2 w6b ho' hg' hl')
            | (refine wpList_build_row rfl (.tmp 37) 32 rfl 103 Tryz.underlying32 info_have (by decide) (by decide) (hvCells x).toArray (by rw [List.size_toArray]; exact hvRec.len x HX.out) rfl ?_)
            | (refine wpList_load_run rfl 103 (.tmp 36) rfl _ _ rfl hH ?_))
          have hT7 := below_own_recs (hTs.alloc hTs.size _) hg' HS6.out.1.lt
          have HI2 := Lib.hid (show OwnR hvRec 103 w.heap.size w6b v2 ((O ++ [(p, c)]) ++ [x]) ∧ Recs hvRec w6b (some x0) n L ∧ Has w6b g1 36 (ptCells p.1 p.2).toArray ∧ Has w6b (g1 + 1) 39 (coCells c).toArray ∧ (if true = true then ((O ++ [(p, c)]) ++ [x]) ++ L.drop (i + 1) = Cs.rwi L p c else ((O ++ [(p, c)]) ++ [x]) = L.take (i + 1) ∧ ∀ x, x ∈ L.take (i + 1) → ¬ Cs.Ahead p x.1) ∧ ((O ++ [(p, c)]) ++ [x]).length ≤ i + 1 + 1 from
            ⟨ho', HRW.out.below hT7, has_own (HS6.out.2.2.1.past _) (HS6.out.1.below ((Below.refl _ _).alloc (Nat.le_refl _) _)) (by decide) hg', has_own (HS6.out.2.2.2.past _) (HS6.out.1.below ((Below.refl _ _).alloc (Nat.le_refl _) _)) (by decide) hg', by
              rw [if_pos rfl, HQ.out.1, List.append_assoc, List.append_assoc]
              have h9 := Cs.rwi_app p c (L.take i) (L.drop i) HQ.out.2
              rw [List.take_append_drop] at h9
              rw [← h9, HTK.out.2]
              conv => rhs; unfold Cs.rwi
              rw [if_pos HAH.out]
              rfl, by have := HO1.out; have h8 : O.length ≤ i := by rw [HQ.out.1, List.length_take]; omega
                      simp; omega⟩)
          clear ho' hg' hl' hH
          go_roundw
          case rel => exact ⟨i + 1, v2, true, _, by omega, by go_num, rfl, rfl, HI2, hT7⟩
          case measure => (simp [intOf]; try omega)
        · rw [decide_eq_false hah] at HLS
          have HAH := Lib.hid hah
          clear hah
          refine take_at (v := ?_) 0 16 rfl rfl (by kernel_rfl) (by kernel_rfl) (by kernel_rfl) (fun _ _ _ h => h) hHeld (Or.inl ⟨by rfl, ?_⟩) rfl ?_
          rotate_left
          · intro wq hSw
            go_simp
            try with_reducible rfl
          simp only [List.set_cons_zero, List.set_cons_succ]
          refine take_at (v := ?_) 1 17 rfl rfl (by kernel_rfl) (by kernel_rfl) (by kernel_rfl) (fun _ _ _ h => h) hHeld (Or.inl ⟨by rfl, ?_⟩) rfl ?_
          rotate_left
          · intro wq hSw
            go_simp
            try with_reducible rfl
          simp only [List.set_cons_zero, List.set_cons_succ]
          refine take_at (v := ?_) 2 18 rfl rfl (by kernel_rfl) (by kernel_rfl) (by kernel_rfl) (fun _ _ _ h => h) hHeld (Or.inl ⟨by rfl, ?_⟩) rfl ?_
          rotate_left
          · intro wq hSw
            go_simp
            try with_reducible rfl
          simp only [List.set_cons_zero, List.set_cons_succ]
          refine take_at 3 19 rfl rfl (by kernel_rfl) (by kernel_rfl) (by kernel_rfl) (fun _ _ _ h => h) hHeld (yieldsIf_load_agg (by rfl) 36 (.tmp 4) rfl _ _ (by rfl) (fun wq hSw => lQ wq hSw)) rfl ?_
          simp only [List.set_cons_zero, List.set_cons_succ]
          refine take_at (v := ?_) 4 20 rfl rfl (by kernel_rfl) (by kernel_rfl) (by kernel_rfl) (fun _ _ _ h => h) hHeld (Or.inl ⟨by rfl, ?_⟩) rfl ?_
          rotate_left
          · intro wq hSw
            go_simp
            try with_reducible rfl
          simp only [List.set_cons_zero, List.set_cons_succ]
          refine take_at (v := ?_) 5 21 rfl rfl (by kernel_rfl) (by kernel_rfl) (by kernel_rfl) (fun _ _ _ h => h) hHeld (Or.inl ⟨by rfl, ?_⟩) rfl ?_
          rotate_left
          · intro wq hSw
            go_simp
            try with_reducible rfl
          simp only [List.set_cons_zero, List.set_cons_succ]
          refine take_at (v := ?_) 6 22 rfl rfl (by kernel_rfl) (by kernel_rfl) (by kernel_rfl) (fun _ _ _ h => h) hHeld (Or.inl ⟨by rfl, ?_⟩) rfl ?_
          rotate_left
          · intro wq hSw
            go_simp
            try with_reducible rfl
          simp only [List.set_cons_zero, List.set_cons_succ]
          refine take_at (v := ?_) 7 23 rfl rfl (by kernel_rfl) (by kernel_rfl) (by kernel_rfl) (fun _ _ _ h => h) hHeld (Or.inl ⟨by rfl, ?_⟩) rfl ?_
          rotate_left
          · intro wq hSw
            go_simp
            try with_reducible rfl
          simp only [List.set_cons_zero, List.set_cons_succ]
          refine take_at 8 24 rfl rfl (by kernel_rfl) (by kernel_rfl) (by kernel_rfl) (fun _ _ _ h => h) hHeld (yieldsIf_load_agg (by rfl) 36 (.tmp 23) rfl _ _ (by rfl) (fun wq hSw => lE wq hSw)) rfl ?_
          simp only [List.set_cons_zero, List.set_cons_succ]
          refine wpAnyH_ready (rs := [9]) (by kernel_rfl) (by simp) ?_
          refine AllReadyH.cons rfl (fun K hK => ?_) AllReadyH.nil
          go_simp
          go_at_call 110
          refine (HLS.out ws).mono ?_
          rintro e w2 ⟨rfl, hb2⟩
          refine hK.out _ _ (Held.of hb2) (fun _ => ?_)
          clear hK K
          try simp only [Act.put, List.setIfInBounds_toArray, List.set_cons_zero, List.set_cons_succ]
          replace hHeld := Held.of hb2
          refine take_at (v := ?_) 10 26 rfl rfl (by kernel_rfl) (by kernel_rfl) (by kernel_rfl) (fun _ _ _ h => h) hHeld (Or.inl ⟨by rfl, ?_⟩) rfl ?_
          rotate_left
          · intro wq hSw
            go_simp
            try with_reducible rfl
          simp only [List.set_cons_zero, List.set_cons_succ]
          refine wpAnyH_done (by kernel_rfl) ?_ _
          have hTs2 := hTs.trans (hb2.mono hTs.size)
          have hTs := hTs2
          have HQ := Lib.hid (show O = L.take i ∧ ∀ x, x ∈ L.take i → ¬ Cs.Ahead p x.1 from by have h7 := HI.out.2.2.2.2.1; rw [if_neg Bool.false_ne_true] at h7; exact h7)
          have HO1 := Lib.hid (show O.length ≤ i + 1 from HI.out.2.2.2.2.2)
          have HS6 := Lib.hid (show OwnR hvRec 103 w.heap.size w2 ov O ∧ Recs hvRec w2 (some x0) n L ∧ Has w2 g1 36 (ptCells p.1 p.2).toArray ∧ Has w2 (g1 + 1) 39 (coCells c).toArray from ⟨HS.out.1.below hb2, HS.out.2.1.below hb2, HS.out.2.2.1.under hb2 HS.out.2.2.1.lt, HS.out.2.2.2.under hb2 HS.out.2.2.2.lt⟩)
          have hH := HS6.out.2.1.load_at Tryz.underlying103 rfl size_have HXI.out
          go_wp2_with (first
            | (at_builtin; refine wpList_append_recs (R := hvRec) rfl (.tmp 33) (.tmp 38) 32 rfl 103 Tryz.underlying32 info_have (by kernel_rfl) (by decide) w.heap.size ov _ rfl (HS6.out.1.below ((Below.refl _ _).alloc (Nat.le_refl _) _)) (some ⟨w2.heap.size, 0, none⟩) 1 1 [x] rfl (hv_fresh HX.out) (fun e => by cases e) (by have := HO1.out; have := HNN.out; omega) (by have := hTs.size; simp; omega) ?_; intro v' w6 ho' hg' hl')
            | (refine wpList_build_row rfl (.tmp 37) 32 rfl 103 Tryz.underlying32 info_have (by decide) (by decide) (hvCells x).toArray (by rw [List.size_toArray]; exact hvRec.len x HX.out) rfl ?_)
            | (refine wpList_load_run rfl 103 (.tmp 36) rfl _ _ rfl hH ?_))
          have hT7 := below_own_recs (hTs.alloc hTs.size _) hg' HS6.out.1.lt
          have HI2 := Lib.hid (show OwnR hvRec 103 w.heap.size w6 v' (O ++ [x]) ∧ Recs hvRec w6 (some x0) n L ∧ Has w6 g1 36 (ptCells p.1 p.2).toArray ∧ Has w6 (g1 + 1) 39 (coCells c).toArray ∧ (if false = true then (O ++ [x]) ++ L.drop (i + 1) = Cs.rwi L p c else (O ++ [x]) = L.take (i + 1) ∧ ∀ x, x ∈ L.take (i + 1) → ¬ Cs.Ahead p x.1) ∧ (O ++ [x]).length ≤ i + 1 + 1 from
            ⟨ho', HRW.out.below hT7, has_own (HS6.out.2.2.1.past _) (HS6.out.1.below ((Below.refl _ _).alloc (Nat.le_refl _) _)) (by decide) hg', has_own (HS6.out.2.2.2.past _) (HS6.out.1.below ((Below.refl _ _).alloc (Nat.le_refl _) _)) (by decide) hg', by
              rw [if_neg Bool.false_ne_true, HTK.out.1, HQ.out.1]
              exact ⟨rfl, fun y hy => (List.mem_append.1 hy).elim (HQ.out.2 y) (fun hy => by rw [List.mem_singleton.1 hy]; exact HAH.out)⟩, by have := HO1.out; simp; omega⟩)
          clear ho' hg' hl' hH
          go_roundw
          case rel => exact ⟨i + 1, v', false, _, by omega, by go_num, rfl, rfl, HI2, hT7⟩
          case measure => (simp [intOf]; try omega)
      · refine take_at (v := ?_) 0 16 rfl rfl (by kernel_rfl) (by kernel_rfl) (by kernel_rfl) (fun _ _ _ h => h) hHeld (Or.inl ⟨by rfl, ?_⟩) rfl ?_
        rotate_left
        · intro wq hSw
          go_simp
          try with_reducible rfl
        simp only [List.set_cons_zero, List.set_cons_succ]
        refine take_at (v := ?_) 1 17 rfl rfl (by kernel_rfl) (by kernel_rfl) (by kernel_rfl) (fun _ _ _ h => h) hHeld (Or.inl ⟨by rfl, ?_⟩) rfl ?_
        rotate_left
        · intro wq hSw
          go_simp
          try with_reducible rfl
        simp only [List.set_cons_zero, List.set_cons_succ]
        refine take_at (v := ?_) 2 18 rfl rfl (by kernel_rfl) (by kernel_rfl) (by kernel_rfl) (fun _ _ _ h => h) hHeld (Or.inl ⟨by rfl, ?_⟩) rfl ?_
        rotate_left
        · intro wq hSw
          go_simp
          try with_reducible rfl
        simp only [List.set_cons_zero, List.set_cons_succ]
        refine take_at (v := undef) 3 19 rfl rfl (by kernel_rfl) (by kernel_rfl) (by kernel_rfl) (fun _ _ _ h => h) hHeld (Or.inr ⟨by rfl, rfl⟩) rfl ?_
        simp only [List.set_cons_zero, List.set_cons_succ]
        refine take_at (v := undef) 4 20 rfl rfl (by kernel_rfl) (by kernel_rfl) (by kernel_rfl) (fun _ _ _ h => h) hHeld (Or.inr ⟨by rfl, rfl⟩) rfl ?_
        simp only [List.set_cons_zero, List.set_cons_succ]
        refine take_at (v := undef) 5 21 rfl rfl (by kernel_rfl) (by kernel_rfl) (by kernel_rfl) (fun _ _ _ h => h) hHeld (Or.inr ⟨by rfl, rfl⟩) rfl ?_
        simp only [List.set_cons_zero, List.set_cons_succ]
        refine take_at (v := undef) 6 22 rfl rfl (by kernel_rfl) (by kernel_rfl) (by kernel_rfl) (fun _ _ _ h => h) hHeld (Or.inr ⟨by rfl, rfl⟩) rfl ?_
        simp only [List.set_cons_zero, List.set_cons_succ]
        refine take_at (v := undef) 7 23 rfl rfl (by kernel_rfl) (by kernel_rfl) (by kernel_rfl) (fun _ _ _ h => h) hHeld (Or.inr ⟨by rfl, rfl⟩) rfl ?_
        simp only [List.set_cons_zero, List.set_cons_succ]
        refine take_at (v := undef) 8 24 rfl rfl (by kernel_rfl) (by kernel_rfl) (by kernel_rfl) (fun _ _ _ h => h) hHeld (Or.inr ⟨by rfl, rfl⟩) rfl ?_
        simp only [List.set_cons_zero, List.set_cons_succ]
        refine take_at (v := undef) 9 25 rfl rfl (by kernel_rfl) (by kernel_rfl) (by kernel_rfl) (fun _ _ _ h => h) hHeld (Or.inr ⟨by rfl, rfl⟩) rfl ?_
        simp only [List.set_cons_zero, List.set_cons_succ]
        refine take_at (v := ?_) 10 26 rfl rfl (by kernel_rfl) (by kernel_rfl) (by kernel_rfl) (fun _ _ _ h => h) hHeld (Or.inl ⟨by rfl, ?_⟩) rfl ?_
        rotate_left
        · intro wq hSw
          go_simp
          try with_reducible rfl
        simp only [List.set_cons_zero, List.set_cons_succ]
        refine wpAnyH_done (by kernel_rfl) ?_ _
        have HQ := Lib.hid (show O ++ L.drop i = Cs.rwi L p c from by have h7 := HI.out.2.2.2.2.1; rw [if_pos rfl] at h7; exact h7)
        have HO1 := Lib.hid (show O.length ≤ i + 1 from HI.out.2.2.2.2.2)
        have hH := HS.out.2.1.load_at Tryz.underlying103 rfl size_have HXI.out
        go_wp2_with (first
          | (at_builtin; refine wpList_append_recs (R := hvRec) rfl (.tmp 33) (.tmp 38) 32 rfl 103 Tryz.underlying32 info_have (by kernel_rfl) (by decide) w.heap.size ov _ rfl (HS.out.1.below ((Below.refl _ _).alloc (Nat.le_refl _) _)) (some ⟨ws.heap.size, 0, none⟩) 1 1 [x] rfl (hv_fresh HX.out) (fun e => by cases e) (by have := HO1.out; have := HNN.out; omega) (by have := hTs.size; simp; omega) ?_; intro v' w6 ho' hg' hl')
          | (refine wpList_build_row rfl (.tmp 37) 32 rfl 103 Tryz.underlying32 info_have (by decide) (by decide) (hvCells x).toArray (by rw [List.size_toArray]; exact hvRec.len x HX.out) rfl ?_)
          | (refine wpList_load_run rfl 103 (.tmp 36) rfl _ _ rfl hH ?_))
        have hT7 := below_own_recs (hTs.alloc hTs.size _) hg' HS.out.1.lt
        have HI2 := Lib.hid (show OwnR hvRec 103 w.heap.size w6 v' (O ++ [x]) ∧ Recs hvRec w6 (some x0) n L ∧ Has w6 g1 36 (ptCells p.1 p.2).toArray ∧ Has w6 (g1 + 1) 39 (coCells c).toArray ∧ (if true = true then (O ++ [x]) ++ L.drop (i + 1) = Cs.rwi L p c else (O ++ [x]) = L.take (i + 1) ∧ ∀ x, x ∈ L.take (i + 1) → ¬ Cs.Ahead p x.1) ∧ (O ++ [x]).length ≤ i + 1 + 1 from
          ⟨ho', HRW.out.below hT7, has_own (HS.out.2.2.1.past _) (HS.out.1.below ((Below.refl _ _).alloc (Nat.le_refl _) _)) (by decide) hg', has_own (HS.out.2.2.2.past _) (HS.out.1.below ((Below.refl _ _).alloc (Nat.le_refl _) _)) (by decide) hg', by
            rw [if_pos rfl, List.append_assoc, ← HQ.out, HTK.out.2]
            rfl, by have := HO1.out; simp; omega⟩)
        clear ho' hg' hl' hH
        go_roundw
        case rel => exact ⟨i + 1, v', true, _, by omega, by go_num, rfl, rfl, HI2, hT7⟩
        case measure => (simp [intOf]; try omega)
    · have hii : ¬ (i : Int) < (n : Int) := by omega
      obtain rfl : i = n := by omega
      have hdr : L.drop i = [] := List.drop_of_length_le (by rw [HI.out.2.1.1]; exact Nat.le_refl _)
      have htk : L.take i = L := List.take_of_length_le (by rw [HI.out.2.1.1]; exact Nat.le_refl _)
      cases d
      · have HE := Lib.hid (show O ++ [(p, c)] = Cs.rwi L p c by
          have h7 := HI.out.2.2.2.2.1
          rw [if_neg Bool.false_ne_true, htk] at h7
          have h9 := Cs.rwi_app p c L [] h7.2
          rw [List.append_nil] at h9
          rw [h7.1, ← h9]
          rfl)
        have HO1 := Lib.hid (show O.length ≤ i + 1 from HI.out.2.2.2.2.2)
        have lP := (HI.out.2.2.1).load_agg (P := Tryz.prog) (t := 36 ) Tryz.underlying36 rfl (size_pt HPL.out.1)
        have lC := (HI.out.2.2.2.1).load_agg (P := Tryz.prog) (t := 39 ) Tryz.underlying39 rfl (size_co c)
        have hTs := hb
        clear hdr htk
        go_wp2_with (first
          | (at_builtin; refine wpList_append_recs (R := hvRec) rfl (.tmp 42) (.tmp 46) 32 rfl 103 Tryz.underlying32 info_have (by kernel_rfl) (by decide) w.heap.size ov _ rfl (HI.out.1.below ((Below.refl _ _).alloc (Nat.le_refl _) _)) (some ⟨wr.heap.size, 0, none⟩) 1 1 [(p, c)] rfl (hv_fresh HPC.out) (fun e => by cases e) (by have := HO1.out; have := HNN.out; omega) (by have := hTs.size; simp; omega) ?_; intro v' w6 ho' hg' hl')
          | (refine wpList_build_row rfl (.tmp 45) 32 rfl 103 Tryz.underlying32 info_have (by decide) (by decide) (hvCells (p, c)).toArray (by rw [List.size_toArray]; exact hvRec.len (p, c) HPC.out) rfl ?_)
          | (refine wpList_build_hv rfl (.tmp 43) (.tmp 44) rfl (p, c) HPC.out.1.1 rfl rfl ?_)
          | (refine wpList_load_run rfl 36 (.tmp 4) rfl _ _ rfl lP ?_)
          | (refine wpList_load_run rfl 39 (.tmp 5) rfl _ _ rfl lC ?_))
        have hT7 := below_own_recs (hTs.alloc hTs.size _) hg' HI.out.1.lt
        go_ret
        exact ⟨_, rfl, HE.out ▸ ho', hT7⟩
      · have HE := Lib.hid (show O = Cs.rwi L p c by
          have h7 := HI.out.2.2.2.2.1
          rw [if_pos rfl, hdr, List.append_nil] at h7
          exact h7)
        clear hdr htk
        go_wp2
        go_ret
        exact ⟨_, rfl, HE.out ▸ HI.out.1, hb⟩
set_option maxRecDepth 100000 in
set_option maxHeartbeats 8000000 in
theorem r12put (a : Option Addr) (n q : Nat) (L : List Cs.Hv) (p : Cs.Pt) (c : Tx.Co) (hpc : hvRec.ok (p, c)) (w : World) (h : Recs hvRec w a n L) (hnq : n ≤ q ∧ (a = none → q = 0)) (hn : n ≤ 1000000) :
    Calls Tryz.prog 13 #[.slice a n q, .agg (ptCells p.1 p.2).toArray, .agg (coCells c).toArray] w fun e w' => ∃ (a' : Option Addr) (n' q' : Nat), e = .returned (.tuple #[.slice a' n' q', .int .i64 (Cs.putE L p c)]) ∧ Recs hvRec w' a' n' (if Cs.putE L p c = 0 then Cs.rwi L p c else L) ∧ (n' ≤ q' ∧ (a' = none → q' = 0)) ∧ (∀ x, a' = some x → a = some x ∨ (w.heap.size ≤ x.block ∧ x.block < w'.heap.size)) ∧ Below w.heap.size w w' := by
  obtain ⟨z, hz⟩ : ∃ z, z = Cs.putE L p c := ⟨_, rfl⟩
  rw [← hz]
  obtain ⟨W1, hW1⟩ : ∃ ww, ww = (w.alloc (.cells (ptCells p.1 p.2).toArray 36 )).alloc (.cells (coCells c).toArray 39 ) := ⟨_, rfl⟩
  have hB1 : Below w.heap.size w W1 := by rw [hW1]; exact ((Below.refl _ _).alloc (Nat.le_refl _) _).alloc (by simp) _
  obtain ⟨g1, hg1⟩ : ∃ x, x = w.heap.size := ⟨_, rfl⟩
  have hP1 : Has W1 g1 36 (ptCells p.1 p.2).toArray := by rw [hW1, hg1]; exact (Has.fresh _ _ _).past _
  have hC1 : Has W1 (g1 + 1) 39 (coCells c).toArray := by rw [hW1, hg1]; exact Has.fresh_at _ _ _ (by simp)
  have lP := hP1.load_agg (P := Tryz.prog) (t := 36 ) Tryz.underlying36 rfl (size_pt hpc.1.1)
  have c1 := hC1.cell_at (i := 0) (v := .int .i64 c.v) rfl
  obtain ⟨gd, hgd⟩ : ∃ gd, gd = decide (Am.Good c.v) := ⟨_, rfl⟩
  have HGD := Lib.hid (show gd = true ↔ Am.Good c.v by rw [hgd]; simp)
  obtain ⟨o, ho⟩ : ∃ o, o = (Cs.look L p).isSome := ⟨_, rfl⟩
  obtain ⟨rc, hrc⟩ : ∃ c, c = (Cs.look L p).getD ⟨0, 0#64⟩ := ⟨_, rfl⟩
  have HZ := Lib.hid (show z = if gd = true then if o = true then 6 else 0 else 9 by rw [hz, Cs.putE, ← ho]; simp only [hgd, decide_eq_true_eq])
  have HGT := Lib.hid (r12get a n q L p hpc.1.1 W1 (h.below hB1))
  rw [← ho, ← hrc] at HGT
  have HR := Lib.hid (h.below hB1)
  have HPC := Lib.hid hpc
  have HNN := Lib.hid (And.intro hn hnq)
  have HW1 := Lib.hid hW1
  have HG1 := Lib.hid hg1
  have HB1 := Lib.hid hB1
  have HPC1 := Lib.hid (And.intro hP1 hC1)
  clear hz hgd ho hrc hW1 h hpc hn hnq hg1 hP1 hC1 hB1
  go_enter Tryz.func13, Tryz.ntmps13
  go_upto_region 1 with fail
  rw [← HW1.out, ← HG1.out]
  cases gd
  · have hE : z = 9 := HZ.out
    go_wp2_with (go_at_call 55; refine (agood_any c.v false HGD.out W1).mono ?_; rintro e w2 ⟨rfl, rfl⟩)
    go_ret2
    exact ⟨a, n, q, rfl, HR.out, HNN.out.2, fun _ h => .inl h, HB1.out⟩
  · go_upto_region 4 with (first
      | (refine wpList_store_mid rfl 39 (.tmp 8) (.tmp 19) rfl w3.heap.size 0 (coCells rc).toArray rfl rfl ((Has.fresh w3 39 #[.int .i64 0, .int .u64 0]).there 0 2 (Nat.le_refl _)) (size_co rc) (coRec.all_one rc) ?_)
      | (go_at_call 56; refine HGT.out.mono ?_; rintro e w3 ⟨rfl, hb3⟩)
      | (go_at_call 55; refine (agood_any c.v true HGD.out W1).mono ?_; rintro e w2 ⟨rfl, rfl⟩)
      | (refine wpList_load_run rfl 36 (.tmp 4) rfl _ _ rfl lP ?_))
    obtain ⟨w4, hw4⟩ : ∃ u, u = (w3.alloc (.cells #[.int .i64 0, .int .u64 0] 39 )).setCells w3.heap.size 0 (coCells rc).toArray.toList := ⟨_, rfl⟩
    have hw4n : w4 = (w3.alloc (.cells #[.int .i64 0, .int .u64 0] 39 )).setCells w3.heap.size 0 (coCells rc) := hw4
    have hb34 : Below w3.heap.size w3 w4 := by rw [hw4]; exact below_setAll (Nat.le_refl _) _ 0 ((Below.refl _ _).alloc (Nat.le_refl _) _)
    first | rw [← hw4] | rw [← hw4n]
    have hT4 := hb3.trans (hb34.mono hb3.size)
    clear hw4 hw4n lP c1
    cases o
    · have hE : z = 0 := HZ.out
      have hP4 := HPC1.out.1.under hT4 HPC1.out.1.lt
      have hC4 := HPC1.out.2.under hT4 HPC1.out.2.lt
      have lP := hP4.load_agg (P := Tryz.prog) (t := 36 ) Tryz.underlying36 rfl (size_pt HPC.out.1.1)
      have lC := hC4.load_agg (P := Tryz.prog) (t := 39 ) Tryz.underlying39 rfl (size_co c)
      have HWI := Lib.hid (r12with a n q L p c HPC.out w4 (HR.out.below hT4) HNN.out.1)
      clear hP4 hC4
      go_wp2_with (first
        | (go_at_call 57; refine HWI.out.mono ?_; rintro e w5 ⟨v5, rfl, ho5, hb5⟩; obtain ⟨k, hk⟩ : ∃ k, k = (Cs.rwi L p c).length := ⟨_, rfl⟩; obtain ⟨sa, sc, rfl, hsc, h0s, hlo, hrs⟩ := ho5.shape hk.symm; have HRS := Lib.hid (And.intro hrs (And.intro hsc h0s)); have HLO := Lib.hid hlo; clear hk ho5 hrs hlo)
        | (refine wpList_load_run rfl 36 (.tmp 4) rfl _ _ rfl lP ?_)
        | (refine wpList_load_run rfl 39 (.tmp 5) rfl _ _ rfl lC ?_))
      go_ret2
      exact ⟨sa, _, sc, rfl, HRS.out.1, HRS.out.2, fun x h => .inr ⟨Nat.le_trans HB1.out.size (Nat.le_trans hT4.size (HLO.out x h).1), (HLO.out x h).2⟩, HB1.out.trans ((hT4.trans (hb5.mono hT4.size)).mono HB1.out.size)⟩
    · have hE : z = 6 := HZ.out
      go_wp2
      go_ret2
      exact ⟨a, n, q, rfl, HR.out.below hT4, HNN.out.2, fun _ h => .inl h, HB1.out.trans (hT4.mono HB1.out.size)⟩
end Go.Proofs.YtdfplenniamnoaaGreatDoor
