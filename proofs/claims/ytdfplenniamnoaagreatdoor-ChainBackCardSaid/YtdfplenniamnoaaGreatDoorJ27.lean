/- package chain: fees, Tip, Next, Block, Fees (mkchf.py) · package coins: what the premise asks -/
import Derived.Test.YtdfplenniamnoaaGreatDoorJ26
import Derived.Test.YtdfplenniamnoaaGreatDoorJ24
/-! package chain: fees, Tip, Next, Block, Fees (mkchf.py) -/
namespace Go.Proofs.YtdfplenniamnoaaGreatDoor
open Go Go.RowKit Go.ChangeShapes Go.WideShapes
namespace Ch
/-- the last block's id -/
def tipOf (X : List L) : List (BitVec 8) := match X.getLast? with
  | none => List.replicate 32 0#8
  | some l => idOf l.b.prev l.b.h (tsOf l.b.vs)
theorem tipOf_len (X : List L) : (tipOf X).length = 32 := by
  unfold tipOf
  split
  · rfl
  · exact idOf_len _ _ _
theorem tipOf_last {X : List L} {l : L} (h : X[X.length - 1]? = some l) : tipOf X = idOf l.b.prev l.b.h (tsOf l.b.vs) := by
  unfold tipOf
  rw [List.getLast?_eq_getElem?, h]
theorem lkAt_top {X : List L} (h : X ≠ []) : ∃ l, X[X.length - 1]? = some l ∧ lkAt X X.length = (l, true) := by
  have hp : 0 < X.length := List.length_pos_iff.2 h
  refine ⟨X[X.length - 1], List.getElem?_eq_getElem _, ?_⟩
  unfold lkAt
  rw [if_pos ⟨by omega, by omega⟩, show ((X.length : Int) - 1).toNat = X.length - 1 by omega, List.getD_eq_getElem?_getD, List.getElem?_eq_getElem (by omega)]
  rfl
theorem lkAt_none (z : Int) : lkAt [] z = (lz, false) := by
  unfold lkAt
  rw [if_neg (by simp; omega)]
theorem lkAt_is {X : List L} (z : Int) : (∃ k : Nat, X[k]? = some (lkAt X z).1 ∧ z = k + 1 ∧ (lkAt X z).2 = true) ∨ ((lkAt X z) = (lz, false) ∧ ¬ (1 ≤ z ∧ z ≤ X.length)) := by
  unfold lkAt
  by_cases h : 1 ≤ z ∧ z ≤ X.length
  · rw [if_pos h]
    refine .inl ⟨(z - 1).toNat, ?_, by omega, rfl⟩
    rw [List.getD_eq_getElem?_getD, List.getElem?_eq_getElem (by omega)]
    rfl
  · rw [if_neg h]
    exact .inr ⟨rfl, h⟩
theorem lz_ok : lz.Ok := ⟨by decide, rfl, (fun _ h => by cases h), (fun _ h => by cases h)⟩
end Ch
theorem lz_in {G : Nat → Prop} {w : World} : Ch.lz.In G w :=
  ⟨⟨rfl, by decide, recs_none _ _, ⟨Nat.le_refl _, fun _ => rfl⟩, (fun h => absurd h (by decide)), (fun _ h => by cases h)⟩, recs_none _ _, ⟨Nat.le_refl _, fun _ => rfl⟩, (fun h => absurd h (by decide)), (fun _ h => by cases h)⟩
/-- the link of a height lies where it should -/
theorem LksAt.get {G : Nat → Prop} {w : World} {v : Value} {X : List Ch.L} (h : LksAt G w v X) (z : Int) : (Ch.lkAt X z).1.In G w ∧ (Ch.lkAt X z).1.Ok := by
  rcases Ch.lkAt_is (X := X) z with ⟨k, hk, _, _⟩ | ⟨e, _⟩
  · rcases h with ⟨_, rfl⟩ | ⟨_, _, _, _, _, _, _, _, h5⟩
    · simp at hk
    · exact h5 _ (List.mem_of_getElem? hk)
  · rw [e]
    exact ⟨lz_in, Ch.lz_ok⟩
theorem ss_at {w : World} {x : Addr} {n i : Nat} {X : List Ch.S} {s : Ch.S} (h : Recs sRec w (some x) n X) (hi : X[i]? = some s) : w.cell? (x.add i) = some (.slice s.a s.n s.q) := by
  have := h.field (j := 0) (v := .slice s.a s.n s.q) hi rfl
  rwa [show i * sRec.k + 0 = i by simp [sRec]] at this
set_option maxRecDepth 100000 in
set_option maxHeartbeats 8000000 in
theorem lfees_any {G : Nat → Prop} (l : Ch.L) (w : World) (h : l.In G w) (ho : l.Ok) :
    Calls Tryz.prog 105 #[.agg (lkCells l).toArray] w fun e w' => e = .returned (.int .i64 (Ch.feesOf (Ch.tsOf l.b.vs) (Ch.csOf l.ss))) ∧ Below w.heap.size w w' := by
  obtain ⟨W1, hW1⟩ : ∃ ww, ww = w.alloc (.cells (lkCells l).toArray 153) := ⟨_, rfl⟩
  have hB1 : Below w.heap.size w W1 := by rw [hW1]; exact (Below.refl _ _).alloc (Nat.le_refl _) _
  have hX : Has W1 w.heap.size 153 (lkCells l).toArray := by rw [hW1]; exact Has.fresh _ _ _
  obtain ⟨n, hn⟩ : ∃ n, n = l.b.n := ⟨_, rfl⟩
  obtain ⟨m, hm⟩ : ∃ m, m = l.sn := ⟨_, rfl⟩
  have hmn : m = n := by have h1 := h.r.1; have h2 := h.b.r.1; have h3 := ho.len; omega
  obtain ⟨ba, hba⟩ : ∃ x, x = l.b.a := ⟨_, rfl⟩
  obtain ⟨sa, hsa⟩ : ∃ x, x = l.sa := ⟨_, rfl⟩
  have c33 : W1.cell? ⟨w.heap.size, 33, none⟩ = some (.slice ba n l.b.q) := by rw [hba, hn]; exact lk_ts hX h.b.p
  have hn60 : n ≤ 60 := by have := ho.n; omega
  have hnmx : n ≤ 9223372036854775807 := by omega
  have HP := Lib.hid h.b.p
  have HX := Lib.hid hX
  have HTR := Lib.hid (show Txs W1 ba n l.b.vs by rw [hba, hn]; exact ⟨(h.below hB1).b.r, fun x hx => ((h.below hB1).b.xs x hx).at_⟩)
  have HSR := Lib.hid (show Recs sRec W1 sa m l.ss by rw [hsa, hm]; exact (h.below hB1).r)
  have HSI := Lib.hid (h.below hB1).xs
  have HOK := Lib.hid ho
  have HW := Lib.hid hW1
  have HB1 := Lib.hid hB1
  have HE := Lib.hid (And.intro hm (And.intro hsa hmn))
  obtain ⟨TS, hTS⟩ : ∃ x, x = Ch.tsOf l.b.vs := ⟨_, rfl⟩
  obtain ⟨CSS, hCS⟩ : ∃ x, x = Ch.csOf l.ss := ⟨_, rfl⟩
  have HTS := Lib.hid (And.intro hTS hCS)
  have HLN := Lib.hid (show TS.length = n ∧ CSS.length = n by
    rw [hTS, hCS, Ch.tsOf_len]
    unfold Ch.csOf
    rw [List.length_map, HTR.out.1.1, HSR.out.1]
    exact ⟨rfl, hmn⟩)
  rw [← hTS, ← hCS]
  have HFB : ∀ i, i ≤ n → -6300000000000000000 ≤ Ch.feesOf (TS.take i) (CSS.take i) ∧ Ch.feesOf (TS.take i) (CSS.take i) ≤ 6300000000000000000 := by
    have hall : ∀ i, i ≤ n → - (63000000000000000 * (i : Int)) ≤ Ch.feesOf (TS.take i) (CSS.take i) ∧ Ch.feesOf (TS.take i) (CSS.take i) ≤ 63000000000000000 * (i : Int) := by
      intro i
      induction i with
      | zero => intro _; simp [Ch.feesOf]
      | succ i ih =>
        intro hi
        have ih := ih (by omega)
        obtain ⟨t, ht⟩ : ∃ t, TS[i]? = some t := ⟨_, List.getElem?_eq_getElem (by have := HLN.out.1; omega)⟩
        obtain ⟨c, hc⟩ : ∃ t, CSS[i]? = some t := ⟨_, List.getElem?_eq_getElem (by have := HLN.out.2; omega)⟩
        obtain ⟨t2, t3⟩ := List.getElem?_eq_some_iff.1 ht
        obtain ⟨c2, c3⟩ := List.getElem?_eq_some_iff.1 hc
        rw [List.take_succ_eq_append_getElem t2, t3, List.take_succ_eq_append_getElem c2, c3, Ch.feesOf_snoc (by rw [List.length_take, List.length_take]; omega)]
        have f1 : Ch.Few t.co := by
          have hm := List.mem_of_getElem? ht
          rw [HTS.out.1] at hm
          obtain ⟨x, hx, rfl⟩ := List.mem_map.1 hm
          exact (HOK.out.sm x hx).2
        have f2 : Ch.Few c := by
          have hm := List.mem_of_getElem? hc
          rw [HTS.out.2] at hm
          obtain ⟨x, hx, rfl⟩ := List.mem_map.1 hm
          exact HOK.out.few x hx
        have g1 := Ch.vsum_le f1.2
        have g2 := Ch.vsum_le f2.2
        have := f1.1
        have := f2.1
        omega
    intro i hi
    have := hall i hi
    omega
  have HFB := Lib.hid HFB
  clear h ho hX hW1 hba hsa hm hn hB1 hTS hCS
  go_enter Tryz.func105, Tryz.ntmps105
  go_upto_region 1 with fail
  rw [← HW.out]
  go_wp2
  go_loopw [3, 10] (fun sv iv wr => ∃ (i : Nat), i ≤ n ∧ iv = .int .i64 i ∧ sv = .int .i64 (Ch.feesOf (TS.take i) (CSS.take i)) ∧ Below W1.heap.size W1 wr) (fun _ iv _ => n - (intOf iv).toNat)
  case atStart => exact ⟨0, Nat.zero_le _, rfl, by simp [Ch.feesOf], Below.refl _ _⟩
  case round =>
    obtain ⟨i, hi, rfl, rfl, hb⟩ := hrel
    by_cases hlt : i < n
    · have hii : (i : Int) < (n : Int) := by omega
      have hi0 : (0 : Int) ≤ (i : Int) := by omega
      have him : (i : Int) < (m : Int) := by omega
      obtain ⟨⟨ta, tn, tq, tb, tm, tr, t⟩, ht⟩ := HTR.out.1.get hlt
      obtain ⟨s, hs⟩ := HSR.out.get (show i < m by omega)
      obtain ⟨x, rfl, hx, hat⟩ := (HTR.out.below hb).load ht
      obtain ⟨y, rfl, _⟩ := HSR.out.2.2.2 i s hs
      have hTi : TS[i]? = some t := by rw [HTS.out.1]; unfold Ch.tsOf; rw [List.getElem?_map, ht]; rfl
      have hCi : CSS[i]? = some s.cs := by rw [HTS.out.2]; unfold Ch.csOf; rw [List.getElem?_map, hs]; rfl
      have HST := Lib.hid (HOK.out.sm _ (List.mem_of_getElem? ht)).2
      have HSF := Lib.hid (HOK.out.few s (List.mem_of_getElem? hs))
      have HSS := Lib.hid ((HSI.out s (List.mem_of_getElem? hs)).below hb)
      have hF1 := HFB.out i hi
      have hF2 := HFB.out (i + 1) (by omega)
      have hstep : Ch.feesOf (TS.take (i + 1)) (CSS.take (i + 1)) = Ch.feesOf (TS.take i) (CSS.take i) + (Ch.vsum s.cs - Ch.vsum t.co) := by
        obtain ⟨t2, t3⟩ := List.getElem?_eq_some_iff.1 hTi
        obtain ⟨c2, c3⟩ := List.getElem?_eq_some_iff.1 hCi
        rw [List.take_succ_eq_append_getElem t2, t3, List.take_succ_eq_append_getElem c2, c3]
        exact Ch.feesOf_snoc (by rw [List.length_take, List.length_take]; have := HLN.out; omega) _ _
      have hv1 := Ch.vsum_le HSF.out.2
      have hv2 := Ch.vsum_le HST.out.2
      have hl1 := HSF.out.1
      have hl2 := HST.out.1
      obtain ⟨f, hf⟩ : ∃ f, f = Ch.feesOf (TS.take i) (CSS.take i) := ⟨_, rfl⟩
      obtain ⟨f', hf'⟩ : ∃ f, f = Ch.feesOf (TS.take (i + 1)) (CSS.take (i + 1)) := ⟨_, rfl⟩
      obtain ⟨p, hp⟩ : ∃ f, f = Ch.vsum s.cs := ⟨_, rfl⟩
      obtain ⟨r, hr⟩ : ∃ f, f = Ch.vsum t.co := ⟨_, rfl⟩
      rw [← hf, ← hf', ← hp, ← hr] at hstep
      rw [← hp] at hv1
      rw [← hr] at hv2
      rw [← hf] at hF1 ⊢
      rw [← hf'] at hF2
      obtain ⟨d, hd⟩ : ∃ d, d = p - r := ⟨_, rfl⟩
      have hw1 : IntKind.i64.wrap (p - r) = d := by rw [hd]; exact IntWalk.i64_in _ (by omega)
      have hw2 : IntKind.i64.wrap (f + d) = f' := by rw [hd, ← hstep]; exact IntWalk.i64_in _ (by omega)
      have HF := Lib.hid (And.intro hf' (And.intro hp hr))
      have HAT := Lib.hid hat
      have hcs := ss_at (HSR.out.below hb) hs
      have c34 := lk_ss (HX.out.under hb HX.out.lt) HP.out
      rw [← HE.out.1, ← HE.out.2.1] at c34
      clear ht hs hTi hCi hat hF1 hF2 hstep hv1 hv2 hl1 hl2 hf hf' hp hr hd
      go_upto_region 5 with (first
        | (refine wpList_load_run rfl 26 (.tmp 13) rfl _ _ rfl hx ?_))
      obtain ⟨w5, hw5⟩ : ∃ x, x = wr.alloc (.cells #[.slice ta tn tq, .slice tb tm tr, .bool t.firm] 26) := ⟨_, rfl⟩
      have hF : Has w5 wr.heap.size 26 #[.slice ta tn tq, .slice tb tm tr, .bool t.firm] := by rw [hw5]; exact Has.fresh _ _ _
      have hb5 : Below wr.heap.size wr w5 := by rw [hw5]; exact (Below.refl _ _).alloc (Nat.le_refl _) _
      rw [← hw5]
      clear hw5 hx
      obtain ⟨gF, hgF⟩ : ∃ g, g = wr.heap.size := ⟨_, rfl⟩
      rw [← hgF] at hF ⊢
      have hB5 := hb.trans (hb5.mono hb.size)
      have HC5 := Lib.hid (HAT.out.co.below hb5)
      have HS5 := Lib.hid (HSS.out.r.below hb5)
      replace c34 : w5.cell? ⟨w.heap.size, 34, none⟩ = some (.slice (some y) m l.sq) := (hb5.cell (isSome_lt (by rw [c34]; rfl))).trans c34
      replace hcs : w5.cell? (y.add i) = some (.slice s.a s.n s.q) := (hb5.cell (isSome_lt (by rw [hcs]; rfl))).trans hcs
      have f1 : w5.cell? ⟨gF, 1, none⟩ = some (.slice tb tm tr) := hF.cell_at rfl
      clear hb5 HAT hgF hF HSS hb
      obtain ⟨ws, hws⟩ : ∃ ww, ww = w5.drew := ⟨_, rfl⟩
      have hbs : Below w5.heap.size w5 ws := by rw [hws]; exact (Below.refl _ _).drew
      replace c34 : ws.cell? ⟨w.heap.size, 34, none⟩ = some (.slice (some y) m l.sq) := (hbs.cell (isSome_lt (by rw [c34]; rfl))).trans c34
      replace hcs : ws.cell? (y.add i) = some (.slice s.a s.n s.q) := (hbs.cell (isSome_lt (by rw [hcs]; rfl))).trans hcs
      replace f1 : ws.cell? ⟨gF, 1, none⟩ = some (.slice tb tm tr) := (hbs.cell (isSome_lt (by rw [f1]; rfl))).trans f1
      have C34 := fun (wq : World) (hSw : Held ws wq) => (show wq.cell? ⟨w.heap.size, 34, none⟩ = some (.slice (some y) m l.sq) from (hSw.below.cell (isSome_lt (by rw [c34]; rfl))).trans c34)
      have CS := fun (wq : World) (hSw : Held ws wq) => (show wq.cell? (y.add i) = some (.slice s.a s.n s.q) from (hSw.below.cell (isSome_lt (by rw [hcs]; rfl))).trans hcs)
      have F1 := fun (wq : World) (hSw : Held ws wq) => (show wq.cell? ⟨gF, 1, none⟩ = some (.slice tb tm tr) from (hSw.below.cell (isSome_lt (by rw [f1]; rfl))).trans f1)
      have C34 := Lib.hid C34
      have CS := Lib.hid CS
      have F1 := Lib.hid F1
      have hBs := hB5.trans (hbs.mono hB5.size)
      have HC9 := Lib.hid (HC5.out.below hbs)
      have HS9 := Lib.hid (HS5.out.below hbs)
      clear c34 hcs f1 hbs hB5
      refine wp_region_held_drew (S := Held ws) (by kernel_rfl) (by rw [hws]; exact Held.refl _) (fun hHeld => ?_)
      rw [← hws] at hHeld ⊢
      clear hws
      refine take_at (v := ?_) 0 15 rfl rfl (by kernel_rfl) (by kernel_rfl) (by kernel_rfl) (fun _ _ _ h => h) hHeld (Or.inl ⟨by rfl, ?_⟩) rfl ?_
      rotate_left
      · intro wq hSw
        go_simp
        try with_reducible rfl
      simp only [List.set_cons_zero, List.set_cons_succ]
      refine take_at (v := ?_) 1 16 rfl rfl (by kernel_rfl) (by kernel_rfl) (by kernel_rfl) (fun _ _ _ h => h) hHeld (Or.inl ⟨by rfl, ?_⟩) rfl ?_
      rotate_left
      · intro wq hSw
        go_simp
        try with_reducible rfl
      simp only [List.set_cons_zero, List.set_cons_succ]
      refine take_at (v := ?_) 2 17 rfl rfl (by kernel_rfl) (by kernel_rfl) (by kernel_rfl) (fun _ _ _ h => h) hHeld (Or.inl ⟨by rfl, ?_⟩) rfl ?_
      rotate_left
      · intro wq hSw
        have hst := C34.out wq hSw
        go_simp
        try with_reducible rfl
      simp only [List.set_cons_zero, List.set_cons_succ]
      refine take_at (v := ?_) 3 18 rfl rfl (by kernel_rfl) (by kernel_rfl) (by kernel_rfl) (fun _ _ _ h => h) hHeld (Or.inl ⟨by rfl, ?_⟩) rfl ?_
      rotate_left
      · intro wq hSw
        go_simp
        try with_reducible rfl
      simp only [List.set_cons_zero, List.set_cons_succ]
      refine take_at (v := ?_) 4 19 rfl rfl (by kernel_rfl) (by kernel_rfl) (by kernel_rfl) (fun _ _ _ h => h) hHeld (Or.inl ⟨by rfl, ?_⟩) rfl ?_
      rotate_left
      · intro wq hSw
        go_simp
        try with_reducible rfl
      simp only [List.set_cons_zero, List.set_cons_succ]
      refine take_at (v := ?_) 5 20 rfl rfl (by kernel_rfl) (by kernel_rfl) (by kernel_rfl) (fun _ _ _ h => h) hHeld (Or.inl ⟨by rfl, ?_⟩) rfl ?_
      rotate_left
      · intro wq hSw
        have hst := CS.out wq hSw
        go_simp
        try with_reducible rfl
      simp only [List.set_cons_zero, List.set_cons_succ]
      refine take_at (v := ?_) 7 22 rfl rfl (by kernel_rfl) (by kernel_rfl) (by kernel_rfl) (fun _ _ _ h => h) hHeld (Or.inl ⟨by rfl, ?_⟩) rfl ?_
      rotate_left
      · intro wq hSw
        go_simp
        try with_reducible rfl
      simp only [List.set_cons_zero, List.set_cons_succ]
      refine take_at (v := ?_) 8 23 rfl rfl (by kernel_rfl) (by kernel_rfl) (by kernel_rfl) (fun _ _ _ h => h) hHeld (Or.inl ⟨by rfl, ?_⟩) rfl ?_
      rotate_left
      · intro wq hSw
        have hst := F1.out wq hSw
        go_simp
        try with_reducible rfl
      simp only [List.set_cons_zero, List.set_cons_succ]
      refine wpAnyH_ready (rs := [6]) (by kernel_rfl) (by simp) ?_
      refine AllReadyH.cons rfl (fun K hK => ?_) AllReadyH.nil
      go_simp
      go_at_call 143
      refine (pvalues_any s.a s.n s.q s.cs ws HS9.out HSF.out).mono ?_
      rw [← HF.out.2.1]
      rintro e v1 ⟨rfl, hbv1⟩
      refine hK.out _ _ (Held.of hbv1) (fun _ => ?_)
      clear hK K
      try simp only [Act.put, List.setIfInBounds_toArray, List.set_cons_zero, List.set_cons_succ]
      replace hHeld := Held.of hbv1
      refine wpAnyH_ready (rs := [9]) (by kernel_rfl) (by simp) ?_
      refine AllReadyH.cons rfl (fun K hK => ?_) AllReadyH.nil
      go_simp
      go_at_call 143
      refine (pvalues_any tb tm tr t.co v1 (HC9.out.below hbv1) HST.out).mono ?_
      rw [← HF.out.2.2]
      rintro e v2 ⟨rfl, hbv2⟩
      refine hK.out _ _ (Held.of (hbv1.trans (hbv2.mono hbv1.size))) (fun _ => ?_)
      clear hK K
      try simp only [Act.put, List.setIfInBounds_toArray, List.set_cons_zero, List.set_cons_succ]
      replace hHeld := Held.of (hbv1.trans (hbv2.mono hbv1.size))
      refine take_at (v := ?_) 10 25 rfl rfl (by kernel_rfl) (by kernel_rfl) (by kernel_rfl) (fun _ _ _ h => h) hHeld (Or.inl ⟨by rfl, ?_⟩) rfl ?_
      rotate_left
      · intro wq hSw
        go_simp
        try with_reducible rfl
      simp only [List.set_cons_zero, List.set_cons_succ]
      refine take_at (v := ?_) 11 26 rfl rfl (by kernel_rfl) (by kernel_rfl) (by kernel_rfl) (fun _ _ _ h => h) hHeld (Or.inl ⟨by rfl, ?_⟩) rfl ?_
      rotate_left
      · intro wq hSw
        go_simp
        try with_reducible rfl
      simp only [List.set_cons_zero, List.set_cons_succ]
      refine take_at (v := ?_) 12 3 rfl rfl (by kernel_rfl) (by kernel_rfl) (by kernel_rfl) (fun _ _ _ h => h) hHeld (Or.inl ⟨by rfl, ?_⟩) rfl ?_
      rotate_left
      · intro wq hSw
        go_simp
        try with_reducible rfl
      simp only [List.set_cons_zero, List.set_cons_succ]
      refine wpAnyH_done (by kernel_rfl) ?_ _
      clear C34 CS F1 hHeld
      go_wp2
      go_roundw
      case rel => exact ⟨i + 1, by omega, by go_num, by rw [← HF.out.1], hBs.trans ((hbv1.trans (hbv2.mono hbv1.size)).mono hBs.size)⟩
      case measure => (simp [intOf]; try omega)
    · have hii : ¬ (i : Int) < (n : Int) := by omega
      obtain rfl : i = n := by omega
      have HEN := Lib.hid (show TS.take i = TS ∧ CSS.take i = CSS from ⟨List.take_of_length_le (by have := HLN.out; omega), List.take_of_length_le (by have := HLN.out; omega)⟩)
      go_wp2
      go_ret
      exact ⟨by rw [HEN.out.1, HEN.out.2]; rfl, HB1.out.trans (hb.mono HB1.out.size)⟩
set_option maxRecDepth 100000 in
set_option maxHeartbeats 8000000 in
theorem ptip_any {G : Nat → Prop} {w : World} {v : Value} {X : List Ch.L} (h : LksAt G w v X) (hX : X.length ≤ 1000000) (hK : KDg w) :
    Calls Tryz.prog 46 #[v] w fun e w' => e = .returned (.agg (blist (Ch.tipOf X)).toArray) ∧ Below w.heap.size w w' := by
  obtain ⟨W1, hW1⟩ : ∃ ww, ww = w.alloc (.cells z32 34) := ⟨_, rfl⟩
  have hB1 : Below w.heap.size w W1 := by rw [hW1]; exact (Below.refl _ _).alloc (Nat.le_refl _) _
  have hR : Has W1 w.heap.size 34 z32 := by rw [hW1]; exact Has.fresh _ _ _
  have HHT := Lib.hid (pheight_any (h.below hB1) hX)
  have hat := pat_any (h.below hB1) hX X.length (by omega)
  have HGT := Lib.hid ((h.below hB1).get X.length)
  obtain ⟨D, hD⟩ : ∃ D, D = Ch.tipOf X := ⟨_, rfl⟩
  have HDL := Lib.hid (show D.length = 32 by rw [hD]; exact Ch.tipOf_len X)
  have HO := Lib.hid (And.intro (size_hash' HDL.out) (one_hash D))
  have HW := Lib.hid hW1
  have HKD := Lib.hid (hK.below hB1)
  rw [← hD]
  by_cases he : X = []
  · subst he
    rw [Ch.lkAt_none] at hat
    obtain ⟨l, hl⟩ : ∃ l, l = Ch.lz := ⟨_, rfl⟩
    rw [← hl] at hat
    have HOK := Lib.hid (show l.b.prev.length = 32 by rw [hl]; rfl)
    have HAT := Lib.hid hat
    have HDZ := Lib.hid (show (blist D).toArray = z32 by rw [hD]; rfl)
    have hbd := fun (w : World) => run_build (P := Tryz.prog) w 34 #[] z32 (by kernel_rfl)
    clear hat hW1 hl h hX hK hD
    go_enter Tryz.func46, Tryz.ntmps46
    go_upto_region 1 with fail
    rw [← HW.out]
    go_upto_region 2 with (first
      | (refine wpList_store_mid rfl 153 (.tmp 3) (.tmp 10) rfl w3.heap.size 0 (lkCells l).toArray rfl rfl (lkRec.there w3 153 (by kernel_rfl) HOK.out) (lkRec.size_eq size_lk HOK.out) (lkRec.all_one _) ?_)
      | (go_at_call 89; refine HAT.out.mono ?_; rintro e w3 ⟨rfl, hb3⟩)
      | (go_at_call 45; refine HHT.out.mono ?_; rintro e w2 ⟨rfl, rfl⟩))
    obtain ⟨w5, hw5⟩ : ∃ x, x = (w3.alloc (.cells zLk 153)).setCells w3.heap.size 0 (lkCells l) := ⟨_, rfl⟩
    obtain ⟨hG5, hb5x⟩ := Rec.new (R := lkRec) (by kernel_rfl) HOK.out hw5
    rw [← hw5]
    obtain ⟨g5, hg5⟩ : ∃ g, g = w3.heap.size := ⟨_, rfl⟩
    rw [← hg5] at hG5 ⊢
    have hb5 := hb3.trans (hb5x.mono hb3.size)
    clear hw5 hg5 hb5x hb3
    have hR5 := hR.under hb5 hR.lt
    have hth := hR5.there 0 32 (by decide)
    have HTH := Lib.hid hth
    clear hth
    go_wp2_with (first
      | (refine wpList_store_mid rfl 34 (.tmp 2) (.tmp 14) rfl w.heap.size 0 z32 rfl rfl HTH.out (by kernel_rfl) (by kernel_rfl) ?_))
    have hE := hR5.whole_cs (cs2 := z32) rfl
    exact bodyPost_ret (results_one_cell rfl _ _ w.heap.size rfl _ (hE.load_var Tryz.underlying34 rfl (by kernel_rfl))) rfl ⟨by rw [HDZ.out], below_setAll (Nat.le_refl _) _ 0 (hB1.trans (hb5.mono hB1.size))⟩
  · obtain ⟨l, hl, e2⟩ := Ch.lkAt_top he
    rw [e2] at hat HGT
    have HOK := Lib.hid (show l.b.prev.length = 32 from HGT.out.1.b.p)
    have HAT := Lib.hid hat
    have HDD := Lib.hid (show D = Ch.idOf l.b.prev l.b.h (Ch.tsOf l.b.vs) by rw [hD, Ch.tipOf_last hl])
    clear hat hW1 hl h hK hD e2
    go_enter Tryz.func46, Tryz.ntmps46
    go_upto_region 1 with fail
    rw [← HW.out]
    go_upto_region 2 with (first
      | (refine wpList_store_mid rfl 153 (.tmp 3) (.tmp 10) rfl w3.heap.size 0 (lkCells l).toArray rfl rfl (lkRec.there w3 153 (by kernel_rfl) HOK.out) (lkRec.size_eq size_lk HOK.out) (lkRec.all_one _) ?_)
      | (go_at_call 89; refine HAT.out.mono ?_; rintro e w3 ⟨rfl, hb3⟩)
      | (go_at_call 45; refine HHT.out.mono ?_; rintro e w2 ⟨rfl, rfl⟩))
    obtain ⟨w5, hw5⟩ : ∃ x, x = (w3.alloc (.cells zLk 153)).setCells w3.heap.size 0 (lkCells l) := ⟨_, rfl⟩
    obtain ⟨hG5, hb5x⟩ := Rec.new (R := lkRec) (by kernel_rfl) HOK.out hw5
    rw [← hw5]
    obtain ⟨g5, hg5⟩ : ∃ g, g = w3.heap.size := ⟨_, rfl⟩
    rw [← hg5] at hG5 ⊢
    have hb5 := hb3.trans (hb5x.mono hb3.size)
    clear hw5 hg5 hb5x hb3
    have hR5 := hR.under hb5 hR.lt
    have lB := lk_load_bk hG5 HOK.out
    have HID := Lib.hid (pbid_any l.b w5 (HGT.out.1.below hb5).b.at (fun x hx => (HGT.out.2.sm x hx).1) (by have := HGT.out.2.n; omega) (HKD.out.below hb5))
    go_wp2_with (first
      | (refine wpList_store_mid rfl 34 (.tmp 2) (.tmp 17) rfl w.heap.size 0 (blist D).toArray rfl rfl HTH.out HO.out.1 HO.out.2 ?_)
      | (go_at_call 40; refine HID.out.mono ?_; rw [← HDD.out]; rintro e w6 ⟨rfl, hb6⟩; have hR6 := hR5.under hb6 hR5.lt; have hth := hR6.there 0 (blist D).toArray.size (by rw [List.size_toArray, blist_length, HDL.out]; decide); have HTH := Lib.hid hth; clear hth)
      | (refine wpList_load_run rfl 79 (.tmp 15) rfl _ _ rfl lB ?_))
    have hE := hR6.whole (l := D) (by rw [HDL.out]; rfl)
    exact bodyPost_ret (results_one_cell rfl _ _ w.heap.size rfl _ (run_loadVar_mid _ _ 0 34 _ _ hE.range Tryz.underlying34 rfl (size_hash HDL.out))) rfl ⟨rfl, below_setAll (Nat.le_refl _) _ 0 (hB1.trans ((hb5.trans (hb6.mono hb5.size)).mono hB1.size))⟩
set_option maxRecDepth 100000 in
set_option maxHeartbeats 8000000 in
theorem pfees_any {G : Nat → Prop} {w : World} {v : Value} {X : List Ch.L} (h : LksAt G w v X) (hX : X.length ≤ 1000000) (z : Int) (hz : -9223372036854775808 ≤ z ∧ z < 9223372036854775808) :
    Calls Tryz.prog 48 #[v, .int .i64 z] w fun e w' => e = .returned (.tuple #[.int .i64 (Ch.feesOf (Ch.tsOf (Ch.lkAt X z).1.b.vs) (Ch.csOf (Ch.lkAt X z).1.ss)), .bool (Ch.lkAt X z).2]) ∧ Below w.heap.size w w' := by
  have hat := pat_any h hX z hz
  have hget := h.get z
  obtain ⟨l, hl⟩ : ∃ l, l = (Ch.lkAt X z).1 := ⟨_, rfl⟩
  obtain ⟨ok, hok⟩ : ∃ l, l = (Ch.lkAt X z).2 := ⟨_, rfl⟩
  rw [← hl] at hget ⊢
  rw [← hl, ← hok] at hat
  rw [← hok]
  have HGT := Lib.hid hget
  have HOK := Lib.hid (show l.b.prev.length = 32 from hget.1.b.p)
  have HAT := Lib.hid hat
  clear hat hl hok h hX hz hget
  go_enter Tryz.func48, Tryz.ntmps48
  go_upto_region 2 with (first
    | (refine wpList_store_mid rfl 153 (.tmp 6) (.tmp 12) rfl w3.heap.size 0 (lkCells l).toArray rfl rfl (lkRec.there w3 153 (by kernel_rfl) HOK.out) (lkRec.size_eq size_lk HOK.out) (lkRec.all_one _) ?_)
    | (go_at_call 89; refine HAT.out.mono ?_; rintro e w3 ⟨rfl, hb3⟩))
  obtain ⟨w5, hw5⟩ : ∃ x, x = (w3.alloc (.cells zLk 153)).setCells w3.heap.size 0 (lkCells l) := ⟨_, rfl⟩
  obtain ⟨hG5, hb5x⟩ := Rec.new (R := lkRec) (by kernel_rfl) HOK.out hw5
  rw [← hw5]
  obtain ⟨g5, hg5⟩ : ∃ g, g = w3.heap.size := ⟨_, rfl⟩
  rw [← hg5] at hG5 ⊢
  have hb5 := hb3.trans (hb5x.mono hb3.size)
  clear hw5 hg5 hb5x hb3
  have lL := hG5.load_agg (P := Tryz.prog) (t := 153) Tryz.underlying153 rfl (lkRec.size_eq size_lk HOK.out)
  have HFE := Lib.hid (lfees_any l w5 (HGT.out.1.below hb5) HGT.out.2)
  go_wp2_with (first
    | (go_at_call 105; refine HFE.out.mono ?_; rintro e w6 ⟨rfl, hb6⟩)
    | (refine wpList_load_run rfl 153 (.tmp 6) rfl _ _ rfl lL ?_))
  go_ret2
  exact ⟨rfl, hb5.trans (hb6.mono hb5.size)⟩
set_option maxRecDepth 100000 in
/-- a block that was built of its three parts -/
theorem built_blk32 (d0 d1 d2 d3 d4 d5 d6 d7 d8 d9 d10 d11 d12 d13 d14 d15 d16 d17 d18 d19 d20 d21 d22 d23 d24 d25 d26 d27 d28 d29 d30 d31 : BitVec 8) (z : Int) (a : Option Addr) (n q : Nat) (vs : List Tx.V) : Tryz.prog.built 79 [(0, .agg (blist [d0, d1, d2, d3, d4, d5, d6, d7, d8, d9, d10, d11, d12, d13, d14, d15, d16, d17, d18, d19, d20, d21, d22, d23, d24, d25, d26, d27, d28, d29, d30, d31]).toArray), (1, .int .i64 z), (2, .slice a n q)] = some (bkCells ⟨[d0, d1, d2, d3, d4, d5, d6, d7, d8, d9, d10, d11, d12, d13, d14, d15, d16, d17, d18, d19, d20, d21, d22, d23, d24, d25, d26, d27, d28, d29, d30, d31], z, a, n, q, vs⟩).toArray := by kernel_rfl
theorem built_blk : ∀ (D : List (BitVec 8)), D.length = 32 → ∀ (z : Int) (a : Option Addr) (n q : Nat) (vs : List Tx.V), Tryz.prog.built 79 [(0, .agg (blist D).toArray), (1, .int .i64 z), (2, .slice a n q)] = some (bkCells ⟨D, z, a, n, q, vs⟩).toArray
  | [d0, d1, d2, d3, d4, d5, d6, d7, d8, d9, d10, d11, d12, d13, d14, d15, d16, d17, d18, d19, d20, d21, d22, d23, d24, d25, d26, d27, d28, d29, d30, d31], _, z, a, n, q, vs => built_blk32 d0 d1 d2 d3 d4 d5 d6 d7 d8 d9 d10 d11 d12 d13 d14 d15 d16 d17 d18 d19 d20 d21 d22 d23 d24 d25 d26 d27 d28 d29 d30 d31 z a n q vs
theorem wpList_build_blk {ops : Array Oper} {rest : List Oper} {o : Oper} {a : Act} {w : World} {Q : Exit → Act → World → Prop} (hgd : o.guard = none) (x y u : Operand) (ho : o.op = .build 79 #[(0, x), (1, y), (2, u)]) (b : Ch.B)
    (hx : a.eval x = .agg (blist b.prev).toArray) (hy : a.eval y = .int .i64 b.h) (hu : a.eval u = .slice b.a b.n b.q) (hD : b.prev.length = 32) (h : wpList Tryz.prog ops Q rest (a.put o.dst (.agg (bkCells b).toArray)) w) : wpList Tryz.prog ops Q (o :: rest) a w :=
  wpList_plain hgd fun K hK => by
    have hr := run_build (P := Tryz.prog) w 79 #[(0, .agg (blist b.prev).toArray), (1, .int .i64 b.h), (2, .slice b.a b.n b.q)] _ (built_blk b.prev hD b.h b.a b.n b.q b.vs)
    unfold Oper.wp execOp
    simp only [ho, List.map_toArray, List.map_cons, List.map_nil, hx, hy, hu, Sem.run_bind, Sem.run_pure, Result.andThen_ok, hr]
    exact hK _ _ h
set_option maxRecDepth 100000 in
set_option maxHeartbeats 8000000 in
theorem pnext_any {G : Nat → Prop} {w : World} {v : Value} {X : List Ch.L} (h : LksAt G w v X) (hX : X.length ≤ 1000000) (a : Option Addr) (n q : Nat) (vs : List Tx.V) (ht : Txs w a n vs) (hq : n ≤ q ∧ (a = none → q = 0)) (hs : ∀ x, x ∈ vs → Tx.Small x.t) (hn : n ≤ 1000000) (hK : KDg w) :
    Calls Tryz.prog 32 #[v, .slice a n q] w (CopiedPost ⟨Ch.tipOf X, X.length + 1, a, n, q, vs⟩ w) := by
  obtain ⟨W1, hW1⟩ : ∃ ww, ww = w.alloc (.cells zBk 79) := ⟨_, rfl⟩
  have hB1 : Below w.heap.size w W1 := by rw [hW1]; exact (Below.refl _ _).alloc (Nat.le_refl _) _
  have hR : Has W1 w.heap.size 79 zBk := by rw [hW1]; exact Has.fresh _ _ _
  have hsz : W1.heap.size = w.heap.size + 1 := by rw [hW1]; simp
  have HTP := Lib.hid (ptip_any (h.below hB1) hX (hK.below hB1))
  have HHT := Lib.hid (fun w' (hb : Below W1.heap.size W1 w') => pheight_any ((h.below hB1).below hb) hX)
  obtain ⟨D, hD⟩ : ∃ D, D = Ch.tipOf X := ⟨_, rfl⟩
  obtain ⟨k, hk⟩ : ∃ k, k = X.length := ⟨_, rfl⟩
  have HDL := Lib.hid (show D.length = 32 by rw [hD]; exact Ch.tipOf_len X)
  rw [← hD] at HTP ⊢
  rw [← hk] at HHT hX ⊢
  have hkw : IntKind.i64.wrap ((k : Int) + 1) = (k : Int) + 1 := IntWalk.i64_in _ (by omega)
  have HAB := Lib.hid (show ∀ w', Below W1.heap.size W1 w' → Ch.B.At w' ⟨D, (k : Int) + 1, a, n, q, vs⟩ from fun w' hb => ⟨HDL.out, by dsimp only; omega, (ht.below hB1).below hb, hq⟩)
  have HW := Lib.hid hW1
  have HSZ := Lib.hid hsz
  have HS := Lib.hid hs
  have HN := Lib.hid hn
  clear hW1 h hX hK hD hk ht hq hs hn hsz
  go_enter Tryz.func32, Tryz.ntmps32
  go_upto_region 1 with fail
  rw [← HW.out]
  go_wp2_with (first
    | (refine wpList_store_mid rfl 79 (.tmp 4) (.tmp 12) rfl w.heap.size 0 (bkCells b').toArray rfl rfl HTH.out (bkRec.size_eq size_bk HP6.out) (bkRec.all_one _) ?_)
    | (go_at_call 84; refine (copied_any ⟨D, (k : Int) + 1, a, n, q, vs⟩ w2 (HAB.out w2 hb2) HS.out HN.out).mono ?_; rintro e w6 ⟨b', rfl, hOw, e1, e2, e3, e4, hb6⟩; have HP6 := Lib.hid hOw.p; have hR6 := (hR.under hb2 hR.lt).under hb6 (hR.under hb2 hR.lt).lt; have hth := hR6.there 0 (bkCells b').toArray.size (by rw [List.size_toArray, bkCells_len HP6.out]; decide); have HTH := Lib.hid hth; clear hth; have HOW := Lib.hid hOw; have HEE := Lib.hid (And.intro e1 (And.intro e2 (And.intro e3 e4))); clear hOw e1 e2 e3 e4)
    | (refine wpList_build_blk rfl (.tmp 6) (.tmp 9) (.tmp 10) rfl ⟨D, (k : Int) + 1, a, n, q, vs⟩ rfl rfl rfl HDL.out ?_)
    | (go_at_call 45; refine (HHT.out w2 hb2).mono ?_; rintro e w2 ⟨rfl, rfl⟩)
    | (go_at_call 46; refine HTP.out.mono ?_; rintro e w2 ⟨rfl, hb2⟩))
  have hE := hR6.whole_cs (cs2 := (bkCells b').toArray) (by rw [List.size_toArray, bkCells_len HP6.out]; rfl)
  refine bodyPost_ret (results_one_cell rfl _ _ w.heap.size rfl _ (hE.load_var Tryz.underlying79 rfl (bkRec.size_eq size_bk HP6.out))) rfl ?_
  have h5 : w.heap.size < w2.heap.size := by have := hb2.size; have := HSZ.out; omega
  exact ⟨b', rfl, ⟨HOW.out.p, HOW.out.h, (HOW.out.ts.moved (w' := w6.setCells w.heap.size 0 (bkCells b')) (G := fun j => j = w.heap.size) (Moved.putAll (F := fun j => j = w.heap.size) (.inl rfl) _ 0 (Moved.refl _ _)) (fun j e _ => by omega)).low (by omega)⟩, HEE.out.1, HEE.out.2.1, HEE.out.2.2.1, HEE.out.2.2.2, below_setAll (Nat.le_refl _) _ 0 (hB1.trans ((hb2.trans (hb6.mono hb2.size)).mono hB1.size))⟩
end Go.Proofs.YtdfplenniamnoaaGreatDoor

/-! package coins: what the premise asks -/
namespace Go.Proofs.YtdfplenniamnoaaGreatDoor
open Go Go.RowKit Go.ChangeShapes Go.WideShapes
namespace Cs
theorem put_len (M : Mp) (p : Pt) (c : Tx.Co) : (put M p c).length ≤ M.length + 1 := by
  unfold put
  cases idx p M with
  | none => simp
  | some r => simp
theorem del_len (M : Mp) (p : Pt) : (del M p).length ≤ M.length := by
  unfold del
  cases idx p M with
  | none => exact Nat.le_refl _
  | some r => simp only [List.length_eraseIdx]; split <;> omega
theorem del_sub {M : Mp} {p : Pt} {x : Pt × Tx.Co} (h : x ∈ del M p) : x ∈ M := by
  unfold del at h
  cases hi : idx p M with
  | none => rw [hi] at h; exact h
  | some r => rw [hi] at h; exact List.mem_of_mem_eraseIdx h
theorem delAll_len : ∀ (l : List Pt) (M : Mp), (delAll M l).length ≤ M.length
  | [], _ => Nat.le_refl _
  | p :: l, M => Nat.le_trans (delAll_len l (del M p)) (del_len M p)
theorem delAll_sub : ∀ (l : List Pt) {M : Mp} {x : Pt × Tx.Co}, x ∈ delAll M l → x ∈ M
  | [], _, _, h => h
  | _ :: l, _, _, h => del_sub (delAll_sub l h)
theorem putAll_len : ∀ (l : Mp) (M : Mp), (putAll M l).length ≤ M.length + l.length
  | [], _ => Nat.le_refl _
  | x :: l, M => by
    have h := putAll_len l (put M x.1 x.2)
    have h2 := put_len M x.1 x.2
    show (putAll (put M x.1 x.2) l).length ≤ M.length + (l.length + 1)
    omega
theorem putAll_mem : ∀ (l : Mp) {M : Mp} {x : Pt × Tx.Co}, x ∈ putAll M l → x ∈ M ∨ x ∈ l
  | [], _, _, h => .inl h
  | y :: l, M, x, h => by
    rcases putAll_mem l (M := put M y.1 y.2) h with h | h
    · rcases put_mem h with h | h
      · exact .inl h
      · exact .inr (List.mem_cons.2 (.inl h))
    · exact .inr (List.mem_cons_of_mem _ h)
theorem total_all : ∀ (l : List Int) (s : Int), (Am.total l s).2 = 0 → ∀ z, z ∈ l → Am.Good z
  | [], _, _, _, hz => by cases hz
  | y :: l, s, h, z, hz => by
    unfold Am.total at h
    by_cases h1 : Am.Good y
    · rw [if_pos h1] at h
      by_cases h2 : Am.Good (s + y)
      · rw [if_pos h2] at h
        rcases List.mem_cons.1 hz with rfl | hz
        · exact h1
        · exact total_all l (s + y) h z hz
      · rw [if_neg h2] at h
        exact absurd h (by decide)
    · rw [if_neg h1] at h
      exact absurd h (by decide)
theorem co_good {t : Tx.T} (h : Tx.check t = 0) : ∀ c, c ∈ t.co → Am.Good c.v := fun c hc => total_all _ 0 (check_parts h).2.2 c.v (List.mem_map.2 ⟨c, hc, rfl⟩)
theorem doM_good {M : Mp} {id : List (BitVec 8)} {t : Tx.T} (hg : ∀ x, x ∈ M → Am.Good x.2.v) (h : doE M id t = 0) : ∀ x, x ∈ doM M id t → Am.Good x.2.v := fun x hx => by
  rcases putAll_mem _ hx with h1 | h1
  · exact hg x (delAll_sub _ h1)
  · obtain ⟨i, hi⟩ := List.mem_iff_getElem?.1 h1
    obtain ⟨c, hc, rfl⟩ := ownL_at.1 hi
    exact co_good (fee_parts (do_parts h).1).1 c (List.mem_of_getElem? hc)
theorem doM_len (M : Mp) (id : List (BitVec 8)) (t : Tx.T) : (doM M id t).length ≤ M.length + t.co.length := by
  have h1 := putAll_len (ownL id t.co) (delAll M (t.sp.map pt))
  have h2 := delAll_len (t.sp.map pt) M
  have h3 : (ownL id t.co).length = t.co.length := by unfold ownL; rw [List.length_mapIdx]
  unfold doM
  omega
end Cs
/-- a set of good coins -/
def SetG (w : World) (v : Value) (F : Fp) (M : Cs.Mp) : Prop := SetAt w v F M ∧ ∀ x, x ∈ M → Am.Good x.2.v
theorem SetAt.fits {w : World} {v : Value} {F : Fp} {M : Cs.Mp} (h : SetAt w v F M) : Cs.Keys M ∧ ∀ x, x ∈ M → Cs.ptOk x.1 ∧ Tx.CoOk x.2 := by
  obtain ⟨g, b, _, hs, _⟩ := h
  obtain ⟨es, clock, _, _, h1, h2, _⟩ := hs.map
  exact ⟨h1, h2⟩
theorem coinsOk : CoinsOk SetG where
  moved := fun h hm hF => ⟨h.1.moved hm hF, h.2⟩
  lt := fun h j hj => by
    obtain ⟨⟨g, b, _, hs, rfl⟩, _⟩ := h
    rcases hj with rfl | rfl
    · exact hs.has.lt
    · exact hs.map.lt
  keys := fun h => ⟨h.1.fits.1, fun x hx => ⟨(h.1.fits.2 x hx).1, (h.1.fits.2 x hx).2, h.2 x hx⟩⟩
  new := fun w => (pnew_any w).mono fun e w' ⟨he, hs, hb⟩ => ⟨_, fun j => j = w.heap.size + 1 ∨ j = w.heap.size, he, ⟨⟨_, _, rfl, hs, rfl⟩, fun x hx => by cases hx⟩, fun j hj => by omega, hb⟩
  put := fun {w v F M} h p hp c hc => by
    obtain ⟨⟨g, b, rfl, hs, rfl⟩, hg⟩ := h
    refine (pput_any hs p hp c hc).mono fun e w' ⟨he, hs', hm⟩ => ⟨fun j => j = g ∨ j = b, _, he, ⟨⟨g, b, rfl, hs', rfl⟩, ?_⟩, ?_, fun j hj => .inl hj, hm.mono fun k hk => .inr hk, ?_⟩
    · intro x hx
      by_cases h0 : Cs.putE M p c = 0
      · rw [if_pos h0] at hx
        rcases Cs.put_mem hx with hx | rfl
        · exact hg x hx
        · unfold Cs.putE at h0
          by_cases h1 : Am.Good c.v
          · exact h1
          · rw [if_neg h1] at h0
            exact absurd h0 (by decide)
      · rw [if_neg h0] at hx
        exact hg x hx
    · intro q
      by_cases h0 : Cs.putE M p c = 0
      · rw [if_pos h0, Cs.look_put (SetAt.fits ⟨g, b, rfl, hs, rfl⟩).1]
        by_cases hq : q = p
        · rw [if_pos hq, if_pos ⟨h0, hq⟩]
        · rw [if_neg hq, if_neg (fun h => hq h.2)]
      · rw [if_neg h0, if_neg (fun h => h0 h.1)]
    · by_cases h0 : Cs.putE M p c = 0
      · rw [if_pos h0]; exact Cs.put_len _ _ _
      · rw [if_neg h0]; omega
  len := fun h => plen_any (.inl h.1)
  worth := fun h hl => pworth_any (.inl h.1) hl h.2
  fee := fun h a n q b m r t ht hs hK => pfee_any (.inl h.1) h.2 a n q b m r t ht hs hK
  do_ := fun {w v F M} h a n q b m r t ht hs hK => by
    obtain ⟨⟨g, bm, rfl, hS, rfl⟩, hg⟩ := h
    refine (pdo_any hS hg a n q b m r t ht hs hK).mono fun e w' ⟨M', ua, un, uq, ub, um, ur, uc, uk, ul, u, sp, he, hS', hU, h1, h2, hm⟩ => ⟨fun j => j = g ∨ j = bm, M', ua, un, uq, ub, um, ur, uc, uk, ul, u, sp, he, ⟨⟨g, bm, rfl, hS', rfl⟩, ?_⟩, hU, fun h => ?_, fun h q => by rw [h2 h], fun j hj => .inl hj, hm.mono fun k hk => .inr hk, ?_⟩
    · by_cases h0 : Cs.doE M (Tx.idOf false t) t = 0
      · rw [(h1 h0).1]; exact Cs.doM_good hg h0
      · rw [h2 h0]; exact hg
    · obtain ⟨e1, e2, e3⟩ := h1 h
      refine ⟨?_, e2, e3⟩
      rw [e1]
      exact Cs.doM_is (SetAt.fits ⟨g, bm, rfl, hS, rfl⟩).1 _ _
    · by_cases h0 : Cs.doE M (Tx.idOf false t) t = 0
      · rw [(h1 h0).1]; exact Cs.doM_len _ _ _
      · rw [h2 h0]; omega
end Go.Proofs.YtdfplenniamnoaaGreatDoor
