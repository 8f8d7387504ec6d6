/- package digest: schedule -/
import Derived.Test.YtagjolbpmhbifaaGreatDoorDgy
import Derived.Test.YtagjolbpmhbifaaGreatDoorDgV
import Derived.Test.YtagjolbpmhbifaaGreatDoorLz
namespace Go.Proofs.YtagjolbpmhbifaaGreatDoor
open Go Go.RowKit Go.ChangeShapes Go.WideShapes
/-- block g is as it was, but for cell t -/
def CellsBut (g t : Nat) (w0 w : World) : Prop := ∀ j, j ≠ t → w.cell? ⟨g, j, none⟩ = w0.cell? ⟨g, j, none⟩
theorem z64_p (b : List (BitVec 8)) : z64 = wcells 64 (Dg.pF b 0) := by
  rw [show wcells 64 (Dg.pF b 0) = wcells 64 (fun _ => 0) from wcells_congr fun i _ => Dg.pF_zero b i]
  rfl
theorem pF_put (b : List (BitVec 8)) (i d : Nat) (hd : d = i / 4) (x : BitVec 32) (hx : x = Dg.pF b (i + 1) d) : (wcells 64 (Dg.pF b i)).setIfInBounds d (.int .u32 (nb32 x)) = wcells 64 (Dg.pF b (i + 1)) :=
  wcells_put _ _ d x hx.symm (fun j _ hj => Dg.pF_other b i d j hd hj)
theorem pF_wF (b : List (BitVec 8)) : wcells 64 (Dg.pF b 64) = wcells 64 (Dg.wF (Dg.m b) 16) := wcells_congr fun j _ => Dg.pF_end b j
theorem wF_all (m : Nat → BitVec 32) : wcells 64 (Dg.wF m 64) = wcells 64 (Dg.sch m) := wcells_congr fun _ hj => wF_lo m hj
theorem wcells_there {w : World} {g n : Nat} {T : TypeId} {cs : Array Value} (h : Has w g T cs) (hn : n ≤ cs.size) : w.there g 0 n := h.there 0 n (by omega)
set_option maxRecDepth 100000 in
set_option maxHeartbeats 8000000 in
theorem sched_any (b : List (BitVec 8)) (hb : b.length = 64) (w : World) :
    Calls Tryz.prog 105 #[.agg (blist b).toArray] w fun e w' => e = .returned (.agg (wcells 64 (Dg.sch (Dg.m b)))) ∧ Below w.heap.size w w' := by
  have HL := Lib.hid hb
  clear hb
  go_enter Tryz.func105, Tryz.ntmps105
  go_upto_region 2 with fail
  obtain ⟨gW, hgW⟩ : ∃ g, g = w.heap.size + 1 + 1 := ⟨_, rfl⟩
  obtain ⟨wB, hwB⟩ : ∃ x, x = ((w.alloc (.cells (blist b).toArray 148)).alloc (.cells z64 164)).alloc (.cells z64 164) := ⟨_, rfl⟩
  rw [← hwB]
  have hA : Has wB w.heap.size 148 (blist b).toArray := by rw [hwB]; exact ((Has.fresh _ _ _).past _).past _
  have hR : Has wB (w.heap.size + 1) 164 z64 := by rw [hwB]; exact (Has.fresh_at _ _ _ (by simp)).past _
  have hW0 : Has wB gW 164 (wcells 64 (Dg.pF b 0)) := by rw [hwB, hgW, ← z64_p b]; exact Has.fresh_at _ _ _ (by simp)
  have hB : Below w.heap.size w wB := by rw [hwB]; exact (((Below.refl _ _).alloc (Nat.le_refl _) _).alloc (by simp) _).alloc (by simp; omega) _
  rw [← hgW]
  have HG := Lib.hid hgW
  clear hwB hgW
  have hx := hA.load_agg (P := Tryz.prog) Tryz.underlying148 rfl (by rw [List.size_toArray, blist_length, HL.out]; kernel_rfl)
  go_wp2_with (first
    | (refine wpList_load_run rfl 148 (.tmp 1) rfl _ _ rfl hx ?_))
  clear hx
  go_loopw [8] (fun iv wr => ∃ i : Nat, i ≤ 64 ∧ iv = .int .i64 i ∧ Has wr gW 164 (wcells 64 (Dg.pF b i)) ∧ wB.grownBy wr (some gW)) (fun iv _ => 64 - (intOf iv).toNat)
  case atStart => exact ⟨0, Nat.zero_le _, rfl, hW0, grown_refl7 _ _⟩
  case round =>
    clear hW0
    obtain ⟨i, hi, rfl, hW, hgr⟩ := hrel
    by_cases h64 : i < 64
    · have hi64 : (i : Int) < 64 := by omega
      have hi0 : (0 : Int) ≤ (i : Int) := by omega
      obtain ⟨y, hy⟩ : ∃ y, y = cb b i := ⟨_, rfl⟩
      have hix := run_index_arr (P := Tryz.prog) (t := 148) (e := 5) Tryz.underlying148 Tryz.underlying5 size_byte h64 (show (blist b).toArray[i]? = some (.int .u8 (nb8 y)) by rw [List.getElem?_toArray, hy]; exact blist_at b i (by rw [HL.out]; exact h64))
      obtain ⟨d, hd⟩ : ∃ d, d = i / 4 := ⟨_, rfl⟩
      have hdi : (i : Int).tdiv 4 = (d : Int) := by rw [hd]; rfl
      have hdi2 : (i : Int) / 4 = (d : Int) := by omega
      have hd64 : (d : Int) < 64 := by omega
      have hd0 : (0 : Int) ≤ (d : Int) := by omega
      have h64d : d < 64 := by omega
      obtain ⟨z, hz⟩ : ∃ z, z = Dg.pF b i d := ⟨_, rfl⟩
      have HX := Lib.hid (show z <<< 8 ||| y.setWidth 32 = Dg.pF b (i + 1) d by rw [hz]; exact Dg.pF_step b i d y hd hy)
      have HD := Lib.hid hd
      have cw : wr.cell? ⟨gW, d, none⟩ = some (.int .u32 (nb32 z)) := by rw [hz]; exact hW.cell_at (wcells_at (Dg.pF b i) h64d)
      have fw := hW.loose d
      clear hd hy hz
      go_wp2_with fail
      have hW2 := hW.put d (.int .u32 (nb32 (z <<< 8 ||| y.setWidth 32)))
      rw [pF_put b i d HD.out _ HX.out] at hW2
      go_roundw
      case rel => exact ⟨i + 1, by omega, by go_num, hW2, grown_put7 hgr _ _⟩
      case measure => (simp [intOf]; try omega)
    · have HE := Lib.hid (show i = 64 by omega)
      have hi64 : ¬ (i : Int) < 64 := by omega
      rw [HE.out, pF_wF] at hW
      have hRB := grown_has hgr hR (by have := HG.out; omega)
      have hBB := grown_low hB hgr (by have := HG.out; omega) hB.size
      clear hgr hR hB hA
      rename World => wC
      go_wp2_with fail
      go_loopw [6] (fun iv wr => ∃ t : Nat, 16 ≤ t ∧ t ≤ 64 ∧ iv = .int .i64 t ∧ Has wr gW 164 (wcells 64 (Dg.wF (Dg.m b) t)) ∧ wC.grownBy wr (some gW)) (fun iv _ => 64 - (intOf iv).toNat)
      case atStart => exact ⟨16, by omega, by omega, rfl, hW, grown_refl7 _ _⟩
      case round =>
        clear hW
        obtain ⟨t, ht16, ht, rfl, hW, hgr⟩ := hrel
        by_cases h64 : t < 64
        · have ht64 : (t : Int) < 64 := by omega
          have ht0 : (0 : Int) ≤ (t : Int) := by omega
          obtain ⟨t2, ht2v⟩ : ∃ x, x = t - 2 := ⟨_, rfl⟩
          have ht2i : (t : Int) - 2 = (t2 : Int) := by omega
          have ht2w : IntKind.i64.wrap (t2 : Int) = (t2 : Int) := IntWalk.i64_in _ (by omega)
          have ht20 : (0 : Int) ≤ (t2 : Int) := by omega
          have ht2u : (t2 : Int) < 64 := by omega
          obtain ⟨y2, hy2⟩ : ∃ x, x = Dg.sch (Dg.m b) t2 := ⟨_, rfl⟩
          have j2 : (wcells 64 (Dg.wF (Dg.m b) t))[t2]? = some (.int .u32 (nb32 y2)) := by rw [wcells_at _ (by omega), wF_lo (Dg.m b) (by omega), hy2]
          have hn2 : t2 ≠ t := by omega
          obtain ⟨t7, ht7v⟩ : ∃ x, x = t - 7 := ⟨_, rfl⟩
          have ht7i : (t : Int) - 7 = (t7 : Int) := by omega
          have ht7w : IntKind.i64.wrap (t7 : Int) = (t7 : Int) := IntWalk.i64_in _ (by omega)
          have ht70 : (0 : Int) ≤ (t7 : Int) := by omega
          have ht7u : (t7 : Int) < 64 := by omega
          obtain ⟨y7, hy7⟩ : ∃ x, x = Dg.sch (Dg.m b) t7 := ⟨_, rfl⟩
          have j7 : (wcells 64 (Dg.wF (Dg.m b) t))[t7]? = some (.int .u32 (nb32 y7)) := by rw [wcells_at _ (by omega), wF_lo (Dg.m b) (by omega), hy7]
          have hn7 : t7 ≠ t := by omega
          obtain ⟨t15, ht15v⟩ : ∃ x, x = t - 15 := ⟨_, rfl⟩
          have ht15i : (t : Int) - 15 = (t15 : Int) := by omega
          have ht15w : IntKind.i64.wrap (t15 : Int) = (t15 : Int) := IntWalk.i64_in _ (by omega)
          have ht150 : (0 : Int) ≤ (t15 : Int) := by omega
          have ht15u : (t15 : Int) < 64 := by omega
          obtain ⟨y15, hy15⟩ : ∃ x, x = Dg.sch (Dg.m b) t15 := ⟨_, rfl⟩
          have j15 : (wcells 64 (Dg.wF (Dg.m b) t))[t15]? = some (.int .u32 (nb32 y15)) := by rw [wcells_at _ (by omega), wF_lo (Dg.m b) (by omega), hy15]
          have hn15 : t15 ≠ t := by omega
          obtain ⟨t16, ht16v⟩ : ∃ x, x = t - 16 := ⟨_, rfl⟩
          have ht16i : (t : Int) - 16 = (t16 : Int) := by omega
          have ht16w : IntKind.i64.wrap (t16 : Int) = (t16 : Int) := IntWalk.i64_in _ (by omega)
          have ht160 : (0 : Int) ≤ (t16 : Int) := by omega
          have ht16u : (t16 : Int) < 64 := by omega
          obtain ⟨y16, hy16⟩ : ∃ x, x = Dg.sch (Dg.m b) t16 := ⟨_, rfl⟩
          have j16 : (wcells 64 (Dg.wF (Dg.m b) t))[t16]? = some (.int .u32 (nb32 y16)) := by rw [wcells_at _ (by omega), wF_lo (Dg.m b) (by omega), hy16]
          have hn16 : t16 ≠ t := by omega
          have HX := Lib.hid (show (Dg.ror y2 17 ^^^ Dg.ror y2 19 ^^^ y2 >>> 10) + y7 + (Dg.ror y15 7 ^^^ Dg.ror y15 18 ^^^ y15 >>> 3) + y16 = Dg.sch (Dg.m b) t by
            rw [Dg.sch_hi (Dg.m b) ht16, hy2, hy7, hy15, hy16, ht2v, ht7v, ht15v, ht16v]
            rfl)
          clear hy2 hy7 hy15 hy16 ht2v ht7v ht15v ht16v
          go_upto_region 10 with fail
          refine wp_region_held_drew (S := CellsBut gW t wr.drew) (by kernel_rfl) (fun _ _ => rfl) (fun hHeld => ?_)
          obtain ⟨wn, hwn⟩ : ∃ x, x = wr.drew := ⟨_, rfl⟩
          rw [← hwn] at hHeld ⊢
          have hWn : Has wn gW 164 (wcells 64 (Dg.wF (Dg.m b) t)) := by rw [hwn]; exact hW.draw
          have hgn : wC.grownBy wn (some gW) := by rw [hwn]; exact grown_drew7 hgr
          clear hwn hW hgr
          have c2 : wn.cell? ⟨gW, t2, none⟩ = some (.int .u32 (nb32 y2)) := hWn.cell_at j2
          have c7 : wn.cell? ⟨gW, t7, none⟩ = some (.int .u32 (nb32 y7)) := hWn.cell_at j7
          have c15 : wn.cell? ⟨gW, t15, none⟩ = some (.int .u32 (nb32 y15)) := hWn.cell_at j15
          have c16 : wn.cell? ⟨gW, t16, none⟩ = some (.int .u32 (nb32 y16)) := hWn.cell_at j16
          refine take_at (v := ?_) 0 28 rfl rfl (by kernel_rfl) (by kernel_rfl) (by kernel_rfl) (fun _ _ _ h => h) hHeld (Or.inl ⟨by rfl, ?_⟩) rfl ?_
          rotate_left
          · intro wq hSw
            go_simp
            try with_reducible rfl
          simp only [List.set_cons_zero, List.set_cons_succ]
          refine take_at (v := ?_) 1 29 rfl rfl (by kernel_rfl) (by kernel_rfl) (by kernel_rfl) (fun _ _ _ h => h) hHeld (Or.inl ⟨by rfl, ?_⟩) rfl ?_
          rotate_left
          · intro wq hSw
            go_simp
            try with_reducible rfl
          simp only [List.set_cons_zero, List.set_cons_succ]
          refine take_at (v := ?_) 2 30 rfl rfl (by kernel_rfl) (by kernel_rfl) (by kernel_rfl) (fun _ _ _ h => h) hHeld (Or.inl ⟨by rfl, ?_⟩) rfl ?_
          rotate_left
          · intro wq hSw
            go_simp
            try with_reducible rfl
          simp only [List.set_cons_zero, List.set_cons_succ]
          refine take_at (v := ?_) 3 31 rfl rfl (by kernel_rfl) (by kernel_rfl) (by kernel_rfl) (fun _ _ _ h => h) hHeld (Or.inl ⟨by rfl, ?_⟩) rfl ?_
          rotate_left
          · intro wq hSw
            go_simp
            try with_reducible rfl
          simp only [List.set_cons_zero, List.set_cons_succ]
          refine take_at (v := ?_) 4 32 rfl rfl (by kernel_rfl) (by kernel_rfl) (by kernel_rfl) (fun _ _ _ h => h) hHeld (Or.inl ⟨by rfl, ?_⟩) rfl ?_
          rotate_left
          · intro wq hSw
            have hst := (hSw t2 hn2).trans c2
            go_simp
            try with_reducible rfl
          simp only [List.set_cons_zero, List.set_cons_succ]
          refine take_at (v := ?_) 6 34 rfl rfl (by kernel_rfl) (by kernel_rfl) (by kernel_rfl) (fun _ _ _ h => h) hHeld (Or.inl ⟨by rfl, ?_⟩) rfl ?_
          rotate_left
          · intro wq hSw
            go_simp
            try with_reducible rfl
          simp only [List.set_cons_zero, List.set_cons_succ]
          refine take_at (v := ?_) 7 35 rfl rfl (by kernel_rfl) (by kernel_rfl) (by kernel_rfl) (fun _ _ _ h => h) hHeld (Or.inl ⟨by rfl, ?_⟩) rfl ?_
          rotate_left
          · intro wq hSw
            go_simp
            try with_reducible rfl
          simp only [List.set_cons_zero, List.set_cons_succ]
          refine take_at (v := ?_) 8 36 rfl rfl (by kernel_rfl) (by kernel_rfl) (by kernel_rfl) (fun _ _ _ h => h) hHeld (Or.inl ⟨by rfl, ?_⟩) rfl ?_
          rotate_left
          · intro wq hSw
            go_simp
            try with_reducible rfl
          simp only [List.set_cons_zero, List.set_cons_succ]
          refine take_at (v := ?_) 9 37 rfl rfl (by kernel_rfl) (by kernel_rfl) (by kernel_rfl) (fun _ _ _ h => h) hHeld (Or.inl ⟨by rfl, ?_⟩) rfl ?_
          rotate_left
          · intro wq hSw
            have hst := (hSw t7 hn7).trans c7
            go_simp
            try with_reducible rfl
          simp only [List.set_cons_zero, List.set_cons_succ]
          refine take_at (v := ?_) 11 39 rfl rfl (by kernel_rfl) (by kernel_rfl) (by kernel_rfl) (fun _ _ _ h => h) hHeld (Or.inl ⟨by rfl, ?_⟩) rfl ?_
          rotate_left
          · intro wq hSw
            go_simp
            try with_reducible rfl
          simp only [List.set_cons_zero, List.set_cons_succ]
          refine take_at (v := ?_) 12 40 rfl rfl (by kernel_rfl) (by kernel_rfl) (by kernel_rfl) (fun _ _ _ h => h) hHeld (Or.inl ⟨by rfl, ?_⟩) rfl ?_
          rotate_left
          · intro wq hSw
            go_simp
            try with_reducible rfl
          simp only [List.set_cons_zero, List.set_cons_succ]
          refine take_at (v := ?_) 13 41 rfl rfl (by kernel_rfl) (by kernel_rfl) (by kernel_rfl) (fun _ _ _ h => h) hHeld (Or.inl ⟨by rfl, ?_⟩) rfl ?_
          rotate_left
          · intro wq hSw
            go_simp
            try with_reducible rfl
          simp only [List.set_cons_zero, List.set_cons_succ]
          refine take_at (v := ?_) 14 42 rfl rfl (by kernel_rfl) (by kernel_rfl) (by kernel_rfl) (fun _ _ _ h => h) hHeld (Or.inl ⟨by rfl, ?_⟩) rfl ?_
          rotate_left
          · intro wq hSw
            have hst := (hSw t15 hn15).trans c15
            go_simp
            try with_reducible rfl
          simp only [List.set_cons_zero, List.set_cons_succ]
          refine take_at (v := ?_) 17 45 rfl rfl (by kernel_rfl) (by kernel_rfl) (by kernel_rfl) (fun _ _ _ h => h) hHeld (Or.inl ⟨by rfl, ?_⟩) rfl ?_
          rotate_left
          · intro wq hSw
            go_simp
            try with_reducible rfl
          simp only [List.set_cons_zero, List.set_cons_succ]
          refine take_at (v := ?_) 18 46 rfl rfl (by kernel_rfl) (by kernel_rfl) (by kernel_rfl) (fun _ _ _ h => h) hHeld (Or.inl ⟨by rfl, ?_⟩) rfl ?_
          rotate_left
          · intro wq hSw
            go_simp
            try with_reducible rfl
          simp only [List.set_cons_zero, List.set_cons_succ]
          refine take_at (v := ?_) 19 47 rfl rfl (by kernel_rfl) (by kernel_rfl) (by kernel_rfl) (fun _ _ _ h => h) hHeld (Or.inl ⟨by rfl, ?_⟩) rfl ?_
          rotate_left
          · intro wq hSw
            go_simp
            try with_reducible rfl
          simp only [List.set_cons_zero, List.set_cons_succ]
          refine take_at (v := ?_) 20 48 rfl rfl (by kernel_rfl) (by kernel_rfl) (by kernel_rfl) (fun _ _ _ h => h) hHeld (Or.inl ⟨by rfl, ?_⟩) rfl ?_
          rotate_left
          · intro wq hSw
            have hst := (hSw t16 hn16).trans c16
            go_simp
            try with_reducible rfl
          simp only [List.set_cons_zero, List.set_cons_succ]
          refine wpAnyH_ready (rs := [5]) (by kernel_rfl) (by simp) ?_
          refine AllReadyH.cons rfl (fun K hK => ?_) AllReadyH.nil
          go_simp
          go_at_call 129; refine (slid_any y2 17 19 10 17 19 10 rfl rfl rfl (Or.inl ⟨rfl, rfl, rfl⟩) _).mono ?_; rintro e wx ⟨rfl, rfl⟩
          refine hK.out _ _ (fun _ _ => rfl) (fun _ => ?_)
          clear hK K
          try simp only [Act.put, List.setIfInBounds_toArray, List.set_cons_zero, List.set_cons_succ]
          replace hHeld : CellsBut gW t wn _ := fun _ _ => rfl
          refine take_at (v := ?_) 10 38 rfl rfl (by kernel_rfl) (by kernel_rfl) (by kernel_rfl) (fun _ _ _ h => h) hHeld (Or.inl ⟨by rfl, ?_⟩) rfl ?_
          rotate_left
          · intro wq hSw
            go_simp
            try with_reducible rfl
          simp only [List.set_cons_zero, List.set_cons_succ]
          refine wpAnyH_ready (rs := [15]) (by kernel_rfl) (by simp) ?_
          refine AllReadyH.cons rfl (fun K hK => ?_) AllReadyH.nil
          go_simp
          go_at_call 129; refine (slid_any y15 7 18 3 7 18 3 rfl rfl rfl (Or.inr ⟨rfl, rfl, rfl⟩) _).mono ?_; rintro e wx ⟨rfl, rfl⟩
          refine hK.out _ _ (fun _ _ => rfl) (fun _ => ?_)
          clear hK K
          try simp only [Act.put, List.setIfInBounds_toArray, List.set_cons_zero, List.set_cons_succ]
          replace hHeld : CellsBut gW t wn _ := fun _ _ => rfl
          refine take_at (v := ?_) 16 44 rfl rfl (by kernel_rfl) (by kernel_rfl) (by kernel_rfl) (fun _ _ _ h => h) hHeld (Or.inl ⟨by rfl, ?_⟩) rfl ?_
          rotate_left
          · intro wq hSw
            go_simp
            try with_reducible rfl
          simp only [List.set_cons_zero, List.set_cons_succ]
          refine take_at (v := ?_) 21 49 rfl rfl (by kernel_rfl) (by kernel_rfl) (by kernel_rfl) (fun _ _ _ h => h) hHeld (Or.inl ⟨by rfl, ?_⟩) rfl ?_
          rotate_left
          · intro wq hSw
            go_simp
            try with_reducible rfl
          simp only [List.set_cons_zero, List.set_cons_succ]
          refine take_at (v := ?_) 22 50 rfl rfl (by kernel_rfl) (by kernel_rfl) (by kernel_rfl) (fun _ _ _ h => h) hHeld (Or.inl ⟨by rfl, ?_⟩) rfl ?_
          rotate_left
          · intro wq hSw
            go_simp
            try with_reducible rfl
          simp only [List.set_cons_zero, List.set_cons_succ]
          refine wpAnyH_ready (rs := [23]) (by kernel_rfl) (by simp) ?_
          refine AllReadyH.cons rfl (fun K hK => ?_) AllReadyH.nil
          have cw := hWn.draw.draw.cell_at (wcells_at (Dg.wF (Dg.m b) t) h64)
          have fw := hWn.draw.draw.loose t
          go_simp
          refine hK.out _ _ (fun j hj => ?_) (fun _ => ?_)
          · exact World.cell?_setCell_other (w := _) (a := _) (b := _) (v := _) (fun e => hj (by injection e with _ e; exact e.symm))
          clear hK K
          try simp only [Act.put, List.setIfInBounds_toArray, List.set_cons_zero, List.set_cons_succ]
          refine wpAnyH_done (by kernel_rfl) ?_ _
          have hW2 := hWn.draw.draw.put t (.int .u32 (nb32 ((Dg.ror y2 17 ^^^ Dg.ror y2 19 ^^^ y2 >>> 10) + y7 + (Dg.ror y15 7 ^^^ Dg.ror y15 18 ^^^ y15 >>> 3) + y16)))
          rw [wF_step (Dg.m b) t _ HX.out] at hW2
          go_wp2_with fail
          go_roundw
          case rel => exact ⟨t + 1, by omega, by omega, by go_num, hW2, grown_put7 (grown_drew7 (grown_drew7 hgn)) _ _⟩
          case measure => (simp [intOf]; try omega)
        · have HE2 := Lib.hid (show t = 64 by omega)
          have ht64 : ¬ (t : Int) < 64 := by omega
          rw [HE2.out, wF_all] at hW
          have hR2 := grown_has hgr hRB (by have := HG.out; omega)
          have hB2 := grown_low hBB hgr (by have := HG.out; omega) hBB.size
          have hx := hW.load_agg (P := Tryz.prog) Tryz.underlying164 rfl (by rw [wcells_size]; kernel_rfl)
          have hth := hR2.there 0 (wcells 64 (Dg.sch (Dg.m b))).size (by rw [wcells_size]; decide)
          have hsz : (Tryz.prog.info? 164).map (·.size) = some (wcells 64 (Dg.sch (Dg.m b))).size := by rw [wcells_size]; kernel_rfl
          have hone := wcells_one 64 (Dg.sch (Dg.m b))
          have HT := Lib.hid (And.intro hth (And.intro hsz hone))
          clear hth hsz hone hgr hRB hBB
          go_wp2_with (first
            | (refine wpList_store_mid rfl 164 (.tmp 2) (.tmp 51) rfl (w.heap.size + 1) 0 (wcells 64 (Dg.sch (Dg.m b))) rfl rfl HT.out.1 HT.out.2.1 HT.out.2.2 ?_)
            | (refine wpList_load_run rfl 164 (.tmp 3) rfl _ _ rfl hx ?_))
          have hE := hR2.whole_cs (cs2 := wcells 64 (Dg.sch (Dg.m b))) (by rw [wcells_size]; rfl)
          exact bodyPost_ret (results_one_cell rfl _ _ (w.heap.size + 1) rfl _ (hE.load_var Tryz.underlying164 rfl HT.out.2.1)) rfl ⟨rfl, below_setAll (by omega) _ 0 hB2⟩
end Go.Proofs.YtagjolbpmhbifaaGreatDoor
