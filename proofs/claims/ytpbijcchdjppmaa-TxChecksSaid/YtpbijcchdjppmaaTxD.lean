/- package tx: Same, Copy; what the premise asks (mktxd.py) -/
import Derived.Test.YtpbijcchdjppmaaTxB
import Derived.Test.YtpbijcchdjppmaaTxN
namespace Go.Proofs.Ytpbijcchdjppmaa
open Go Go.RowKit Go.ChangeShapes Go.WideShapes
set_option maxRecDepth 100000 in
set_option maxHeartbeats 16000000 in
theorem eq_sp (a : Option Addr) (n q : Nat) (L : List Tx.Sp) (a' : Option Addr) (n' q' : Nat) (M : List Tx.Sp) (w : World) (h : Recs spRec w a n L) (h' : Recs spRec w a' n' M) :
    Calls Try.prog 27 #[.slice a n q, .slice a' n' q'] w fun e w' => e = .returned (.bool (decide (L = M))) ∧ Below w.heap.size w w' := by
  have hnmx : n ≤ 9223372036854775807 := h.2.1
  by_cases hn : n = n'
  · subst hn
    go_enter Try.func27, Try.ntmps27
    go_wp2
    go_loopw [13] (fun iv wr => ∃ i : Nat, i ≤ n ∧ iv = .int .i64 i ∧ RowKit.Hid (∀ j, j < i → L[j]? = M[j]?) ∧ Below w.heap.size w wr) (fun iv _ => n - (intOf iv).toNat)
    case atStart => exact ⟨0, Nat.zero_le _, rfl, Lib.hid (fun j hj => by omega), Below.refl _ _⟩
    case round =>
      obtain ⟨i, hi, rfl, HJ, hb⟩ := hrel
      by_cases hlt : i < n
      · have hii : (i : Int) < (n : Int) := by omega
        have hi0 : (0 : Int) ≤ (i : Int) := by omega
        obtain ⟨s, hs⟩ := h.get hlt
        obtain ⟨o, ho⟩ := h'.get hlt
        obtain ⟨x, hax, _⟩ := h.2.2.2 i s hs
        obtain ⟨y, hay, _⟩ := h'.2.2.2 i o ho
        subst hax
        subst hay
        have HS := Lib.hid hs
        have HO := Lib.hid ho
        have HOS := Lib.hid (And.intro (h.okay hs) (h'.okay ho))
        clear hs ho
        go_upto_region 6 with fail
        obtain ⟨ws, hws⟩ : ∃ x, x = wr.drew := ⟨_, rfl⟩
        have hbs : Below wr.heap.size wr ws := by rw [hws]; exact (Below.refl _ _).drew
        have lS := fun (wq : World) (hSw : Held ws wq) => spends_at (((h.below hb).below hbs).below hSw) HS.out
        have lO := fun (wq : World) (hSw : Held ws wq) => spends_at (((h'.below hb).below hbs).below hSw) HO.out
        have hbws := hb.trans (hbs.mono hb.size)
        refine wp_region_held_drew (S := Held ws) (by kernel_rfl) (by rw [hws]; exact Held.refl _) (fun hHeld => ?_)
        rw [← hws] at hHeld ⊢
        clear hws hbs
        by_cases hso : s = o
        · have HEQ := Lib.hid (show ∀ w, (binOp .neq 54 (.agg (spCells s).toArray) (.agg (spCells o).toArray)).run Try.prog w = .ok (.bool false) w from fun w => (neq_spend w s o HOS.out.1.1 HOS.out.2.1).trans (by rw [decide_eq_true hso]; rfl))
          refine take_at (v := ?_) 0 16 rfl rfl (by kernel_rfl) (by kernel_rfl) (by kernel_rfl) (fun _ _ _ h => h) hHeld (Or.inl ⟨by rfl, ?_⟩) rfl ?_
          rotate_left
          · intro wq hSw
            go_simp
            try with_reducible rfl
          simp only [List.set_cons_zero, List.set_cons_succ]
          refine take_at (v := ?_) 1 17 rfl rfl (by kernel_rfl) (by kernel_rfl) (by kernel_rfl) (fun _ _ _ h => h) hHeld (Or.inl ⟨by rfl, ?_⟩) rfl ?_
          rotate_left
          · intro wq hSw
            go_simp
            try with_reducible rfl
          simp only [List.set_cons_zero, List.set_cons_succ]
          refine take_at (v := ?_) 2 18 rfl rfl (by kernel_rfl) (by kernel_rfl) (by kernel_rfl) (fun _ _ _ h => h) hHeld (Or.inl ⟨by rfl, ?_⟩) rfl ?_
          rotate_left
          · intro wq hSw
            go_simp
            try with_reducible rfl
          simp only [List.set_cons_zero, List.set_cons_succ]
          refine take_at 3 19 rfl rfl (by kernel_rfl) (by kernel_rfl) (by kernel_rfl) (fun _ _ _ h => h) hHeld (yieldsIf_load_agg (by rfl) 54 (.tmp 18) rfl _ _ (by rfl) (fun wq hSw => lS wq hSw)) rfl ?_
          simp only [List.set_cons_zero, List.set_cons_succ]
          refine take_at (v := ?_) 4 20 rfl rfl (by kernel_rfl) (by kernel_rfl) (by kernel_rfl) (fun _ _ _ h => h) hHeld (Or.inl ⟨by rfl, ?_⟩) rfl ?_
          rotate_left
          · intro wq hSw
            go_simp
            try with_reducible rfl
          simp only [List.set_cons_zero, List.set_cons_succ]
          refine take_at (v := ?_) 5 21 rfl rfl (by kernel_rfl) (by kernel_rfl) (by kernel_rfl) (fun _ _ _ h => h) hHeld (Or.inl ⟨by rfl, ?_⟩) rfl ?_
          rotate_left
          · intro wq hSw
            go_simp
            try with_reducible rfl
          simp only [List.set_cons_zero, List.set_cons_succ]
          refine take_at (v := ?_) 6 22 rfl rfl (by kernel_rfl) (by kernel_rfl) (by kernel_rfl) (fun _ _ _ h => h) hHeld (Or.inl ⟨by rfl, ?_⟩) rfl ?_
          rotate_left
          · intro wq hSw
            go_simp
            try with_reducible rfl
          simp only [List.set_cons_zero, List.set_cons_succ]
          refine take_at 7 23 rfl rfl (by kernel_rfl) (by kernel_rfl) (by kernel_rfl) (fun _ _ _ h => h) hHeld (yieldsIf_load_agg (by rfl) 54 (.tmp 22) rfl _ _ (by rfl) (fun wq hSw => lO wq hSw)) rfl ?_
          simp only [List.set_cons_zero, List.set_cons_succ]
          refine take_at (v := .bool false) 8 24 rfl rfl (by kernel_rfl) (by kernel_rfl) (by kernel_rfl) (fun _ _ _ h => h) hHeld (yieldsIf_bin (by rfl) .neq 54 (.tmp 19) (.tmp 23) _ rfl (spCells s).toArray (spCells o).toArray (by rfl) (by rfl) (by kernel_rfl) _ HEQ.out) rfl ?_
          simp only [List.set_cons_zero, List.set_cons_succ]
          refine wpAnyH_done (by kernel_rfl) ?_ _
          have HJ2 := Lib.hid (show ∀ j, j < i + 1 → L[j]? = M[j]? from fun j hj => by
            rcases Nat.lt_or_ge j i with h | h
            · exact HJ.out j h
            · have e2 : j = i := by omega
              subst e2
              rw [HS.out, HO.out, hso])
          clear hso
          go_wp2
          go_roundw
          case rel => exact ⟨i + 1, by omega, by go_num, HJ2, hbws⟩
          case measure => (simp [intOf]; try omega)
        · have HEQ := Lib.hid (show ∀ w, (binOp .neq 54 (.agg (spCells s).toArray) (.agg (spCells o).toArray)).run Try.prog w = .ok (.bool true) w from fun w => (neq_spend w s o HOS.out.1.1 HOS.out.2.1).trans (by rw [decide_eq_false hso]; rfl))
          have HD := Lib.hid (show decide (L = M) = false from decide_eq_false fun e => hso (by
            have h1 := HS.out
            rw [e, HO.out] at h1
            injection h1 with h1
            exact h1.symm))
          clear hso
          refine take_at (v := ?_) 0 16 rfl rfl (by kernel_rfl) (by kernel_rfl) (by kernel_rfl) (fun _ _ _ h => h) hHeld (Or.inl ⟨by rfl, ?_⟩) rfl ?_
          rotate_left
          · intro wq hSw
            go_simp
            try with_reducible rfl
          simp only [List.set_cons_zero, List.set_cons_succ]
          refine take_at (v := ?_) 1 17 rfl rfl (by kernel_rfl) (by kernel_rfl) (by kernel_rfl) (fun _ _ _ h => h) hHeld (Or.inl ⟨by rfl, ?_⟩) rfl ?_
          rotate_left
          · intro wq hSw
            go_simp
            try with_reducible rfl
          simp only [List.set_cons_zero, List.set_cons_succ]
          refine take_at (v := ?_) 2 18 rfl rfl (by kernel_rfl) (by kernel_rfl) (by kernel_rfl) (fun _ _ _ h => h) hHeld (Or.inl ⟨by rfl, ?_⟩) rfl ?_
          rotate_left
          · intro wq hSw
            go_simp
            try with_reducible rfl
          simp only [List.set_cons_zero, List.set_cons_succ]
          refine take_at 3 19 rfl rfl (by kernel_rfl) (by kernel_rfl) (by kernel_rfl) (fun _ _ _ h => h) hHeld (yieldsIf_load_agg (by rfl) 54 (.tmp 18) rfl _ _ (by rfl) (fun wq hSw => lS wq hSw)) rfl ?_
          simp only [List.set_cons_zero, List.set_cons_succ]
          refine take_at (v := ?_) 4 20 rfl rfl (by kernel_rfl) (by kernel_rfl) (by kernel_rfl) (fun _ _ _ h => h) hHeld (Or.inl ⟨by rfl, ?_⟩) rfl ?_
          rotate_left
          · intro wq hSw
            go_simp
            try with_reducible rfl
          simp only [List.set_cons_zero, List.set_cons_succ]
          refine take_at (v := ?_) 5 21 rfl rfl (by kernel_rfl) (by kernel_rfl) (by kernel_rfl) (fun _ _ _ h => h) hHeld (Or.inl ⟨by rfl, ?_⟩) rfl ?_
          rotate_left
          · intro wq hSw
            go_simp
            try with_reducible rfl
          simp only [List.set_cons_zero, List.set_cons_succ]
          refine take_at (v := ?_) 6 22 rfl rfl (by kernel_rfl) (by kernel_rfl) (by kernel_rfl) (fun _ _ _ h => h) hHeld (Or.inl ⟨by rfl, ?_⟩) rfl ?_
          rotate_left
          · intro wq hSw
            go_simp
            try with_reducible rfl
          simp only [List.set_cons_zero, List.set_cons_succ]
          refine take_at 7 23 rfl rfl (by kernel_rfl) (by kernel_rfl) (by kernel_rfl) (fun _ _ _ h => h) hHeld (yieldsIf_load_agg (by rfl) 54 (.tmp 22) rfl _ _ (by rfl) (fun wq hSw => lO wq hSw)) rfl ?_
          simp only [List.set_cons_zero, List.set_cons_succ]
          refine take_at (v := .bool true) 8 24 rfl rfl (by kernel_rfl) (by kernel_rfl) (by kernel_rfl) (fun _ _ _ h => h) hHeld (yieldsIf_bin (by rfl) .neq 54 (.tmp 19) (.tmp 23) _ rfl (spCells s).toArray (spCells o).toArray (by rfl) (by rfl) (by kernel_rfl) _ HEQ.out) rfl ?_
          simp only [List.set_cons_zero, List.set_cons_succ]
          refine wpAnyH_done (by kernel_rfl) ?_ _
          go_wp2
          go_ret
          exact ⟨by rw [HD.out]; rfl, hbws⟩
      · have hii : ¬ (i : Int) < (n : Int) := by omega
        have hin : i = n := by omega
        have HD := Lib.hid (show decide (L = M) = true from decide_eq_true (List.ext_getElem? fun j => by
          rcases Nat.lt_or_ge j i with h5 | h5
          · exact HJ.out j h5
          · rw [List.getElem?_eq_none (by rw [h.1]; omega), List.getElem?_eq_none (by rw [h'.1]; omega)]))
        clear hin
        go_wp2
        go_ret
        exact ⟨by rw [HD.out]; rfl, hb⟩
  · have HD := Lib.hid (show decide (L = M) = false from decide_eq_false fun e => hn (by rw [← h.1, ← h'.1, e]))
    have hne : ((n : Int) != (n' : Int)) = true := by simp; omega
    go_enter Try.func27, Try.ntmps27
    go_wp2
    go_ret
    exact ⟨by rw [HD.out]; rfl, Below.refl _ _⟩
set_option maxRecDepth 100000 in
set_option maxHeartbeats 16000000 in
theorem eq_co (a : Option Addr) (n q : Nat) (L : List Tx.Co) (a' : Option Addr) (n' q' : Nat) (M : List Tx.Co) (w : World) (h : Recs coRec w a n L) (h' : Recs coRec w a' n' M) :
    Calls Try.prog 28 #[.slice a n q, .slice a' n' q'] w fun e w' => e = .returned (.bool (decide (L = M))) ∧ Below w.heap.size w w' := by
  have hnmx : n ≤ 9223372036854775807 := h.2.1
  by_cases hn : n = n'
  · subst hn
    go_enter Try.func28, Try.ntmps28
    go_wp2
    go_loopw [13] (fun iv wr => ∃ i : Nat, i ≤ n ∧ iv = .int .i64 i ∧ RowKit.Hid (∀ j, j < i → L[j]? = M[j]?) ∧ Below w.heap.size w wr) (fun iv _ => n - (intOf iv).toNat)
    case atStart => exact ⟨0, Nat.zero_le _, rfl, Lib.hid (fun j hj => by omega), Below.refl _ _⟩
    case round =>
      obtain ⟨i, hi, rfl, HJ, hb⟩ := hrel
      by_cases hlt : i < n
      · have hii : (i : Int) < (n : Int) := by omega
        have hi0 : (0 : Int) ≤ (i : Int) := by omega
        obtain ⟨s, hs⟩ := h.get hlt
        obtain ⟨o, ho⟩ := h'.get hlt
        obtain ⟨x, hax, _⟩ := h.2.2.2 i s hs
        obtain ⟨y, hay, _⟩ := h'.2.2.2 i o ho
        subst hax
        subst hay
        have HS := Lib.hid hs
        have HO := Lib.hid ho
        have HOS := Lib.hid (And.intro (h.okay hs) (h'.okay ho))
        clear hs ho
        go_upto_region 6 with fail
        obtain ⟨ws, hws⟩ : ∃ x, x = wr.drew := ⟨_, rfl⟩
        have hbs : Below wr.heap.size wr ws := by rw [hws]; exact (Below.refl _ _).drew
        have lS := fun (wq : World) (hSw : Held ws wq) => coins_at (((h.below hb).below hbs).below hSw) HS.out
        have lO := fun (wq : World) (hSw : Held ws wq) => coins_at (((h'.below hb).below hbs).below hSw) HO.out
        have hbws := hb.trans (hbs.mono hb.size)
        refine wp_region_held_drew (S := Held ws) (by kernel_rfl) (by rw [hws]; exact Held.refl _) (fun hHeld => ?_)
        rw [← hws] at hHeld ⊢
        clear hws hbs
        by_cases hso : s = o
        · have HEQ := Lib.hid (show ∀ w, (binOp .neq 56 (.agg #[.int .i64 s.v, .int .u64 (nb64 s.lock)]) (.agg #[.int .i64 o.v, .int .u64 (nb64 o.lock)])).run Try.prog w = .ok (.bool false) w from fun w => (neq_coin w s o).trans (by rw [decide_eq_true hso]; rfl))
          refine take_at (v := ?_) 0 16 rfl rfl (by kernel_rfl) (by kernel_rfl) (by kernel_rfl) (fun _ _ _ h => h) hHeld (Or.inl ⟨by rfl, ?_⟩) rfl ?_
          rotate_left
          · intro wq hSw
            go_simp
            try with_reducible rfl
          simp only [List.set_cons_zero, List.set_cons_succ]
          refine take_at (v := ?_) 1 17 rfl rfl (by kernel_rfl) (by kernel_rfl) (by kernel_rfl) (fun _ _ _ h => h) hHeld (Or.inl ⟨by rfl, ?_⟩) rfl ?_
          rotate_left
          · intro wq hSw
            go_simp
            try with_reducible rfl
          simp only [List.set_cons_zero, List.set_cons_succ]
          refine take_at (v := ?_) 2 18 rfl rfl (by kernel_rfl) (by kernel_rfl) (by kernel_rfl) (fun _ _ _ h => h) hHeld (Or.inl ⟨by rfl, ?_⟩) rfl ?_
          rotate_left
          · intro wq hSw
            go_simp
            try with_reducible rfl
          simp only [List.set_cons_zero, List.set_cons_succ]
          refine take_at 3 19 rfl rfl (by kernel_rfl) (by kernel_rfl) (by kernel_rfl) (fun _ _ _ h => h) hHeld (yieldsIf_load_agg (by rfl) 56 (.tmp 18) rfl _ _ (by rfl) (fun wq hSw => lS wq hSw)) rfl ?_
          simp only [List.set_cons_zero, List.set_cons_succ]
          refine take_at (v := ?_) 4 20 rfl rfl (by kernel_rfl) (by kernel_rfl) (by kernel_rfl) (fun _ _ _ h => h) hHeld (Or.inl ⟨by rfl, ?_⟩) rfl ?_
          rotate_left
          · intro wq hSw
            go_simp
            try with_reducible rfl
          simp only [List.set_cons_zero, List.set_cons_succ]
          refine take_at (v := ?_) 5 21 rfl rfl (by kernel_rfl) (by kernel_rfl) (by kernel_rfl) (fun _ _ _ h => h) hHeld (Or.inl ⟨by rfl, ?_⟩) rfl ?_
          rotate_left
          · intro wq hSw
            go_simp
            try with_reducible rfl
          simp only [List.set_cons_zero, List.set_cons_succ]
          refine take_at (v := ?_) 6 22 rfl rfl (by kernel_rfl) (by kernel_rfl) (by kernel_rfl) (fun _ _ _ h => h) hHeld (Or.inl ⟨by rfl, ?_⟩) rfl ?_
          rotate_left
          · intro wq hSw
            go_simp
            try with_reducible rfl
          simp only [List.set_cons_zero, List.set_cons_succ]
          refine take_at 7 23 rfl rfl (by kernel_rfl) (by kernel_rfl) (by kernel_rfl) (fun _ _ _ h => h) hHeld (yieldsIf_load_agg (by rfl) 56 (.tmp 22) rfl _ _ (by rfl) (fun wq hSw => lO wq hSw)) rfl ?_
          simp only [List.set_cons_zero, List.set_cons_succ]
          refine take_at (v := .bool false) 8 24 rfl rfl (by kernel_rfl) (by kernel_rfl) (by kernel_rfl) (fun _ _ _ h => h) hHeld (yieldsIf_bin (by rfl) .neq 56 (.tmp 19) (.tmp 23) _ rfl #[.int .i64 s.v, .int .u64 (nb64 s.lock)] #[.int .i64 o.v, .int .u64 (nb64 o.lock)] (by rfl) (by rfl) (by kernel_rfl) _ HEQ.out) rfl ?_
          simp only [List.set_cons_zero, List.set_cons_succ]
          refine wpAnyH_done (by kernel_rfl) ?_ _
          have HJ2 := Lib.hid (show ∀ j, j < i + 1 → L[j]? = M[j]? from fun j hj => by
            rcases Nat.lt_or_ge j i with h | h
            · exact HJ.out j h
            · have e2 : j = i := by omega
              subst e2
              rw [HS.out, HO.out, hso])
          clear hso
          go_wp2
          go_roundw
          case rel => exact ⟨i + 1, by omega, by go_num, HJ2, hbws⟩
          case measure => (simp [intOf]; try omega)
        · have HEQ := Lib.hid (show ∀ w, (binOp .neq 56 (.agg #[.int .i64 s.v, .int .u64 (nb64 s.lock)]) (.agg #[.int .i64 o.v, .int .u64 (nb64 o.lock)])).run Try.prog w = .ok (.bool true) w from fun w => (neq_coin w s o).trans (by rw [decide_eq_false hso]; rfl))
          have HD := Lib.hid (show decide (L = M) = false from decide_eq_false fun e => hso (by
            have h1 := HS.out
            rw [e, HO.out] at h1
            injection h1 with h1
            exact h1.symm))
          clear hso
          refine take_at (v := ?_) 0 16 rfl rfl (by kernel_rfl) (by kernel_rfl) (by kernel_rfl) (fun _ _ _ h => h) hHeld (Or.inl ⟨by rfl, ?_⟩) rfl ?_
          rotate_left
          · intro wq hSw
            go_simp
            try with_reducible rfl
          simp only [List.set_cons_zero, List.set_cons_succ]
          refine take_at (v := ?_) 1 17 rfl rfl (by kernel_rfl) (by kernel_rfl) (by kernel_rfl) (fun _ _ _ h => h) hHeld (Or.inl ⟨by rfl, ?_⟩) rfl ?_
          rotate_left
          · intro wq hSw
            go_simp
            try with_reducible rfl
          simp only [List.set_cons_zero, List.set_cons_succ]
          refine take_at (v := ?_) 2 18 rfl rfl (by kernel_rfl) (by kernel_rfl) (by kernel_rfl) (fun _ _ _ h => h) hHeld (Or.inl ⟨by rfl, ?_⟩) rfl ?_
          rotate_left
          · intro wq hSw
            go_simp
            try with_reducible rfl
          simp only [List.set_cons_zero, List.set_cons_succ]
          refine take_at 3 19 rfl rfl (by kernel_rfl) (by kernel_rfl) (by kernel_rfl) (fun _ _ _ h => h) hHeld (yieldsIf_load_agg (by rfl) 56 (.tmp 18) rfl _ _ (by rfl) (fun wq hSw => lS wq hSw)) rfl ?_
          simp only [List.set_cons_zero, List.set_cons_succ]
          refine take_at (v := ?_) 4 20 rfl rfl (by kernel_rfl) (by kernel_rfl) (by kernel_rfl) (fun _ _ _ h => h) hHeld (Or.inl ⟨by rfl, ?_⟩) rfl ?_
          rotate_left
          · intro wq hSw
            go_simp
            try with_reducible rfl
          simp only [List.set_cons_zero, List.set_cons_succ]
          refine take_at (v := ?_) 5 21 rfl rfl (by kernel_rfl) (by kernel_rfl) (by kernel_rfl) (fun _ _ _ h => h) hHeld (Or.inl ⟨by rfl, ?_⟩) rfl ?_
          rotate_left
          · intro wq hSw
            go_simp
            try with_reducible rfl
          simp only [List.set_cons_zero, List.set_cons_succ]
          refine take_at (v := ?_) 6 22 rfl rfl (by kernel_rfl) (by kernel_rfl) (by kernel_rfl) (fun _ _ _ h => h) hHeld (Or.inl ⟨by rfl, ?_⟩) rfl ?_
          rotate_left
          · intro wq hSw
            go_simp
            try with_reducible rfl
          simp only [List.set_cons_zero, List.set_cons_succ]
          refine take_at 7 23 rfl rfl (by kernel_rfl) (by kernel_rfl) (by kernel_rfl) (fun _ _ _ h => h) hHeld (yieldsIf_load_agg (by rfl) 56 (.tmp 22) rfl _ _ (by rfl) (fun wq hSw => lO wq hSw)) rfl ?_
          simp only [List.set_cons_zero, List.set_cons_succ]
          refine take_at (v := .bool true) 8 24 rfl rfl (by kernel_rfl) (by kernel_rfl) (by kernel_rfl) (fun _ _ _ h => h) hHeld (yieldsIf_bin (by rfl) .neq 56 (.tmp 19) (.tmp 23) _ rfl #[.int .i64 s.v, .int .u64 (nb64 s.lock)] #[.int .i64 o.v, .int .u64 (nb64 o.lock)] (by rfl) (by rfl) (by kernel_rfl) _ HEQ.out) rfl ?_
          simp only [List.set_cons_zero, List.set_cons_succ]
          refine wpAnyH_done (by kernel_rfl) ?_ _
          go_wp2
          go_ret
          exact ⟨by rw [HD.out]; rfl, hbws⟩
      · have hii : ¬ (i : Int) < (n : Int) := by omega
        have hin : i = n := by omega
        have HD := Lib.hid (show decide (L = M) = true from decide_eq_true (List.ext_getElem? fun j => by
          rcases Nat.lt_or_ge j i with h5 | h5
          · exact HJ.out j h5
          · rw [List.getElem?_eq_none (by rw [h.1]; omega), List.getElem?_eq_none (by rw [h'.1]; omega)]))
        clear hin
        go_wp2
        go_ret
        exact ⟨by rw [HD.out]; rfl, hb⟩
  · have HD := Lib.hid (show decide (L = M) = false from decide_eq_false fun e => hn (by rw [← h.1, ← h'.1, e]))
    have hne : ((n : Int) != (n' : Int)) = true := by simp; omega
    go_enter Try.func28, Try.ntmps28
    go_wp2
    go_ret
    exact ⟨by rw [HD.out]; rfl, Below.refl _ _⟩
set_option maxRecDepth 100000 in
set_option maxHeartbeats 16000000 in
theorem psame_any (a : Option Addr) (n q : Nat) (b : Option Addr) (m r : Nat) (t : Tx.T) (a' : Option Addr) (n' q' : Nat) (b' : Option Addr) (m' r' : Nat) (u : Tx.T) (fa fb : Bool) (hfa : fa = t.firm) (hfb : fb = u.firm) (w : World) (ht : TxAt w a n q b m r t) (hu : TxAt w a' n' q' b' m' r' u) :
    Calls Try.prog 13 #[txv a n q b m r fa, txv a' n' q' b' m' r' fb] w fun e w' => e = .returned (.bool (decide (t = u))) ∧ Below w.heap.size w w' := by
  obtain ⟨z, hz⟩ : ∃ z, z = decide (t = u) := ⟨_, rfl⟩
  rw [← hz]
  have HFA := Lib.hid hfa
  have HFB := Lib.hid hfb
  have HZ0 := Lib.hid hz
  clear hfa hfb hz
  obtain ⟨W1, hW1⟩ : ∃ x, x = (w.alloc (.cells #[.slice a n q, .slice b m r, .bool fa] 25)).alloc (.cells #[.slice a' n' q', .slice b' m' r', .bool fb] 25) := ⟨_, rfl⟩
  have hBw : Below w.heap.size w W1 := by
    rw [hW1]
    exact ((Below.refl _ w).alloc (Nat.le_refl _) _).alloc (by simp) _
  have hX : Has W1 w.heap.size 25 #[.slice a n q, .slice b m r, .bool fa] := by rw [hW1]; exact (Has.fresh w _ _).past _
  have hY : Has W1 (w.heap.size + 1) 25 #[.slice a' n' q', .slice b' m' r', .bool fb] := by rw [hW1]; exact Has.fresh_at _ _ _ (by simp)
  have HW := Lib.hid hW1
  clear hW1
  have HX := Lib.hid hX
  have HY := Lib.hid hY
  have HT := Lib.hid (ht.below hBw)
  have HU := Lib.hid (hu.below hBw)
  obtain ⟨g1, hg1⟩ : ∃ g, g = w.heap.size := ⟨_, rfl⟩
  have HG := Lib.hid hg1
  rw [← hg1] at HX HY
  clear hX hY ht hu hg1
  have f0 : W1.cell? ⟨g1, 0, none⟩ = some (.slice a n q) := HX.out.cell_at rfl
  have f1 : W1.cell? ⟨g1, 1, none⟩ = some (.slice b m r) := HX.out.cell_at rfl
  have e0 : W1.cell? ⟨g1 + 1, 0, none⟩ = some (.slice a' n' q') := HY.out.cell_at rfl
  have e1 : W1.cell? ⟨g1 + 1, 1, none⟩ = some (.slice b' m' r') := HY.out.cell_at rfl
  go_enter Try.func13, Try.ntmps13
  go_upto_region 1 with fail
  rw [← HW.out, ← HG.out]
  by_cases hs : t.sp = u.sp
  · have HS := Lib.hid (decide_eq_true hs)
    by_cases hc : t.co = u.co
    · have HC := Lib.hid (decide_eq_true hc)
      have HZ := Lib.hid (show z = decide (fa = fb) by
        rw [HZ0.out, HFA.out, HFB.out]
        by_cases h5 : t.firm = u.firm
        · rw [decide_eq_true h5, decide_eq_true (Tx.t_ext.2 ⟨hs, hc, h5⟩)]
        · rw [decide_eq_false h5, decide_eq_false (fun e => h5 (by rw [e]))])
      clear hs hc
      cases fa <;> cases fb <;>
      · go_wp2_with (first
          | (go_at_call 28; refine (eq_co b m r t.co b' m' r' u.co w2 (HT.out.co.below hb2) (HU.out.co.below hb2)).mono ?_; rw [HC.out]; rintro e w3 ⟨rfl, hb3⟩; have hB3 := hb2.trans (hb3.mono hb2.size); have hX3 := HX.out.under hB3 HX.out.lt; have hY3 := HY.out.under hB3 HY.out.lt; have f4 : w3.cell? ⟨g1, 2, none⟩ = some (.bool _) := hX3.cell_at rfl; have e4 : w3.cell? ⟨g1 + 1, 2, none⟩ = some (.bool _) := hY3.cell_at rfl)
          | (go_at_call 27; refine (eq_sp a n q t.sp a' n' q' u.sp W1 HT.out.sp HU.out.sp).mono ?_; rw [HS.out]; rintro e w2 ⟨rfl, hb2⟩; have hX2 := HX.out.under hb2 HX.out.lt; have hY2 := HY.out.under hb2 HY.out.lt; have f3 : w2.cell? ⟨g1, 1, none⟩ = some (.slice b m r) := hX2.cell_at rfl; have e3 : w2.cell? ⟨g1 + 1, 1, none⟩ = some (.slice b' m' r') := hY2.cell_at rfl))
        go_ret
        exact ⟨by rw [HZ.out]; rfl, hBw.trans (hB3.mono hBw.size)⟩
    · have HC := Lib.hid (decide_eq_false hc)
      obtain rfl : z = false := by rw [HZ0.out, decide_eq_false (fun e => hc (by rw [e]))]
      clear hs hc
      go_wp2_with (first
        | (go_at_call 28; refine (eq_co b m r t.co b' m' r' u.co w2 (HT.out.co.below hb2) (HU.out.co.below hb2)).mono ?_; rw [HC.out]; rintro e w3 ⟨rfl, hb3⟩; have hB3 := hb2.trans (hb3.mono hb2.size); have hX3 := HX.out.under hB3 HX.out.lt; have hY3 := HY.out.under hB3 HY.out.lt; have f4 : w3.cell? ⟨g1, 2, none⟩ = some (.bool _) := hX3.cell_at rfl; have e4 : w3.cell? ⟨g1 + 1, 2, none⟩ = some (.bool _) := hY3.cell_at rfl)
        | (go_at_call 27; refine (eq_sp a n q t.sp a' n' q' u.sp W1 HT.out.sp HU.out.sp).mono ?_; rw [HS.out]; rintro e w2 ⟨rfl, hb2⟩; have hX2 := HX.out.under hb2 HX.out.lt; have hY2 := HY.out.under hb2 HY.out.lt; have f3 : w2.cell? ⟨g1, 1, none⟩ = some (.slice b m r) := hX2.cell_at rfl; have e3 : w2.cell? ⟨g1 + 1, 1, none⟩ = some (.slice b' m' r') := hY2.cell_at rfl))
      go_ret
      exact ⟨rfl, hBw.trans (hB3.mono hBw.size)⟩
  · have HS := Lib.hid (decide_eq_false hs)
    obtain rfl : z = false := by rw [HZ0.out, decide_eq_false (fun e => hs (by rw [e]))]
    clear hs
    go_wp2_with (first
      | (go_at_call 27; refine (eq_sp a n q t.sp a' n' q' u.sp W1 HT.out.sp HU.out.sp).mono ?_; rw [HS.out]; rintro e w2 ⟨rfl, hb2⟩; have hX2 := HX.out.under hb2 HX.out.lt; have hY2 := HY.out.under hb2 HY.out.lt; have f3 : w2.cell? ⟨g1, 1, none⟩ = some (.slice b m r) := hX2.cell_at rfl; have e3 : w2.cell? ⟨g1 + 1, 1, none⟩ = some (.slice b' m' r') := hY2.cell_at rfl))
    go_ret
    exact ⟨rfl, hBw.trans (hb2.mono hBw.size)⟩
set_option maxRecDepth 100000 in
set_option maxHeartbeats 16000000 in
theorem clone_sp (a : Option Addr) (n c : Nat) (L : List Tx.Sp) (w : World) (h : Recs spRec w a n L) (hc : a = none → c = 0) (hn : n ≤ 1000000000) :
    Calls Try.prog 51 #[.slice a n c] w fun e w' => ∃ v, e = .returned v ∧ OwnR spRec 54 w.heap.size w' v L ∧ Below w.heap.size w w' := by
  cases a with
  | none =>
    obtain rfl := hc rfl
    have h0 : n = 0 := by
      rcases Nat.eq_zero_or_pos n with h0 | h0
      · exact h0
      · obtain ⟨s, hs⟩ := h.get h0
        obtain ⟨_, e, _⟩ := h.2.2.2 0 s hs
        cases e
    subst h0
    obtain rfl := List.length_eq_zero_iff.1 h.1
    have hq := Lib.run_eql_slice_nil (P := Try.prog) w 22 54 none 0 0 0 0 Try.underlying22
    go_enter Try.func51, Try.ntmps51
    go_wp2
    go_ret
    exact ⟨_, rfl, OwnR.nil _ _ _ _, Below.refl _ _⟩
  | some x =>
    have HB := Lib.hid ((Below.refl w.heap.size w).alloc (Nat.le_refl _) (.cells #[] 54))
    have HO := Lib.hid (show OwnR spRec 54 w.heap.size (w.alloc (.cells #[] 54)) (.slice (some ⟨w.heap.size, 0, none⟩) 0 0) [] from OwnR.empty (Nat.le_refl _) (Has.fresh _ _ _))
    have HA := Lib.hid (h.past (.cells #[] 54))
    have HN := Lib.hid hn
    have hq := Lib.run_eql_slice_nil (P := Try.prog) w 22 54 (some x) n c 0 0 Try.underlying22
    clear h hn hc
    go_enter Try.func51, Try.ntmps51
    go_wp2_with (at_builtin; refine wpList_append_recs (R := spRec) rfl (.tmp 5) (.tmp 6) 22 rfl 54 Try.underlying22 info_spend rfl (by decide) w.heap.size _ [] rfl HO.out (some x) n c L rfl HA.out (fun e => by cases e) (by have := HN.out; simp; omega) (by simp) ?_; intro v3 w3 ho3 hg3 hl3)
    go_ret
    rw [List.nil_append] at ho3
    exact ⟨_, rfl, ho3, below_own_recs HB.out hg3 HO.out.lt⟩
set_option maxRecDepth 100000 in
set_option maxHeartbeats 16000000 in
theorem clone_co (a : Option Addr) (n c : Nat) (L : List Tx.Co) (w : World) (h : Recs coRec w a n L) (hc : a = none → c = 0) (hn : n ≤ 1000000000) :
    Calls Try.prog 52 #[.slice a n c] w fun e w' => ∃ v, e = .returned v ∧ OwnR coRec 56 w.heap.size w' v L ∧ Below w.heap.size w w' := by
  cases a with
  | none =>
    obtain rfl := hc rfl
    have h0 : n = 0 := by
      rcases Nat.eq_zero_or_pos n with h0 | h0
      · exact h0
      · obtain ⟨s, hs⟩ := h.get h0
        obtain ⟨_, e, _⟩ := h.2.2.2 0 s hs
        cases e
    subst h0
    obtain rfl := List.length_eq_zero_iff.1 h.1
    have hq := Lib.run_eql_slice_nil (P := Try.prog) w 23 56 none 0 0 0 0 Try.underlying23
    go_enter Try.func52, Try.ntmps52
    go_wp2
    go_ret
    exact ⟨_, rfl, OwnR.nil _ _ _ _, Below.refl _ _⟩
  | some x =>
    have HB := Lib.hid ((Below.refl w.heap.size w).alloc (Nat.le_refl _) (.cells #[] 56))
    have HO := Lib.hid (show OwnR coRec 56 w.heap.size (w.alloc (.cells #[] 56)) (.slice (some ⟨w.heap.size, 0, none⟩) 0 0) [] from OwnR.empty (Nat.le_refl _) (Has.fresh _ _ _))
    have HA := Lib.hid (h.past (.cells #[] 56))
    have HN := Lib.hid hn
    have hq := Lib.run_eql_slice_nil (P := Try.prog) w 23 56 (some x) n c 0 0 Try.underlying23
    clear h hn hc
    go_enter Try.func52, Try.ntmps52
    go_wp2_with (at_builtin; refine wpList_append_recs (R := coRec) rfl (.tmp 5) (.tmp 6) 23 rfl 56 Try.underlying23 info_coin rfl (by decide) w.heap.size _ [] rfl HO.out (some x) n c L rfl HA.out (fun e => by cases e) (by have := HN.out; simp; omega) (by simp) ?_; intro v3 w3 ho3 hg3 hl3)
    go_ret
    rw [List.nil_append] at ho3
    exact ⟨_, rfl, ho3, below_own_recs HB.out hg3 HO.out.lt⟩
set_option maxRecDepth 100000 in
set_option maxHeartbeats 16000000 in
theorem pcopy_any (a : Option Addr) (n q : Nat) (b : Option Addr) (m r : Nat) (t : Tx.T) (f : Bool) (hf : f = t.firm) (w : World) (ht : TxAt w a n q b m r t) (hn : n ≤ 1000000000) (hm : m ≤ 1000000000) :
    Calls Try.prog 20 #[txv a n q b m r f] w (CopyPost n m t w) := by
  have HF := Lib.hid hf
  obtain ⟨W1, hW1⟩ : ∃ x, x = (w.alloc (.cells #[.slice a n q, .slice b m r, .bool f] 25)).alloc (.cells zTx 25) := ⟨_, rfl⟩
  have hBw : Below w.heap.size w W1 := by
    rw [hW1]
    exact ((Below.refl _ w).alloc (Nat.le_refl _) _).alloc (by simp) _
  have hX : Has W1 w.heap.size 25 #[.slice a n q, .slice b m r, .bool f] := by rw [hW1]; exact (Has.fresh w _ _).past _
  have hR : Has W1 (w.heap.size + 1) 25 zTx := by rw [hW1]; exact Has.fresh_at _ _ _ (by simp)
  have HW := Lib.hid hW1
  have HN := Lib.hid (And.intro hn hm)
  clear hW1 hf hn hm
  go_enter Try.func20, Try.ntmps20
  go_upto_region 1 with fail
  rw [← HW.out]
  obtain ⟨g1, hg1⟩ : ∃ g, g = w.heap.size := ⟨_, rfl⟩
  have HG := Lib.hid hg1
  rw [← hg1] at hX hR ⊢
  clear hg1
  obtain ⟨ws, hws⟩ : ∃ x, x = W1.drew := ⟨_, rfl⟩
  have hbs : Below W1.heap.size W1 ws := by rw [hws]; exact (Below.refl _ _).drew
  have HXs := Lib.hid (hX.under hbs hX.lt)
  have HRs := Lib.hid (hR.under hbs hR.lt)
  have hBs := hBw.trans (hbs.mono hBw.size)
  have HTs := Lib.hid (ht.below hBs)
  refine wp_region_held_drew (S := HeldM (fun k => k = g1 + 1) ws) (by kernel_rfl) (by rw [hws]; exact HeldM.refl _ _) (fun hHeld => ?_)
  rw [← hws] at hHeld ⊢
  clear hws hbs hX hR ht
  refine take_at (v := ?_) 0 3 rfl rfl (by kernel_rfl) (by kernel_rfl) (by kernel_rfl) (fun _ _ _ h => h) hHeld (Or.inl ⟨by rfl, ?_⟩) rfl ?_
  rotate_left
  · intro wq hSw
    go_simp
    try with_reducible rfl
  simp only [List.set_cons_zero, List.set_cons_succ]
  refine take_at (v := ?_) 1 4 rfl rfl (by kernel_rfl) (by kernel_rfl) (by kernel_rfl) (fun _ _ _ h => h) hHeld (Or.inl ⟨by rfl, ?_⟩) rfl ?_
  rotate_left
  · intro wq hSw
    have hst := (HXs.out.moved hSw.out (fun e => absurd e (Nat.ne_of_lt (Nat.lt_succ_self _)))).cell_at (i := 0) rfl
    go_simp
    try with_reducible rfl
  simp only [List.set_cons_zero, List.set_cons_succ]
  refine take_at (v := ?_) 3 6 rfl rfl (by kernel_rfl) (by kernel_rfl) (by kernel_rfl) (fun _ _ _ h => h) hHeld (Or.inl ⟨by rfl, ?_⟩) rfl ?_
  rotate_left
  · intro wq hSw
    go_simp
    try with_reducible rfl
  simp only [List.set_cons_zero, List.set_cons_succ]
  refine take_at (v := ?_) 4 7 rfl rfl (by kernel_rfl) (by kernel_rfl) (by kernel_rfl) (fun _ _ _ h => h) hHeld (Or.inl ⟨by rfl, ?_⟩) rfl ?_
  rotate_left
  · intro wq hSw
    have hst := (HXs.out.moved hSw.out (fun e => absurd e (Nat.ne_of_lt (Nat.lt_succ_self _)))).cell_at (i := 1) rfl
    go_simp
    try with_reducible rfl
  simp only [List.set_cons_zero, List.set_cons_succ]
  refine take_at (v := ?_) 6 9 rfl rfl (by kernel_rfl) (by kernel_rfl) (by kernel_rfl) (fun _ _ _ h => h) hHeld (Or.inl ⟨by rfl, ?_⟩) rfl ?_
  rotate_left
  · intro wq hSw
    go_simp
    try with_reducible rfl
  simp only [List.set_cons_zero, List.set_cons_succ]
  refine take_at (v := ?_) 7 10 rfl rfl (by kernel_rfl) (by kernel_rfl) (by kernel_rfl) (fun _ _ _ h => h) hHeld (Or.inl ⟨by rfl, ?_⟩) rfl ?_
  rotate_left
  · intro wq hSw
    have hst := (HXs.out.moved hSw.out (fun e => absurd e (Nat.ne_of_lt (Nat.lt_succ_self _)))).cell_at (i := 2) rfl
    go_simp
    try with_reducible rfl
  simp only [List.set_cons_zero, List.set_cons_succ]
  refine wpAnyH_ready (rs := [2]) (by kernel_rfl) (by simp) ?_
  refine AllReadyH.cons rfl (fun K hK => ?_) AllReadyH.nil
  go_simp
  go_at_call 51; refine (clone_sp a n q t.sp ws HTs.out.sp HTs.out.q0 HN.out.1).mono ?_; rintro e w2 ⟨v2, rfl, ho2, hb2⟩; obtain ⟨oa, oc, rfl, _, _, _, _⟩ := ho2.shape HTs.out.sp.1
  refine hK.out _ _ (HeldM.of (Moved.of_below hb2)) (fun _ => ?_)
  clear hK K
  try simp only [Act.put, List.setIfInBounds_toArray, List.set_cons_zero, List.set_cons_succ]
  refine heldM_grow (w1 := w2) (Moved.of_below hb2) ?_
  clear hHeld
  have hHeld : HeldM (fun k => k = g1 + 1) w2 w2 := HeldM.refl _ _
  refine wpAnyH_ready (rs := [5]) (by kernel_rfl) (by simp) ?_
  refine AllReadyH.cons rfl (fun K hK => ?_) AllReadyH.nil
  go_simp
  go_at_call 52; refine (clone_co b m r t.co w2 (HTs.out.co.below hb2) HTs.out.r0 HN.out.2).mono ?_; rintro e w3 ⟨v3, rfl, ho3, hb3⟩; obtain ⟨ob, od, rfl, _, _, _, _⟩ := ho3.shape HTs.out.co.1
  refine hK.out _ _ (HeldM.of (Moved.of_below hb3)) (fun _ => ?_)
  clear hK K
  try simp only [Act.put, List.setIfInBounds_toArray, List.set_cons_zero, List.set_cons_succ]
  refine heldM_grow (w1 := w3) (Moved.of_below hb3) ?_
  clear hHeld
  have hHeld : HeldM (fun k => k = g1 + 1) w3 w3 := HeldM.refl _ _
  have hB3 := hb2.trans (hb3.mono hb2.size)
  have hR3 := HRs.out.under hB3 HRs.out.lt
  refine take_at (v := ?_) 8 11 rfl rfl (by kernel_rfl) (by kernel_rfl) (by kernel_rfl) (fun _ _ _ h => h) hHeld (Or.inl ⟨by rfl, ?_⟩) rfl ?_
  rotate_left
  · intro wq hSw
    go_simp
    try with_reducible rfl
  simp only [List.set_cons_zero, List.set_cons_succ]
  refine wpAnyH_ready (rs := [9]) (by kernel_rfl) (by simp) ?_
  refine AllReadyH.cons rfl (fun K hK => ?_) AllReadyH.nil
  refine step_store_row (by rfl) 25 (.tmp 2) (.tmp 11) rfl (g1 + 1) 0 (#[.slice oa n oc, .slice ob m od, .bool f]) (by first | rfl | simp [Act.eval]) (by first | rfl | simp [Act.eval]) (hR3.there 0 3 (Nat.le_refl _)) (by kernel_rfl) (vRec.all_one ⟨oa, n, oc, ob, m, od, ⟨[], [], f⟩⟩) rfl ?_
  obtain ⟨w6, hw6⟩ : ∃ ww, ww = w3.setCells (g1 + 1) 0 (#[.slice oa n oc, .slice ob m od, .bool f]).toList := ⟨_, rfl⟩
  rw [← hw6]
  have hmw6 : Moved (fun k => k = g1 + 1) w3 w6 := by rw [hw6]; exact Moved.putAll (F := fun k => k = g1 + 1) (.inl rfl) _ 0 (Moved.refl _ _)
  refine hK.out _ _ (HeldM.of hmw6) (fun _ => ?_)
  clear hK K
  refine heldM_grow (w1 := w6) hmw6 ?_
  clear hHeld
  have hHeld : HeldM (fun k => k = g1 + 1) w6 w6 := HeldM.refl _ _
  refine wpAnyH_done (by kernel_rfl) ?_ _
  go_wp2
  have hw7 : w6 = w3.setCells (g1 + 1) 0 [.slice oa n oc, .slice ob m od, .bool f] := hw6
  rw [← hw7]
  have hR6 : Has w6 (g1 + 1) 25 #[.slice oa n oc, .slice ob m od, .bool f] := by rw [hw6]; exact hR3.whole_cs rfl
  have hM6 : Moved (fun k => k = g1 + 1) w3 w6 := by rw [hw6]; exact Moved.putAll (F := fun k => k = g1 + 1) (.inl rfl) _ 0 (Moved.refl _ _)
  have hlt := HRs.out.lt
  have ho6 := (ho2.below hb3).moved hM6 (fun k hk e => by have := ho2.lt k hk; omega)
  have hc6 := ho3.moved hM6 (fun k hk e => by have := ho3.lt k hk; have := hb2.size; omega)
  have hBB := hBs.trans (hB3.mono hBs.size)
  refine bodyPost_ret (results_one_cell rfl _ _ (g1 + 1) rfl _ (hR6.load_var Try.underlying25 rfl (by kernel_rfl))) rfl ⟨oa, oc, ob, od, by rw [HF.out], ⟨ho6.low hBs.size, hc6.low (Nat.le_trans hBs.size hb2.size)⟩, ?_⟩
  rw [hw6]
  exact below_setAll (by have := HG.out; omega) _ 0 hBB
theorem txOk : TxOk where
  al := {
    check := fun a n q b m r t w ht hs => pcheck_any a n q b m r t t.firm w ht (by have := hs.2.1; have := ht.co.1; omega)
    base := fun a n q b m r t w ht hs => (pbase_any a n q b m r t t.firm rfl w ht hs).mono (fun e w' h => by
      obtain ⟨v, rfl, ho, hb⟩ := h
      obtain ⟨x, c, rfl, hc, h0, hB⟩ := ho.shape rfl
      exact ⟨x, _, c, rfl, hB, hc, h0, hb⟩)
    bytes := fun a n q b m r t w ht hs => (pbytes_any a n q b m r t t.firm rfl w ht hs).mono (fun e w' h => by
      obtain ⟨v, rfl, ho, hb⟩ := h
      obtain ⟨x, c, rfl, hc, h0, hB⟩ := ho.shape rfl
      exact ⟨x, _, c, rfl, hB, hc, h0, hb⟩)
    weight := fun a n q b m r t w ht hs => pweight_any a n q b m r t t.firm rfl w ht hs }
  out := fun a n q b m r t w ht hs => pout_any a n q b m r t t.firm w ht (by have := hs.2.1; have := ht.co.1; omega)
  same := fun a n q b m r t a' n' q' b' m' r' u w ht hu _ _ => psame_any a n q b m r t a' n' q' b' m' r' u t.firm u.firm rfl rfl w ht hu
  copy := fun a n q b m r t w ht hs => pcopy_any a n q b m r t t.firm rfl w ht (by have := hs.1; have := ht.sp.1; omega) (by have := hs.2.1; have := ht.co.1; omega)
end Go.Proofs.Ytpbijcchdjppmaa
