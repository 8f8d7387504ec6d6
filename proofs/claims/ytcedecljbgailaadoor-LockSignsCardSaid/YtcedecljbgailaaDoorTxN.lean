/- two transactions compared: gossamernum's Tx (mktxn.py) -/
import Derived.Test.YtcedecljbgailaaDoorTxL
import Derived.Test.YtcedecljbgailaaDoorLz
namespace Go.Proofs.YtcedecljbgailaaDoor
open Go Go.RowKit Go.ChangeShapes Go.WideShapes
theorem yieldsIf_bin {P : Program} {ops : Array Oper} {S : World → Prop} {op : Oper} {a : Act} (hw : Region.wanted op (yielded ops a.tmps) = true) (k : BinOp) (t : TypeId) (x y : Operand) (yt : TypeId) (ho : op.op = .binOp k t x y yt)
    (X Y : Array Value) (hx : a.eval x = .agg X) (hy : a.eval y = .agg Y) (hg : P.eqGuardType P.depth t = false) (v : Value) (hr : ∀ w, (binOp k t (.agg X) (.agg Y)).run P w = .ok v w) : YieldsIf P ops S op v a :=
  .inl ⟨hw, fun w _ => by
    unfold execOp
    simp only [ho, hx, hy, Sem.run_bind, run_eqGuard_agg w k t x y _ _ hg, Result.andThen_ok, hr w, Sem.run_pure]⟩
section
variable {w : World} {x : Addr} {n i : Nat}
theorem spends_at {L : List Tx.Sp} {s : Tx.Sp} (h : Recs spRec w (some x) n L) (hi : L[i]? = some s) : (Instr.loadAt 28 (.pointer (some (x.add (i * 35))))).run Tryd.prog w = .ok (.agg (spCells s).toArray) w :=
  h.load_at Tryd.underlying28 rfl size_spend hi
theorem coins_at {L : List Tx.Co} {c : Tx.Co} (h : Recs coRec w (some x) n L) (hi : L[i]? = some c) : (Instr.loadAt 30 (.pointer (some (x.add (i * 2))))).run Tryd.prog w = .ok (.agg #[.int .i64 c.v, .int .u64 (nb64 c.lock)]) w :=
  h.load_at Tryd.underlying30 rfl size_coin hi
end
set_option maxRecDepth 100000 in
set_option maxHeartbeats 8000000 in
theorem txeq_any (a : Option Addr) (n q : Nat) (b : Option Addr) (m r : Nat) (t : Tx.T) (a' : Option Addr) (n' q' : Nat) (b' : Option Addr) (m' r' : Nat) (u : Tx.T) (w : World) (ht : TxAt w a n q b m r t) (hu : TxAt w a' n' q' b' m' r' u) :
    Calls Tryd.prog 16 #[txv a n q b m r t.firm, txv a' n' q' b' m' r' u.firm] w fun e w' => e = .returned (.bool (decide (t = u))) ∧ Below w.heap.size w w' := by
  have hnmx : n ≤ 9223372036854775807 := ht.sp.2.1
  have hmmx : m ≤ 9223372036854775807 := ht.co.2.1
  by_cases hn : n = n'
  · subst hn
    by_cases hm : m = m'
    · subst hm
      by_cases hf : t.firm = u.firm
      · have HFF := Lib.hid hf
        rw [← hf]
        obtain ⟨f, hff⟩ : ∃ f, f = t.firm := ⟨_, rfl⟩
        rw [← hff]
        clear hff hf
        have hHX := Lib.hid ht
        have hHY := Lib.hid hu
        clear ht hu
        go_enter Tryd.func16, Tryd.ntmps16
        go_upto_region 1 with fail
        obtain ⟨W1, hW1⟩ : ∃ x, x = (w.alloc (.cells #[.slice a n q, .slice b m r, .bool f] 38)).alloc (.cells #[.slice a' n q', .slice b' m r', .bool f] 38) := ⟨_, rfl⟩
        have hBw : Below w.heap.size w W1 := by
          rw [hW1]
          exact ((Below.refl _ w).alloc (Nat.le_refl _) _).alloc (by simp) _
        have hX : Has W1 w.heap.size 38 #[.slice a n q, .slice b m r, .bool f] := by rw [hW1]; exact (Has.fresh w _ _).past _
        have hY : Has W1 (w.heap.size + 1) 38 #[.slice a' n q', .slice b' m r', .bool f] := by rw [hW1]; exact Has.fresh_at _ _ _ (by simp)
        rw [← hW1]
        clear hW1
        have f0 : W1.cell? ⟨w.heap.size, 0, none⟩ = some (.slice a n q) := hX.cell_at rfl
        have f1 : W1.cell? ⟨w.heap.size, 1, none⟩ = some (.slice b m r) := hX.cell_at rfl
        have f2 : W1.cell? ⟨w.heap.size, 2, none⟩ = some (.bool f) := hX.cell_at rfl
        have g0 : W1.cell? ⟨w.heap.size + 1, 0, none⟩ = some (.slice a' n q') := hY.cell_at rfl
        have g1 : W1.cell? ⟨w.heap.size + 1, 1, none⟩ = some (.slice b' m r') := hY.cell_at rfl
        have g2 : W1.cell? ⟨w.heap.size + 1, 2, none⟩ = some (.bool f) := hY.cell_at rfl
        replace hHX := Lib.hid (hHX.out.below hBw)
        replace hHY := Lib.hid (hHY.out.below hBw)
        go_wp2
        go_loopw [33] (fun iv wr => ∃ i : Nat, i ≤ n ∧ iv = .int .i64 i ∧ RowKit.Hid (∀ j, j < i → t.sp[j]? = u.sp[j]?) ∧ Below W1.heap.size W1 wr) (fun iv _ => n - (intOf iv).toNat)
        case atStart => exact ⟨0, Nat.zero_le _, rfl, Lib.hid (fun j hj => by omega), Below.refl _ _⟩
        case round =>
          obtain ⟨i, hi, rfl, HJ, hb⟩ := hrel
          by_cases hlt : i < n
          · have hii : (i : Int) < (n : Int) := by omega
            have hi0 : (0 : Int) ≤ (i : Int) := by omega
            obtain ⟨s, hs⟩ := hHX.out.sp.get hlt
            obtain ⟨o, ho⟩ := hHY.out.sp.get hlt
            obtain ⟨x, hax, _⟩ := hHX.out.sp.2.2.2 i s hs
            obtain ⟨y, hay, _⟩ := hHY.out.sp.2.2.2 i o ho
            subst hax
            subst hay
            have HS := Lib.hid hs
            have HO := Lib.hid ho
            have HOS := Lib.hid (And.intro (hHX.out.sp.okay hs) (hHY.out.sp.okay ho))
            clear hs ho
            go_upto_region 6 with fail
            obtain ⟨ws, hws⟩ : ∃ x, x = wr.drew := ⟨_, rfl⟩
            have hbs : Below wr.heap.size wr ws := by rw [hws]; exact (Below.refl _ _).drew
            have hXs := (hX.under hb hX.lt).under hbs (hX.under hb hX.lt).lt
            have hYs := (hY.under hb hY.lt).under hbs (hY.under hb hY.lt).lt
            have lS := fun (wq : World) (hSw : Held ws wq) => spends_at (((hHX.out.sp.below hb).below hbs).below hSw) HS.out
            have lO := fun (wq : World) (hSw : Held ws wq) => spends_at (((hHY.out.sp.below hb).below hbs).below hSw) HO.out
            have hbws := hb.trans (hbs.mono hb.size)
            refine wp_region_held_drew (S := Held ws) (by kernel_rfl) (by rw [hws]; exact Held.refl _) (fun hHeld => ?_)
            rw [← hws] at hHeld ⊢
            clear hws hbs
            by_cases hso : s = o
            · have HEQ := Lib.hid (show ∀ w, (binOp .neq 28 (.agg (spCells s).toArray) (.agg (spCells o).toArray)).run Tryd.prog w = .ok (.bool false) w from fun w => (neq_spend w s o HOS.out.1.1 HOS.out.2.1).trans (by rw [decide_eq_true hso]; rfl))
              refine take_at (v := ?_) 0 36 rfl rfl (by kernel_rfl) (by kernel_rfl) (by kernel_rfl) (fun _ _ _ h => h) hHeld (Or.inl ⟨by rfl, ?_⟩) rfl ?_
              rotate_left
              · intro wq hSw
                go_simp
                try with_reducible rfl
              simp only [List.set_cons_zero, List.set_cons_succ]
              refine take_at (v := ?_) 1 37 rfl rfl (by kernel_rfl) (by kernel_rfl) (by kernel_rfl) (fun _ _ _ h => h) hHeld (Or.inl ⟨by rfl, ?_⟩) rfl ?_
              rotate_left
              · intro wq hSw
                have hst := (hXs.under hSw hXs.lt).cell_at (i := 0) rfl
                go_simp
                try with_reducible rfl
              simp only [List.set_cons_zero, List.set_cons_succ]
              refine take_at (v := ?_) 2 38 rfl rfl (by kernel_rfl) (by kernel_rfl) (by kernel_rfl) (fun _ _ _ h => h) hHeld (Or.inl ⟨by rfl, ?_⟩) rfl ?_
              rotate_left
              · intro wq hSw
                go_simp
                try with_reducible rfl
              simp only [List.set_cons_zero, List.set_cons_succ]
              refine take_at (v := ?_) 3 39 rfl rfl (by kernel_rfl) (by kernel_rfl) (by kernel_rfl) (fun _ _ _ h => h) hHeld (Or.inl ⟨by rfl, ?_⟩) rfl ?_
              rotate_left
              · intro wq hSw
                go_simp
                try with_reducible rfl
              simp only [List.set_cons_zero, List.set_cons_succ]
              refine take_at 4 40 rfl rfl (by kernel_rfl) (by kernel_rfl) (by kernel_rfl) (fun _ _ _ h => h) hHeld (yieldsIf_load_agg (by rfl) 28 (.tmp 39) rfl _ _ (by rfl) (fun wq hSw => lS wq hSw)) rfl ?_
              simp only [List.set_cons_zero, List.set_cons_succ]
              refine take_at (v := ?_) 5 41 rfl rfl (by kernel_rfl) (by kernel_rfl) (by kernel_rfl) (fun _ _ _ h => h) hHeld (Or.inl ⟨by rfl, ?_⟩) rfl ?_
              rotate_left
              · intro wq hSw
                go_simp
                try with_reducible rfl
              simp only [List.set_cons_zero, List.set_cons_succ]
              refine take_at (v := ?_) 6 42 rfl rfl (by kernel_rfl) (by kernel_rfl) (by kernel_rfl) (fun _ _ _ h => h) hHeld (Or.inl ⟨by rfl, ?_⟩) rfl ?_
              rotate_left
              · intro wq hSw
                have hst := (hYs.under hSw hYs.lt).cell_at (i := 0) rfl
                go_simp
                try with_reducible rfl
              simp only [List.set_cons_zero, List.set_cons_succ]
              refine take_at (v := ?_) 7 43 rfl rfl (by kernel_rfl) (by kernel_rfl) (by kernel_rfl) (fun _ _ _ h => h) hHeld (Or.inl ⟨by rfl, ?_⟩) rfl ?_
              rotate_left
              · intro wq hSw
                go_simp
                try with_reducible rfl
              simp only [List.set_cons_zero, List.set_cons_succ]
              refine take_at (v := ?_) 8 44 rfl rfl (by kernel_rfl) (by kernel_rfl) (by kernel_rfl) (fun _ _ _ h => h) hHeld (Or.inl ⟨by rfl, ?_⟩) rfl ?_
              rotate_left
              · intro wq hSw
                go_simp
                try with_reducible rfl
              simp only [List.set_cons_zero, List.set_cons_succ]
              refine take_at 9 45 rfl rfl (by kernel_rfl) (by kernel_rfl) (by kernel_rfl) (fun _ _ _ h => h) hHeld (yieldsIf_load_agg (by rfl) 28 (.tmp 44) rfl _ _ (by rfl) (fun wq hSw => lO wq hSw)) rfl ?_
              simp only [List.set_cons_zero, List.set_cons_succ]
              refine take_at (v := .bool false) 10 46 rfl rfl (by kernel_rfl) (by kernel_rfl) (by kernel_rfl) (fun _ _ _ h => h) hHeld (yieldsIf_bin (by rfl) .neq 28 (.tmp 40) (.tmp 45) _ rfl (spCells s).toArray (spCells o).toArray (by rfl) (by rfl) (by kernel_rfl) _ HEQ.out) rfl ?_
              simp only [List.set_cons_zero, List.set_cons_succ]
              refine wpAnyH_done (by kernel_rfl) ?_ _
              have HJ2 := Lib.hid (show ∀ j, j < i + 1 → t.sp[j]? = u.sp[j]? from fun j hj => by
                rcases Nat.lt_or_ge j i with h | h
                · exact HJ.out j h
                · have e2 : j = i := by omega
                  subst e2
                  rw [HS.out, HO.out, hso])
              clear hso
              go_wp2
              go_roundw
              case rel => exact ⟨i + 1, by omega, by go_num, HJ2, hbws⟩
              case measure => (simp [intOf]; try omega)
            · have HEQ := Lib.hid (show ∀ w, (binOp .neq 28 (.agg (spCells s).toArray) (.agg (spCells o).toArray)).run Tryd.prog w = .ok (.bool true) w from fun w => (neq_spend w s o HOS.out.1.1 HOS.out.2.1).trans (by rw [decide_eq_false hso]; rfl))
              have HD := Lib.hid (show decide (t = u) = false from decide_eq_false fun e => hso (by
                have h1 := HS.out
                rw [e, HO.out] at h1
                injection h1 with h1
                exact h1.symm))
              clear hso
              refine take_at (v := ?_) 0 36 rfl rfl (by kernel_rfl) (by kernel_rfl) (by kernel_rfl) (fun _ _ _ h => h) hHeld (Or.inl ⟨by rfl, ?_⟩) rfl ?_
              rotate_left
              · intro wq hSw
                go_simp
                try with_reducible rfl
              simp only [List.set_cons_zero, List.set_cons_succ]
              refine take_at (v := ?_) 1 37 rfl rfl (by kernel_rfl) (by kernel_rfl) (by kernel_rfl) (fun _ _ _ h => h) hHeld (Or.inl ⟨by rfl, ?_⟩) rfl ?_
              rotate_left
              · intro wq hSw
                have hst := (hXs.under hSw hXs.lt).cell_at (i := 0) rfl
                go_simp
                try with_reducible rfl
              simp only [List.set_cons_zero, List.set_cons_succ]
              refine take_at (v := ?_) 2 38 rfl rfl (by kernel_rfl) (by kernel_rfl) (by kernel_rfl) (fun _ _ _ h => h) hHeld (Or.inl ⟨by rfl, ?_⟩) rfl ?_
              rotate_left
              · intro wq hSw
                go_simp
                try with_reducible rfl
              simp only [List.set_cons_zero, List.set_cons_succ]
              refine take_at (v := ?_) 3 39 rfl rfl (by kernel_rfl) (by kernel_rfl) (by kernel_rfl) (fun _ _ _ h => h) hHeld (Or.inl ⟨by rfl, ?_⟩) rfl ?_
              rotate_left
              · intro wq hSw
                go_simp
                try with_reducible rfl
              simp only [List.set_cons_zero, List.set_cons_succ]
              refine take_at 4 40 rfl rfl (by kernel_rfl) (by kernel_rfl) (by kernel_rfl) (fun _ _ _ h => h) hHeld (yieldsIf_load_agg (by rfl) 28 (.tmp 39) rfl _ _ (by rfl) (fun wq hSw => lS wq hSw)) rfl ?_
              simp only [List.set_cons_zero, List.set_cons_succ]
              refine take_at (v := ?_) 5 41 rfl rfl (by kernel_rfl) (by kernel_rfl) (by kernel_rfl) (fun _ _ _ h => h) hHeld (Or.inl ⟨by rfl, ?_⟩) rfl ?_
              rotate_left
              · intro wq hSw
                go_simp
                try with_reducible rfl
              simp only [List.set_cons_zero, List.set_cons_succ]
              refine take_at (v := ?_) 6 42 rfl rfl (by kernel_rfl) (by kernel_rfl) (by kernel_rfl) (fun _ _ _ h => h) hHeld (Or.inl ⟨by rfl, ?_⟩) rfl ?_
              rotate_left
              · intro wq hSw
                have hst := (hYs.under hSw hYs.lt).cell_at (i := 0) rfl
                go_simp
                try with_reducible rfl
              simp only [List.set_cons_zero, List.set_cons_succ]
              refine take_at (v := ?_) 7 43 rfl rfl (by kernel_rfl) (by kernel_rfl) (by kernel_rfl) (fun _ _ _ h => h) hHeld (Or.inl ⟨by rfl, ?_⟩) rfl ?_
              rotate_left
              · intro wq hSw
                go_simp
                try with_reducible rfl
              simp only [List.set_cons_zero, List.set_cons_succ]
              refine take_at (v := ?_) 8 44 rfl rfl (by kernel_rfl) (by kernel_rfl) (by kernel_rfl) (fun _ _ _ h => h) hHeld (Or.inl ⟨by rfl, ?_⟩) rfl ?_
              rotate_left
              · intro wq hSw
                go_simp
                try with_reducible rfl
              simp only [List.set_cons_zero, List.set_cons_succ]
              refine take_at 9 45 rfl rfl (by kernel_rfl) (by kernel_rfl) (by kernel_rfl) (fun _ _ _ h => h) hHeld (yieldsIf_load_agg (by rfl) 28 (.tmp 44) rfl _ _ (by rfl) (fun wq hSw => lO wq hSw)) rfl ?_
              simp only [List.set_cons_zero, List.set_cons_succ]
              refine take_at (v := .bool true) 10 46 rfl rfl (by kernel_rfl) (by kernel_rfl) (by kernel_rfl) (fun _ _ _ h => h) hHeld (yieldsIf_bin (by rfl) .neq 28 (.tmp 40) (.tmp 45) _ rfl (spCells s).toArray (spCells o).toArray (by rfl) (by rfl) (by kernel_rfl) _ HEQ.out) rfl ?_
              simp only [List.set_cons_zero, List.set_cons_succ]
              refine wpAnyH_done (by kernel_rfl) ?_ _
              go_wp2
              go_ret
              exact ⟨by rw [HD.out]; rfl, hBw.trans (hbws.mono hBw.size)⟩
          · have hii : ¬ (i : Int) < (n : Int) := by omega
            have hin : i = n := by omega
            have HSP := Lib.hid (show t.sp = u.sp from List.ext_getElem? fun j => by
              rcases Nat.lt_or_ge j i with h | h
              · exact HJ.out j h
              · rw [List.getElem?_eq_none (by rw [hHX.out.sp.1]; omega), List.getElem?_eq_none (by rw [hHY.out.sp.1]; omega)])
            have hB2 := hb
            have f1 : wr.cell? ⟨w.heap.size, 1, none⟩ = some (.slice b m r) := (hX.under hb hX.lt).cell_at rfl
            clear HJ hin hb
            go_wp2
            go_loopw [51] (fun iv wr => ∃ i : Nat, i ≤ m ∧ iv = .int .i64 i ∧ RowKit.Hid (∀ j, j < i → t.co[j]? = u.co[j]?) ∧ Below W1.heap.size W1 wr) (fun iv _ => m - (intOf iv).toNat)
            case atStart => exact ⟨0, Nat.zero_le _, rfl, Lib.hid (fun j hj => by omega), hB2⟩
            case round =>
              obtain ⟨i, hi, rfl, HJ, hb⟩ := hrel
              by_cases hlt : i < m
              · have hii : (i : Int) < (m : Int) := by omega
                have hi0 : (0 : Int) ≤ (i : Int) := by omega
                obtain ⟨s, hs⟩ := hHX.out.co.get hlt
                obtain ⟨o, ho⟩ := hHY.out.co.get hlt
                obtain ⟨x, hax, _⟩ := hHX.out.co.2.2.2 i s hs
                obtain ⟨y, hay, _⟩ := hHY.out.co.2.2.2 i o ho
                subst hax
                subst hay
                have HS := Lib.hid hs
                have HO := Lib.hid ho
                have HOS := Lib.hid (And.intro (hHX.out.co.okay hs) (hHY.out.co.okay ho))
                clear hs ho
                go_upto_region 12 with fail
                obtain ⟨ws, hws⟩ : ∃ x, x = wr.drew := ⟨_, rfl⟩
                have hbs : Below wr.heap.size wr ws := by rw [hws]; exact (Below.refl _ _).drew
                have hXs := (hX.under hb hX.lt).under hbs (hX.under hb hX.lt).lt
                have hYs := (hY.under hb hY.lt).under hbs (hY.under hb hY.lt).lt
                have lS := fun (wq : World) (hSw : Held ws wq) => coins_at (((hHX.out.co.below hb).below hbs).below hSw) HS.out
                have lO := fun (wq : World) (hSw : Held ws wq) => coins_at (((hHY.out.co.below hb).below hbs).below hSw) HO.out
                have hbws := hb.trans (hbs.mono hb.size)
                refine wp_region_held_drew (S := Held ws) (by kernel_rfl) (by rw [hws]; exact Held.refl _) (fun hHeld => ?_)
                rw [← hws] at hHeld ⊢
                clear hws hbs
                by_cases hso : s = o
                · have HEQ := Lib.hid (show ∀ w, (binOp .neq 30 (.agg #[.int .i64 s.v, .int .u64 (nb64 s.lock)]) (.agg #[.int .i64 o.v, .int .u64 (nb64 o.lock)])).run Tryd.prog w = .ok (.bool false) w from fun w => (neq_coin w s o).trans (by rw [decide_eq_true hso]; rfl))
                  refine take_at (v := ?_) 0 54 rfl rfl (by kernel_rfl) (by kernel_rfl) (by kernel_rfl) (fun _ _ _ h => h) hHeld (Or.inl ⟨by rfl, ?_⟩) rfl ?_
                  rotate_left
                  · intro wq hSw
                    go_simp
                    try with_reducible rfl
                  simp only [List.set_cons_zero, List.set_cons_succ]
                  refine take_at (v := ?_) 1 55 rfl rfl (by kernel_rfl) (by kernel_rfl) (by kernel_rfl) (fun _ _ _ h => h) hHeld (Or.inl ⟨by rfl, ?_⟩) rfl ?_
                  rotate_left
                  · intro wq hSw
                    have hst := (hXs.under hSw hXs.lt).cell_at (i := 1) rfl
                    go_simp
                    try with_reducible rfl
                  simp only [List.set_cons_zero, List.set_cons_succ]
                  refine take_at (v := ?_) 2 56 rfl rfl (by kernel_rfl) (by kernel_rfl) (by kernel_rfl) (fun _ _ _ h => h) hHeld (Or.inl ⟨by rfl, ?_⟩) rfl ?_
                  rotate_left
                  · intro wq hSw
                    go_simp
                    try with_reducible rfl
                  simp only [List.set_cons_zero, List.set_cons_succ]
                  refine take_at (v := ?_) 3 57 rfl rfl (by kernel_rfl) (by kernel_rfl) (by kernel_rfl) (fun _ _ _ h => h) hHeld (Or.inl ⟨by rfl, ?_⟩) rfl ?_
                  rotate_left
                  · intro wq hSw
                    go_simp
                    try with_reducible rfl
                  simp only [List.set_cons_zero, List.set_cons_succ]
                  refine take_at 4 58 rfl rfl (by kernel_rfl) (by kernel_rfl) (by kernel_rfl) (fun _ _ _ h => h) hHeld (yieldsIf_load_agg (by rfl) 30 (.tmp 57) rfl _ _ (by rfl) (fun wq hSw => lS wq hSw)) rfl ?_
                  simp only [List.set_cons_zero, List.set_cons_succ]
                  refine take_at (v := ?_) 5 59 rfl rfl (by kernel_rfl) (by kernel_rfl) (by kernel_rfl) (fun _ _ _ h => h) hHeld (Or.inl ⟨by rfl, ?_⟩) rfl ?_
                  rotate_left
                  · intro wq hSw
                    go_simp
                    try with_reducible rfl
                  simp only [List.set_cons_zero, List.set_cons_succ]
                  refine take_at (v := ?_) 6 60 rfl rfl (by kernel_rfl) (by kernel_rfl) (by kernel_rfl) (fun _ _ _ h => h) hHeld (Or.inl ⟨by rfl, ?_⟩) rfl ?_
                  rotate_left
                  · intro wq hSw
                    have hst := (hYs.under hSw hYs.lt).cell_at (i := 1) rfl
                    go_simp
                    try with_reducible rfl
                  simp only [List.set_cons_zero, List.set_cons_succ]
                  refine take_at (v := ?_) 7 61 rfl rfl (by kernel_rfl) (by kernel_rfl) (by kernel_rfl) (fun _ _ _ h => h) hHeld (Or.inl ⟨by rfl, ?_⟩) rfl ?_
                  rotate_left
                  · intro wq hSw
                    go_simp
                    try with_reducible rfl
                  simp only [List.set_cons_zero, List.set_cons_succ]
                  refine take_at (v := ?_) 8 62 rfl rfl (by kernel_rfl) (by kernel_rfl) (by kernel_rfl) (fun _ _ _ h => h) hHeld (Or.inl ⟨by rfl, ?_⟩) rfl ?_
                  rotate_left
                  · intro wq hSw
                    go_simp
                    try with_reducible rfl
                  simp only [List.set_cons_zero, List.set_cons_succ]
                  refine take_at 9 63 rfl rfl (by kernel_rfl) (by kernel_rfl) (by kernel_rfl) (fun _ _ _ h => h) hHeld (yieldsIf_load_agg (by rfl) 30 (.tmp 62) rfl _ _ (by rfl) (fun wq hSw => lO wq hSw)) rfl ?_
                  simp only [List.set_cons_zero, List.set_cons_succ]
                  refine take_at (v := .bool false) 10 64 rfl rfl (by kernel_rfl) (by kernel_rfl) (by kernel_rfl) (fun _ _ _ h => h) hHeld (yieldsIf_bin (by rfl) .neq 30 (.tmp 58) (.tmp 63) _ rfl #[.int .i64 s.v, .int .u64 (nb64 s.lock)] #[.int .i64 o.v, .int .u64 (nb64 o.lock)] (by rfl) (by rfl) (by kernel_rfl) _ HEQ.out) rfl ?_
                  simp only [List.set_cons_zero, List.set_cons_succ]
                  refine wpAnyH_done (by kernel_rfl) ?_ _
                  have HJ2 := Lib.hid (show ∀ j, j < i + 1 → t.co[j]? = u.co[j]? from fun j hj => by
                    rcases Nat.lt_or_ge j i with h | h
                    · exact HJ.out j h
                    · have e2 : j = i := by omega
                      subst e2
                      rw [HS.out, HO.out, hso])
                  clear hso
                  go_wp2
                  go_roundw
                  case rel => exact ⟨i + 1, by omega, by go_num, HJ2, hbws⟩
                  case measure => (simp [intOf]; try omega)
                · have HEQ := Lib.hid (show ∀ w, (binOp .neq 30 (.agg #[.int .i64 s.v, .int .u64 (nb64 s.lock)]) (.agg #[.int .i64 o.v, .int .u64 (nb64 o.lock)])).run Tryd.prog w = .ok (.bool true) w from fun w => (neq_coin w s o).trans (by rw [decide_eq_false hso]; rfl))
                  have HD := Lib.hid (show decide (t = u) = false from decide_eq_false fun e => hso (by
                    have h1 := HS.out
                    rw [e, HO.out] at h1
                    injection h1 with h1
                    exact h1.symm))
                  clear hso
                  refine take_at (v := ?_) 0 54 rfl rfl (by kernel_rfl) (by kernel_rfl) (by kernel_rfl) (fun _ _ _ h => h) hHeld (Or.inl ⟨by rfl, ?_⟩) rfl ?_
                  rotate_left
                  · intro wq hSw
                    go_simp
                    try with_reducible rfl
                  simp only [List.set_cons_zero, List.set_cons_succ]
                  refine take_at (v := ?_) 1 55 rfl rfl (by kernel_rfl) (by kernel_rfl) (by kernel_rfl) (fun _ _ _ h => h) hHeld (Or.inl ⟨by rfl, ?_⟩) rfl ?_
                  rotate_left
                  · intro wq hSw
                    have hst := (hXs.under hSw hXs.lt).cell_at (i := 1) rfl
                    go_simp
                    try with_reducible rfl
                  simp only [List.set_cons_zero, List.set_cons_succ]
                  refine take_at (v := ?_) 2 56 rfl rfl (by kernel_rfl) (by kernel_rfl) (by kernel_rfl) (fun _ _ _ h => h) hHeld (Or.inl ⟨by rfl, ?_⟩) rfl ?_
                  rotate_left
                  · intro wq hSw
                    go_simp
                    try with_reducible rfl
                  simp only [List.set_cons_zero, List.set_cons_succ]
                  refine take_at (v := ?_) 3 57 rfl rfl (by kernel_rfl) (by kernel_rfl) (by kernel_rfl) (fun _ _ _ h => h) hHeld (Or.inl ⟨by rfl, ?_⟩) rfl ?_
                  rotate_left
                  · intro wq hSw
                    go_simp
                    try with_reducible rfl
                  simp only [List.set_cons_zero, List.set_cons_succ]
                  refine take_at 4 58 rfl rfl (by kernel_rfl) (by kernel_rfl) (by kernel_rfl) (fun _ _ _ h => h) hHeld (yieldsIf_load_agg (by rfl) 30 (.tmp 57) rfl _ _ (by rfl) (fun wq hSw => lS wq hSw)) rfl ?_
                  simp only [List.set_cons_zero, List.set_cons_succ]
                  refine take_at (v := ?_) 5 59 rfl rfl (by kernel_rfl) (by kernel_rfl) (by kernel_rfl) (fun _ _ _ h => h) hHeld (Or.inl ⟨by rfl, ?_⟩) rfl ?_
                  rotate_left
                  · intro wq hSw
                    go_simp
                    try with_reducible rfl
                  simp only [List.set_cons_zero, List.set_cons_succ]
                  refine take_at (v := ?_) 6 60 rfl rfl (by kernel_rfl) (by kernel_rfl) (by kernel_rfl) (fun _ _ _ h => h) hHeld (Or.inl ⟨by rfl, ?_⟩) rfl ?_
                  rotate_left
                  · intro wq hSw
                    have hst := (hYs.under hSw hYs.lt).cell_at (i := 1) rfl
                    go_simp
                    try with_reducible rfl
                  simp only [List.set_cons_zero, List.set_cons_succ]
                  refine take_at (v := ?_) 7 61 rfl rfl (by kernel_rfl) (by kernel_rfl) (by kernel_rfl) (fun _ _ _ h => h) hHeld (Or.inl ⟨by rfl, ?_⟩) rfl ?_
                  rotate_left
                  · intro wq hSw
                    go_simp
                    try with_reducible rfl
                  simp only [List.set_cons_zero, List.set_cons_succ]
                  refine take_at (v := ?_) 8 62 rfl rfl (by kernel_rfl) (by kernel_rfl) (by kernel_rfl) (fun _ _ _ h => h) hHeld (Or.inl ⟨by rfl, ?_⟩) rfl ?_
                  rotate_left
                  · intro wq hSw
                    go_simp
                    try with_reducible rfl
                  simp only [List.set_cons_zero, List.set_cons_succ]
                  refine take_at 9 63 rfl rfl (by kernel_rfl) (by kernel_rfl) (by kernel_rfl) (fun _ _ _ h => h) hHeld (yieldsIf_load_agg (by rfl) 30 (.tmp 62) rfl _ _ (by rfl) (fun wq hSw => lO wq hSw)) rfl ?_
                  simp only [List.set_cons_zero, List.set_cons_succ]
                  refine take_at (v := .bool true) 10 64 rfl rfl (by kernel_rfl) (by kernel_rfl) (by kernel_rfl) (fun _ _ _ h => h) hHeld (yieldsIf_bin (by rfl) .neq 30 (.tmp 58) (.tmp 63) _ rfl #[.int .i64 s.v, .int .u64 (nb64 s.lock)] #[.int .i64 o.v, .int .u64 (nb64 o.lock)] (by rfl) (by rfl) (by kernel_rfl) _ HEQ.out) rfl ?_
                  simp only [List.set_cons_zero, List.set_cons_succ]
                  refine wpAnyH_done (by kernel_rfl) ?_ _
                  go_wp2
                  go_ret
                  exact ⟨by rw [HD.out]; rfl, hBw.trans (hbws.mono hBw.size)⟩
              · have hii : ¬ (i : Int) < (m : Int) := by omega
                have hin : i = m := by omega
                have HCO := Lib.hid (show t.co = u.co from List.ext_getElem? fun j => by
                  rcases Nat.lt_or_ge j i with h | h
                  · exact HJ.out j h
                  · rw [List.getElem?_eq_none (by rw [hHX.out.co.1]; omega), List.getElem?_eq_none (by rw [hHY.out.co.1]; omega)])
                have HD := Lib.hid (show decide (t = u) = true from decide_eq_true (Tx.t_ext.2 ⟨HSP.out, HCO.out, HFF.out⟩))
                go_wp2
                go_ret
                exact ⟨by rw [HD.out]; rfl, hBw.trans (hb.mono hBw.size)⟩
      · have hD : decide (t = u) = false := decide_eq_false fun e => hf (by rw [e])
        rw [hD]
        obtain ⟨fa, hfa⟩ : ∃ f, f = t.firm := ⟨_, rfl⟩
        obtain ⟨fb, hfb⟩ : ∃ f, f = u.firm := ⟨_, rfl⟩
        rw [← hfa, ← hfb] at hf ⊢
        clear hfa hfb hD ht hu
        cases fa
        · cases fb
          · exact absurd rfl hf
          · go_enter Tryd.func16, Tryd.ntmps16
            go_upto_region 1 with fail
            obtain ⟨W1, hW1⟩ : ∃ x, x = (w.alloc (.cells #[.slice a n q, .slice b m r, .bool false] 38)).alloc (.cells #[.slice a' n q', .slice b' m r', .bool true] 38) := ⟨_, rfl⟩
            have hBw : Below w.heap.size w W1 := by
              rw [hW1]
              exact ((Below.refl _ w).alloc (Nat.le_refl _) _).alloc (by simp) _
            have hX : Has W1 w.heap.size 38 #[.slice a n q, .slice b m r, .bool false] := by rw [hW1]; exact (Has.fresh w _ _).past _
            have hY : Has W1 (w.heap.size + 1) 38 #[.slice a' n q', .slice b' m r', .bool true] := by rw [hW1]; exact Has.fresh_at _ _ _ (by simp)
            rw [← hW1]
            clear hW1
            have f0 : W1.cell? ⟨w.heap.size, 0, none⟩ = some (.slice a n q) := hX.cell_at rfl
            have f1 : W1.cell? ⟨w.heap.size, 1, none⟩ = some (.slice b m r) := hX.cell_at rfl
            have f2 : W1.cell? ⟨w.heap.size, 2, none⟩ = some (.bool false) := hX.cell_at rfl
            have g0 : W1.cell? ⟨w.heap.size + 1, 0, none⟩ = some (.slice a' n q') := hY.cell_at rfl
            have g1 : W1.cell? ⟨w.heap.size + 1, 1, none⟩ = some (.slice b' m r') := hY.cell_at rfl
            have g2 : W1.cell? ⟨w.heap.size + 1, 2, none⟩ = some (.bool true) := hY.cell_at rfl
            go_wp2
            go_ret
            exact ⟨rfl, hBw⟩
        · cases fb
          · go_enter Tryd.func16, Tryd.ntmps16
            go_upto_region 1 with fail
            obtain ⟨W1, hW1⟩ : ∃ x, x = (w.alloc (.cells #[.slice a n q, .slice b m r, .bool true] 38)).alloc (.cells #[.slice a' n q', .slice b' m r', .bool false] 38) := ⟨_, rfl⟩
            have hBw : Below w.heap.size w W1 := by
              rw [hW1]
              exact ((Below.refl _ w).alloc (Nat.le_refl _) _).alloc (by simp) _
            have hX : Has W1 w.heap.size 38 #[.slice a n q, .slice b m r, .bool true] := by rw [hW1]; exact (Has.fresh w _ _).past _
            have hY : Has W1 (w.heap.size + 1) 38 #[.slice a' n q', .slice b' m r', .bool false] := by rw [hW1]; exact Has.fresh_at _ _ _ (by simp)
            rw [← hW1]
            clear hW1
            have f0 : W1.cell? ⟨w.heap.size, 0, none⟩ = some (.slice a n q) := hX.cell_at rfl
            have f1 : W1.cell? ⟨w.heap.size, 1, none⟩ = some (.slice b m r) := hX.cell_at rfl
            have f2 : W1.cell? ⟨w.heap.size, 2, none⟩ = some (.bool true) := hX.cell_at rfl
            have g0 : W1.cell? ⟨w.heap.size + 1, 0, none⟩ = some (.slice a' n q') := hY.cell_at rfl
            have g1 : W1.cell? ⟨w.heap.size + 1, 1, none⟩ = some (.slice b' m r') := hY.cell_at rfl
            have g2 : W1.cell? ⟨w.heap.size + 1, 2, none⟩ = some (.bool false) := hY.cell_at rfl
            go_wp2
            go_ret
            exact ⟨rfl, hBw⟩
          · exact absurd rfl hf
    · have hD : decide (t = u) = false := decide_eq_false fun e => hm (by rw [← ht.co.1, ← hu.co.1, e])
      rw [hD]
      have hne : ((m : Int) != (m' : Int)) = true := by simp; omega
      clear hD ht hu
      go_enter Tryd.func16, Tryd.ntmps16
      go_upto_region 1 with fail
      obtain ⟨W1, hW1⟩ : ∃ x, x = (w.alloc (.cells #[.slice a n q, .slice b m r, .bool t.firm] 38)).alloc (.cells #[.slice a' n q', .slice b' m' r', .bool u.firm] 38) := ⟨_, rfl⟩
      have hBw : Below w.heap.size w W1 := by
        rw [hW1]
        exact ((Below.refl _ w).alloc (Nat.le_refl _) _).alloc (by simp) _
      have hX : Has W1 w.heap.size 38 #[.slice a n q, .slice b m r, .bool t.firm] := by rw [hW1]; exact (Has.fresh w _ _).past _
      have hY : Has W1 (w.heap.size + 1) 38 #[.slice a' n q', .slice b' m' r', .bool u.firm] := by rw [hW1]; exact Has.fresh_at _ _ _ (by simp)
      rw [← hW1]
      clear hW1
      have f0 : W1.cell? ⟨w.heap.size, 0, none⟩ = some (.slice a n q) := hX.cell_at rfl
      have f1 : W1.cell? ⟨w.heap.size, 1, none⟩ = some (.slice b m r) := hX.cell_at rfl
      have f2 : W1.cell? ⟨w.heap.size, 2, none⟩ = some (.bool t.firm) := hX.cell_at rfl
      have g0 : W1.cell? ⟨w.heap.size + 1, 0, none⟩ = some (.slice a' n q') := hY.cell_at rfl
      have g1 : W1.cell? ⟨w.heap.size + 1, 1, none⟩ = some (.slice b' m' r') := hY.cell_at rfl
      have g2 : W1.cell? ⟨w.heap.size + 1, 2, none⟩ = some (.bool u.firm) := hY.cell_at rfl
      go_wp2
      go_ret
      exact ⟨rfl, hBw⟩
  · have hD : decide (t = u) = false := decide_eq_false fun e => hn (by rw [← ht.sp.1, ← hu.sp.1, e])
    rw [hD]
    have hne : ((n : Int) != (n' : Int)) = true := by simp; omega
    clear hD ht hu
    go_enter Tryd.func16, Tryd.ntmps16
    go_upto_region 1 with fail
    obtain ⟨W1, hW1⟩ : ∃ x, x = (w.alloc (.cells #[.slice a n q, .slice b m r, .bool t.firm] 38)).alloc (.cells #[.slice a' n' q', .slice b' m' r', .bool u.firm] 38) := ⟨_, rfl⟩
    have hBw : Below w.heap.size w W1 := by
      rw [hW1]
      exact ((Below.refl _ w).alloc (Nat.le_refl _) _).alloc (by simp) _
    have hX : Has W1 w.heap.size 38 #[.slice a n q, .slice b m r, .bool t.firm] := by rw [hW1]; exact (Has.fresh w _ _).past _
    have hY : Has W1 (w.heap.size + 1) 38 #[.slice a' n' q', .slice b' m' r', .bool u.firm] := by rw [hW1]; exact Has.fresh_at _ _ _ (by simp)
    rw [← hW1]
    clear hW1
    have f0 : W1.cell? ⟨w.heap.size, 0, none⟩ = some (.slice a n q) := hX.cell_at rfl
    have f1 : W1.cell? ⟨w.heap.size, 1, none⟩ = some (.slice b m r) := hX.cell_at rfl
    have f2 : W1.cell? ⟨w.heap.size, 2, none⟩ = some (.bool t.firm) := hX.cell_at rfl
    have g0 : W1.cell? ⟨w.heap.size + 1, 0, none⟩ = some (.slice a' n' q') := hY.cell_at rfl
    have g1 : W1.cell? ⟨w.heap.size + 1, 1, none⟩ = some (.slice b' m' r') := hY.cell_at rfl
    have g2 : W1.cell? ⟨w.heap.size + 1, 2, none⟩ = some (.bool u.firm) := hY.cell_at rfl
    go_wp2
    go_ret
    exact ⟨rfl, hBw⟩
end Go.Proofs.YtcedecljbgailaaDoor
