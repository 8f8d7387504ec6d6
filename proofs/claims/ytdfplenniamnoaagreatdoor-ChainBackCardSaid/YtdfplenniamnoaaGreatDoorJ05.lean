/- two transactions compared: gossamernum's Tx (mktxn.py) · gossamernum's Copy · the reference: Good, Right, Need, Pays, With · Slices of ints: how they are read and appended to, compared. Nothing of the program's own. · the reference: With, Total, Compare -/
import Derived.Test.YtdfplenniamnoaaGreatDoorJ04
import Derived.Test.YtdfplenniamnoaaGreatDoorRows
import Derived.Test.YtdfplenniamnoaaGreatDoorJ01
import Derived.Lib.Hide
import Derived.IntWalk
import Derived.OpenShut
import Derived.ProofKit
import Derived.Laws.AppendOwnNone
import Derived.Maps.AppendAt
import Derived.BigQuiet
import Derived.Deep.QuietTactic
import Derived.Deep.Cut
/-! two transactions compared: gossamernum's Tx (mktxn.py) -/
namespace Go.Proofs.YtdfplenniamnoaaGreatDoor
open Go Go.RowKit Go.ChangeShapes Go.WideShapes
theorem yieldsIf_bin {P : Program} {ops : Array Oper} {S : World → Prop} {op : Oper} {a : Act} (hw : Region.wanted op (yielded ops a.tmps) = true) (k : BinOp) (t : TypeId) (x y : Operand) (yt : TypeId) (ho : op.op = .binOp k t x y yt)
    (X Y : Array Value) (hx : a.eval x = .agg X) (hy : a.eval y = .agg Y) (hg : P.eqGuardType P.depth t = false) (v : Value) (hr : ∀ w, (binOp k t (.agg X) (.agg Y)).run P w = .ok v w) : YieldsIf P ops S op v a :=
  .inl ⟨hw, fun w _ => by
    unfold execOp
    simp only [ho, hx, hy, Sem.run_bind, run_eqGuard_agg w k t x y _ _ hg, Result.andThen_ok, hr w, Sem.run_pure]⟩
section
variable {w : World} {x : Addr} {n i : Nat}
theorem spends_at {L : List Tx.Sp} {s : Tx.Sp} (h : Recs spRec w (some x) n L) (hi : L[i]? = some s) : (Instr.loadAt 110 (.pointer (some (x.add (i * 35))))).run Tryz.prog w = .ok (.agg (spCells s).toArray) w :=
  h.load_at Tryz.underlying110 rfl size_spend hi
theorem coins_at {L : List Tx.Co} {c : Tx.Co} (h : Recs coRec w (some x) n L) (hi : L[i]? = some c) : (Instr.loadAt 39 (.pointer (some (x.add (i * 2))))).run Tryz.prog w = .ok (.agg #[.int .i64 c.v, .int .u64 (nb64 c.lock)]) w :=
  h.load_at Tryz.underlying39 rfl size_coin hi
end
set_option maxRecDepth 100000 in
set_option maxHeartbeats 8000000 in
theorem txeq_any (a : Option Addr) (n q : Nat) (b : Option Addr) (m r : Nat) (t : Tx.T) (a' : Option Addr) (n' q' : Nat) (b' : Option Addr) (m' r' : Nat) (u : Tx.T) (w : World) (ht : TxAt w a n q b m r t) (hu : TxAt w a' n' q' b' m' r' u) :
    Calls Tryz.prog 88 #[txv a n q b m r t.firm, txv a' n' q' b' m' r' u.firm] w fun e w' => e = .returned (.bool (decide (t = u))) ∧ Below w.heap.size w w' := by
  have hnmx : n ≤ 9223372036854775807 := ht.sp.2.1
  have hmmx : m ≤ 9223372036854775807 := ht.co.2.1
  by_cases hn : n = n'
  · subst hn
    by_cases hm : m = m'
    · subst hm
      by_cases hf : t.firm = u.firm
      · have HFF := Lib.hid hf
        rw [← hf]
        obtain ⟨f, hff⟩ : ∃ f, f = t.firm := ⟨_, rfl⟩
        rw [← hff]
        clear hff hf
        have hHX := Lib.hid ht
        have hHY := Lib.hid hu
        clear ht hu
        go_enter Tryz.func88, Tryz.ntmps88
        go_upto_region 1 with fail
        obtain ⟨W1, hW1⟩ : ∃ x, x = (w.alloc (.cells #[.slice a n q, .slice b m r, .bool f] 26)).alloc (.cells #[.slice a' n q', .slice b' m r', .bool f] 26) := ⟨_, rfl⟩
        have hBw : Below w.heap.size w W1 := by
          rw [hW1]
          exact ((Below.refl _ w).alloc (Nat.le_refl _) _).alloc (by simp) _
        have hX : Has W1 w.heap.size 26 #[.slice a n q, .slice b m r, .bool f] := by rw [hW1]; exact (Has.fresh w _ _).past _
        have hY : Has W1 (w.heap.size + 1) 26 #[.slice a' n q', .slice b' m r', .bool f] := by rw [hW1]; exact Has.fresh_at _ _ _ (by simp)
        rw [← hW1]
        clear hW1
        have f0 : W1.cell? ⟨w.heap.size, 0, none⟩ = some (.slice a n q) := hX.cell_at rfl
        have f1 : W1.cell? ⟨w.heap.size, 1, none⟩ = some (.slice b m r) := hX.cell_at rfl
        have f2 : W1.cell? ⟨w.heap.size, 2, none⟩ = some (.bool f) := hX.cell_at rfl
        have g0 : W1.cell? ⟨w.heap.size + 1, 0, none⟩ = some (.slice a' n q') := hY.cell_at rfl
        have g1 : W1.cell? ⟨w.heap.size + 1, 1, none⟩ = some (.slice b' m r') := hY.cell_at rfl
        have g2 : W1.cell? ⟨w.heap.size + 1, 2, none⟩ = some (.bool f) := hY.cell_at rfl
        replace hHX := Lib.hid (hHX.out.below hBw)
        replace hHY := Lib.hid (hHY.out.below hBw)
        go_wp2
        go_loopw [33] (fun iv wr => ∃ i : Nat, i ≤ n ∧ iv = .int .i64 i ∧ RowKit.Hid (∀ j, j < i → t.sp[j]? = u.sp[j]?) ∧ Below W1.heap.size W1 wr) (fun iv _ => n - (intOf iv).toNat)
        case atStart => exact ⟨0, Nat.zero_le _, rfl, Lib.hid (fun j hj => by omega), Below.refl _ _⟩
        case round =>
          obtain ⟨i, hi, rfl, HJ, hb⟩ := hrel
          by_cases hlt : i < n
          · have hii : (i : Int) < (n : Int) := by omega
            have hi0 : (0 : Int) ≤ (i : Int) := by omega
            obtain ⟨s, hs⟩ := hHX.out.sp.get hlt
            obtain ⟨o, ho⟩ := hHY.out.sp.get hlt
            obtain ⟨x, hax, _⟩ := hHX.out.sp.2.2.2 i s hs
            obtain ⟨y, hay, _⟩ := hHY.out.sp.2.2.2 i o ho
            subst hax
            subst hay
            have HS := Lib.hid hs
            have HO := Lib.hid ho
            have HOS := Lib.hid (And.intro (hHX.out.sp.okay hs) (hHY.out.sp.okay ho))
            clear hs ho
            go_upto_region 6 with fail
            obtain ⟨ws, hws⟩ : ∃ x, x = wr.drew := ⟨_, rfl⟩
            have hbs : Below wr.heap.size wr ws := by rw [hws]; exact (Below.refl _ _).drew
            have hXs := (hX.under hb hX.lt).under hbs (hX.under hb hX.lt).lt
            have hYs := (hY.under hb hY.lt).under hbs (hY.under hb hY.lt).lt
            have lS := fun (wq : World) (hSw : Held ws wq) => spends_at (((hHX.out.sp.below hb).below hbs).below hSw) HS.out
            have lO := fun (wq : World) (hSw : Held ws wq) => spends_at (((hHY.out.sp.below hb).below hbs).below hSw) HO.out
            have hbws := hb.trans (hbs.mono hb.size)
            refine wp_region_held_drew (S := Held ws) (by kernel_rfl) (by rw [hws]; exact Held.refl _) (fun hHeld => ?_)
            rw [← hws] at hHeld ⊢
            clear hws hbs
            by_cases hso : s = o
            · have HEQ := Lib.hid (show ∀ w, (binOp .neq 110 (.agg (spCells s).toArray) (.agg (spCells o).toArray)).run Tryz.prog w = .ok (.bool false) w from fun w => (neq_spend w s o HOS.out.1.1 HOS.out.2.1).trans (by rw [decide_eq_true hso]; rfl))
              refine take_at (v := ?_) 0 36 rfl rfl (by kernel_rfl) (by kernel_rfl) (by kernel_rfl) (fun _ _ _ h => h) hHeld (Or.inl ⟨by rfl, ?_⟩) rfl ?_
              rotate_left
              · intro wq hSw
                go_simp
                try with_reducible rfl
              simp only [List.set_cons_zero, List.set_cons_succ]
              refine take_at (v := ?_) 1 37 rfl rfl (by kernel_rfl) (by kernel_rfl) (by kernel_rfl) (fun _ _ _ h => h) hHeld (Or.inl ⟨by rfl, ?_⟩) rfl ?_
              rotate_left
              · intro wq hSw
                have hst := (hXs.under hSw hXs.lt).cell_at (i := 0) rfl
                go_simp
                try with_reducible rfl
              simp only [List.set_cons_zero, List.set_cons_succ]
              refine take_at (v := ?_) 2 38 rfl rfl (by kernel_rfl) (by kernel_rfl) (by kernel_rfl) (fun _ _ _ h => h) hHeld (Or.inl ⟨by rfl, ?_⟩) rfl ?_
              rotate_left
              · intro wq hSw
                go_simp
                try with_reducible rfl
              simp only [List.set_cons_zero, List.set_cons_succ]
              refine take_at (v := ?_) 3 39 rfl rfl (by kernel_rfl) (by kernel_rfl) (by kernel_rfl) (fun _ _ _ h => h) hHeld (Or.inl ⟨by rfl, ?_⟩) rfl ?_
              rotate_left
              · intro wq hSw
                go_simp
                try with_reducible rfl
              simp only [List.set_cons_zero, List.set_cons_succ]
              refine take_at 4 40 rfl rfl (by kernel_rfl) (by kernel_rfl) (by kernel_rfl) (fun _ _ _ h => h) hHeld (yieldsIf_load_agg (by rfl) 110 (.tmp 39) rfl _ _ (by rfl) (fun wq hSw => lS wq hSw)) rfl ?_
              simp only [List.set_cons_zero, List.set_cons_succ]
              refine take_at (v := ?_) 5 41 rfl rfl (by kernel_rfl) (by kernel_rfl) (by kernel_rfl) (fun _ _ _ h => h) hHeld (Or.inl ⟨by rfl, ?_⟩) rfl ?_
              rotate_left
              · intro wq hSw
                go_simp
                try with_reducible rfl
              simp only [List.set_cons_zero, List.set_cons_succ]
              refine take_at (v := ?_) 6 42 rfl rfl (by kernel_rfl) (by kernel_rfl) (by kernel_rfl) (fun _ _ _ h => h) hHeld (Or.inl ⟨by rfl, ?_⟩) rfl ?_
              rotate_left
              · intro wq hSw
                have hst := (hYs.under hSw hYs.lt).cell_at (i := 0) rfl
                go_simp
                try with_reducible rfl
              simp only [List.set_cons_zero, List.set_cons_succ]
              refine take_at (v := ?_) 7 43 rfl rfl (by kernel_rfl) (by kernel_rfl) (by kernel_rfl) (fun _ _ _ h => h) hHeld (Or.inl ⟨by rfl, ?_⟩) rfl ?_
              rotate_left
              · intro wq hSw
                go_simp
                try with_reducible rfl
              simp only [List.set_cons_zero, List.set_cons_succ]
              refine take_at (v := ?_) 8 44 rfl rfl (by kernel_rfl) (by kernel_rfl) (by kernel_rfl) (fun _ _ _ h => h) hHeld (Or.inl ⟨by rfl, ?_⟩) rfl ?_
              rotate_left
              · intro wq hSw
                go_simp
                try with_reducible rfl
              simp only [List.set_cons_zero, List.set_cons_succ]
              refine take_at 9 45 rfl rfl (by kernel_rfl) (by kernel_rfl) (by kernel_rfl) (fun _ _ _ h => h) hHeld (yieldsIf_load_agg (by rfl) 110 (.tmp 44) rfl _ _ (by rfl) (fun wq hSw => lO wq hSw)) rfl ?_
              simp only [List.set_cons_zero, List.set_cons_succ]
              refine take_at (v := .bool false) 10 46 rfl rfl (by kernel_rfl) (by kernel_rfl) (by kernel_rfl) (fun _ _ _ h => h) hHeld (yieldsIf_bin (by rfl) .neq 110 (.tmp 40) (.tmp 45) _ rfl (spCells s).toArray (spCells o).toArray (by rfl) (by rfl) (by kernel_rfl) _ HEQ.out) rfl ?_
              simp only [List.set_cons_zero, List.set_cons_succ]
              refine wpAnyH_done (by kernel_rfl) ?_ _
              have HJ2 := Lib.hid (show ∀ j, j < i + 1 → t.sp[j]? = u.sp[j]? from fun j hj => by
                rcases Nat.lt_or_ge j i with h | h
                · exact HJ.out j h
                · have e2 : j = i := by omega
                  subst e2
                  rw [HS.out, HO.out, hso])
              clear hso
              go_wp2
              go_roundw
              case rel => exact ⟨i + 1, by omega, by go_num, HJ2, hbws⟩
              case measure => (simp [intOf]; try omega)
            · have HEQ := Lib.hid (show ∀ w, (binOp .neq 110 (.agg (spCells s).toArray) (.agg (spCells o).toArray)).run Tryz.prog w = .ok (.bool true) w from fun w => (neq_spend w s o HOS.out.1.1 HOS.out.2.1).trans (by rw [decide_eq_false hso]; rfl))
              have HD := Lib.hid (show decide (t = u) = false from decide_eq_false fun e => hso (by
                have h1 := HS.out
                rw [e, HO.out] at h1
                injection h1 with h1
                exact h1.symm))
              clear hso
              refine take_at (v := ?_) 0 36 rfl rfl (by kernel_rfl) (by kernel_rfl) (by kernel_rfl) (fun _ _ _ h => h) hHeld (Or.inl ⟨by rfl, ?_⟩) rfl ?_
              rotate_left
              · intro wq hSw
                go_simp
                try with_reducible rfl
              simp only [List.set_cons_zero, List.set_cons_succ]
              refine take_at (v := ?_) 1 37 rfl rfl (by kernel_rfl) (by kernel_rfl) (by kernel_rfl) (fun _ _ _ h => h) hHeld (Or.inl ⟨by rfl, ?_⟩) rfl ?_
              rotate_left
              · intro wq hSw
                have hst := (hXs.under hSw hXs.lt).cell_at (i := 0) rfl
                go_simp
                try with_reducible rfl
              simp only [List.set_cons_zero, List.set_cons_succ]
              refine take_at (v := ?_) 2 38 rfl rfl (by kernel_rfl) (by kernel_rfl) (by kernel_rfl) (fun _ _ _ h => h) hHeld (Or.inl ⟨by rfl, ?_⟩) rfl ?_
              rotate_left
              · intro wq hSw
                go_simp
                try with_reducible rfl
              simp only [List.set_cons_zero, List.set_cons_succ]
              refine take_at (v := ?_) 3 39 rfl rfl (by kernel_rfl) (by kernel_rfl) (by kernel_rfl) (fun _ _ _ h => h) hHeld (Or.inl ⟨by rfl, ?_⟩) rfl ?_
              rotate_left
              · intro wq hSw
                go_simp
                try with_reducible rfl
              simp only [List.set_cons_zero, List.set_cons_succ]
              refine take_at 4 40 rfl rfl (by kernel_rfl) (by kernel_rfl) (by kernel_rfl) (fun _ _ _ h => h) hHeld (yieldsIf_load_agg (by rfl) 110 (.tmp 39) rfl _ _ (by rfl) (fun wq hSw => lS wq hSw)) rfl ?_
              simp only [List.set_cons_zero, List.set_cons_succ]
              refine take_at (v := ?_) 5 41 rfl rfl (by kernel_rfl) (by kernel_rfl) (by kernel_rfl) (fun _ _ _ h => h) hHeld (Or.inl ⟨by rfl, ?_⟩) rfl ?_
              rotate_left
              · intro wq hSw
                go_simp
                try with_reducible rfl
              simp only [List.set_cons_zero, List.set_cons_succ]
              refine take_at (v := ?_) 6 42 rfl rfl (by kernel_rfl) (by kernel_rfl) (by kernel_rfl) (fun _ _ _ h => h) hHeld (Or.inl ⟨by rfl, ?_⟩) rfl ?_
              rotate_left
              · intro wq hSw
                have hst := (hYs.under hSw hYs.lt).cell_at (i := 0) rfl
                go_simp
                try with_reducible rfl
              simp only [List.set_cons_zero, List.set_cons_succ]
              refine take_at (v := ?_) 7 43 rfl rfl (by kernel_rfl) (by kernel_rfl) (by kernel_rfl) (fun _ _ _ h => h) hHeld (Or.inl ⟨by rfl, ?_⟩) rfl ?_
              rotate_left
              · intro wq hSw
                go_simp
                try with_reducible rfl
              simp only [List.set_cons_zero, List.set_cons_succ]
              refine take_at (v := ?_) 8 44 rfl rfl (by kernel_rfl) (by kernel_rfl) (by kernel_rfl) (fun _ _ _ h => h) hHeld (Or.inl ⟨by rfl, ?_⟩) rfl ?_
              rotate_left
              · intro wq hSw
                go_simp
                try with_reducible rfl
              simp only [List.set_cons_zero, List.set_cons_succ]
              refine take_at 9 45 rfl rfl (by kernel_rfl) (by kernel_rfl) (by kernel_rfl) (fun _ _ _ h => h) hHeld (yieldsIf_load_agg (by rfl) 110 (.tmp 44) rfl _ _ (by rfl) (fun wq hSw => lO wq hSw)) rfl ?_
              simp only [List.set_cons_zero, List.set_cons_succ]
              refine take_at (v := .bool true) 10 46 rfl rfl (by kernel_rfl) (by kernel_rfl) (by kernel_rfl) (fun _ _ _ h => h) hHeld (yieldsIf_bin (by rfl) .neq 110 (.tmp 40) (.tmp 45) _ rfl (spCells s).toArray (spCells o).toArray (by rfl) (by rfl) (by kernel_rfl) _ HEQ.out) rfl ?_
              simp only [List.set_cons_zero, List.set_cons_succ]
              refine wpAnyH_done (by kernel_rfl) ?_ _
              go_wp2
              go_ret
              exact ⟨by rw [HD.out]; rfl, hBw.trans (hbws.mono hBw.size)⟩
          · have hii : ¬ (i : Int) < (n : Int) := by omega
            have hin : i = n := by omega
            have HSP := Lib.hid (show t.sp = u.sp from List.ext_getElem? fun j => by
              rcases Nat.lt_or_ge j i with h | h
              · exact HJ.out j h
              · rw [List.getElem?_eq_none (by rw [hHX.out.sp.1]; omega), List.getElem?_eq_none (by rw [hHY.out.sp.1]; omega)])
            have hB2 := hb
            have f1 : wr.cell? ⟨w.heap.size, 1, none⟩ = some (.slice b m r) := (hX.under hb hX.lt).cell_at rfl
            clear HJ hin hb
            go_wp2
            go_loopw [51] (fun iv wr => ∃ i : Nat, i ≤ m ∧ iv = .int .i64 i ∧ RowKit.Hid (∀ j, j < i → t.co[j]? = u.co[j]?) ∧ Below W1.heap.size W1 wr) (fun iv _ => m - (intOf iv).toNat)
            case atStart => exact ⟨0, Nat.zero_le _, rfl, Lib.hid (fun j hj => by omega), hB2⟩
            case round =>
              obtain ⟨i, hi, rfl, HJ, hb⟩ := hrel
              by_cases hlt : i < m
              · have hii : (i : Int) < (m : Int) := by omega
                have hi0 : (0 : Int) ≤ (i : Int) := by omega
                obtain ⟨s, hs⟩ := hHX.out.co.get hlt
                obtain ⟨o, ho⟩ := hHY.out.co.get hlt
                obtain ⟨x, hax, _⟩ := hHX.out.co.2.2.2 i s hs
                obtain ⟨y, hay, _⟩ := hHY.out.co.2.2.2 i o ho
                subst hax
                subst hay
                have HS := Lib.hid hs
                have HO := Lib.hid ho
                have HOS := Lib.hid (And.intro (hHX.out.co.okay hs) (hHY.out.co.okay ho))
                clear hs ho
                go_upto_region 12 with fail
                obtain ⟨ws, hws⟩ : ∃ x, x = wr.drew := ⟨_, rfl⟩
                have hbs : Below wr.heap.size wr ws := by rw [hws]; exact (Below.refl _ _).drew
                have hXs := (hX.under hb hX.lt).under hbs (hX.under hb hX.lt).lt
                have hYs := (hY.under hb hY.lt).under hbs (hY.under hb hY.lt).lt
                have lS := fun (wq : World) (hSw : Held ws wq) => coins_at (((hHX.out.co.below hb).below hbs).below hSw) HS.out
                have lO := fun (wq : World) (hSw : Held ws wq) => coins_at (((hHY.out.co.below hb).below hbs).below hSw) HO.out
                have hbws := hb.trans (hbs.mono hb.size)
                refine wp_region_held_drew (S := Held ws) (by kernel_rfl) (by rw [hws]; exact Held.refl _) (fun hHeld => ?_)
                rw [← hws] at hHeld ⊢
                clear hws hbs
                by_cases hso : s = o
                · have HEQ := Lib.hid (show ∀ w, (binOp .neq 39 (.agg #[.int .i64 s.v, .int .u64 (nb64 s.lock)]) (.agg #[.int .i64 o.v, .int .u64 (nb64 o.lock)])).run Tryz.prog w = .ok (.bool false) w from fun w => (neq_coin w s o).trans (by rw [decide_eq_true hso]; rfl))
                  refine take_at (v := ?_) 0 54 rfl rfl (by kernel_rfl) (by kernel_rfl) (by kernel_rfl) (fun _ _ _ h => h) hHeld (Or.inl ⟨by rfl, ?_⟩) rfl ?_
                  rotate_left
                  · intro wq hSw
                    go_simp
                    try with_reducible rfl
                  simp only [List.set_cons_zero, List.set_cons_succ]
                  refine take_at (v := ?_) 1 55 rfl rfl (by kernel_rfl) (by kernel_rfl) (by kernel_rfl) (fun _ _ _ h => h) hHeld (Or.inl ⟨by rfl, ?_⟩) rfl ?_
                  rotate_left
                  · intro wq hSw
                    have hst := (hXs.under hSw hXs.lt).cell_at (i := 1) rfl
                    go_simp
                    try with_reducible rfl
                  simp only [List.set_cons_zero, List.set_cons_succ]
                  refine take_at (v := ?_) 2 56 rfl rfl (by kernel_rfl) (by kernel_rfl) (by kernel_rfl) (fun _ _ _ h => h) hHeld (Or.inl ⟨by rfl, ?_⟩) rfl ?_
                  rotate_left
                  · intro wq hSw
                    go_simp
                    try with_reducible rfl
                  simp only [List.set_cons_zero, List.set_cons_succ]
                  refine take_at (v := ?_) 3 57 rfl rfl (by kernel_rfl) (by kernel_rfl) (by kernel_rfl) (fun _ _ _ h => h) hHeld (Or.inl ⟨by rfl, ?_⟩) rfl ?_
                  rotate_left
                  · intro wq hSw
                    go_simp
                    try with_reducible rfl
                  simp only [List.set_cons_zero, List.set_cons_succ]
                  refine take_at 4 58 rfl rfl (by kernel_rfl) (by kernel_rfl) (by kernel_rfl) (fun _ _ _ h => h) hHeld (yieldsIf_load_agg (by rfl) 39 (.tmp 57) rfl _ _ (by rfl) (fun wq hSw => lS wq hSw)) rfl ?_
                  simp only [List.set_cons_zero, List.set_cons_succ]
                  refine take_at (v := ?_) 5 59 rfl rfl (by kernel_rfl) (by kernel_rfl) (by kernel_rfl) (fun _ _ _ h => h) hHeld (Or.inl ⟨by rfl, ?_⟩) rfl ?_
                  rotate_left
                  · intro wq hSw
                    go_simp
                    try with_reducible rfl
                  simp only [List.set_cons_zero, List.set_cons_succ]
                  refine take_at (v := ?_) 6 60 rfl rfl (by kernel_rfl) (by kernel_rfl) (by kernel_rfl) (fun _ _ _ h => h) hHeld (Or.inl ⟨by rfl, ?_⟩) rfl ?_
                  rotate_left
                  · intro wq hSw
                    have hst := (hYs.under hSw hYs.lt).cell_at (i := 1) rfl
                    go_simp
                    try with_reducible rfl
                  simp only [List.set_cons_zero, List.set_cons_succ]
                  refine take_at (v := ?_) 7 61 rfl rfl (by kernel_rfl) (by kernel_rfl) (by kernel_rfl) (fun _ _ _ h => h) hHeld (Or.inl ⟨by rfl, ?_⟩) rfl ?_
                  rotate_left
                  · intro wq hSw
                    go_simp
                    try with_reducible rfl
                  simp only [List.set_cons_zero, List.set_cons_succ]
                  refine take_at (v := ?_) 8 62 rfl rfl (by kernel_rfl) (by kernel_rfl) (by kernel_rfl) (fun _ _ _ h => h) hHeld (Or.inl ⟨by rfl, ?_⟩) rfl ?_
                  rotate_left
                  · intro wq hSw
                    go_simp
                    try with_reducible rfl
                  simp only [List.set_cons_zero, List.set_cons_succ]
                  refine take_at 9 63 rfl rfl (by kernel_rfl) (by kernel_rfl) (by kernel_rfl) (fun _ _ _ h => h) hHeld (yieldsIf_load_agg (by rfl) 39 (.tmp 62) rfl _ _ (by rfl) (fun wq hSw => lO wq hSw)) rfl ?_
                  simp only [List.set_cons_zero, List.set_cons_succ]
                  refine take_at (v := .bool false) 10 64 rfl rfl (by kernel_rfl) (by kernel_rfl) (by kernel_rfl) (fun _ _ _ h => h) hHeld (yieldsIf_bin (by rfl) .neq 39 (.tmp 58) (.tmp 63) _ rfl #[.int .i64 s.v, .int .u64 (nb64 s.lock)] #[.int .i64 o.v, .int .u64 (nb64 o.lock)] (by rfl) (by rfl) (by kernel_rfl) _ HEQ.out) rfl ?_
                  simp only [List.set_cons_zero, List.set_cons_succ]
                  refine wpAnyH_done (by kernel_rfl) ?_ _
                  have HJ2 := Lib.hid (show ∀ j, j < i + 1 → t.co[j]? = u.co[j]? from fun j hj => by
                    rcases Nat.lt_or_ge j i with h | h
                    · exact HJ.out j h
                    · have e2 : j = i := by omega
                      subst e2
                      rw [HS.out, HO.out, hso])
                  clear hso
                  go_wp2
                  go_roundw
                  case rel => exact ⟨i + 1, by omega, by go_num, HJ2, hbws⟩
                  case measure => (simp [intOf]; try omega)
                · have HEQ := Lib.hid (show ∀ w, (binOp .neq 39 (.agg #[.int .i64 s.v, .int .u64 (nb64 s.lock)]) (.agg #[.int .i64 o.v, .int .u64 (nb64 o.lock)])).run Tryz.prog w = .ok (.bool true) w from fun w => (neq_coin w s o).trans (by rw [decide_eq_false hso]; rfl))
                  have HD := Lib.hid (show decide (t = u) = false from decide_eq_false fun e => hso (by
                    have h1 := HS.out
                    rw [e, HO.out] at h1
                    injection h1 with h1
                    exact h1.symm))
                  clear hso
                  refine take_at (v := ?_) 0 54 rfl rfl (by kernel_rfl) (by kernel_rfl) (by kernel_rfl) (fun _ _ _ h => h) hHeld (Or.inl ⟨by rfl, ?_⟩) rfl ?_
                  rotate_left
                  · intro wq hSw
                    go_simp
                    try with_reducible rfl
                  simp only [List.set_cons_zero, List.set_cons_succ]
                  refine take_at (v := ?_) 1 55 rfl rfl (by kernel_rfl) (by kernel_rfl) (by kernel_rfl) (fun _ _ _ h => h) hHeld (Or.inl ⟨by rfl, ?_⟩) rfl ?_
                  rotate_left
                  · intro wq hSw
                    have hst := (hXs.under hSw hXs.lt).cell_at (i := 1) rfl
                    go_simp
                    try with_reducible rfl
                  simp only [List.set_cons_zero, List.set_cons_succ]
                  refine take_at (v := ?_) 2 56 rfl rfl (by kernel_rfl) (by kernel_rfl) (by kernel_rfl) (fun _ _ _ h => h) hHeld (Or.inl ⟨by rfl, ?_⟩) rfl ?_
                  rotate_left
                  · intro wq hSw
                    go_simp
                    try with_reducible rfl
                  simp only [List.set_cons_zero, List.set_cons_succ]
                  refine take_at (v := ?_) 3 57 rfl rfl (by kernel_rfl) (by kernel_rfl) (by kernel_rfl) (fun _ _ _ h => h) hHeld (Or.inl ⟨by rfl, ?_⟩) rfl ?_
                  rotate_left
                  · intro wq hSw
                    go_simp
                    try with_reducible rfl
                  simp only [List.set_cons_zero, List.set_cons_succ]
                  refine take_at 4 58 rfl rfl (by kernel_rfl) (by kernel_rfl) (by kernel_rfl) (fun _ _ _ h => h) hHeld (yieldsIf_load_agg (by rfl) 39 (.tmp 57) rfl _ _ (by rfl) (fun wq hSw => lS wq hSw)) rfl ?_
                  simp only [List.set_cons_zero, List.set_cons_succ]
                  refine take_at (v := ?_) 5 59 rfl rfl (by kernel_rfl) (by kernel_rfl) (by kernel_rfl) (fun _ _ _ h => h) hHeld (Or.inl ⟨by rfl, ?_⟩) rfl ?_
                  rotate_left
                  · intro wq hSw
                    go_simp
                    try with_reducible rfl
                  simp only [List.set_cons_zero, List.set_cons_succ]
                  refine take_at (v := ?_) 6 60 rfl rfl (by kernel_rfl) (by kernel_rfl) (by kernel_rfl) (fun _ _ _ h => h) hHeld (Or.inl ⟨by rfl, ?_⟩) rfl ?_
                  rotate_left
                  · intro wq hSw
                    have hst := (hYs.under hSw hYs.lt).cell_at (i := 1) rfl
                    go_simp
                    try with_reducible rfl
                  simp only [List.set_cons_zero, List.set_cons_succ]
                  refine take_at (v := ?_) 7 61 rfl rfl (by kernel_rfl) (by kernel_rfl) (by kernel_rfl) (fun _ _ _ h => h) hHeld (Or.inl ⟨by rfl, ?_⟩) rfl ?_
                  rotate_left
                  · intro wq hSw
                    go_simp
                    try with_reducible rfl
                  simp only [List.set_cons_zero, List.set_cons_succ]
                  refine take_at (v := ?_) 8 62 rfl rfl (by kernel_rfl) (by kernel_rfl) (by kernel_rfl) (fun _ _ _ h => h) hHeld (Or.inl ⟨by rfl, ?_⟩) rfl ?_
                  rotate_left
                  · intro wq hSw
                    go_simp
                    try with_reducible rfl
                  simp only [List.set_cons_zero, List.set_cons_succ]
                  refine take_at 9 63 rfl rfl (by kernel_rfl) (by kernel_rfl) (by kernel_rfl) (fun _ _ _ h => h) hHeld (yieldsIf_load_agg (by rfl) 39 (.tmp 62) rfl _ _ (by rfl) (fun wq hSw => lO wq hSw)) rfl ?_
                  simp only [List.set_cons_zero, List.set_cons_succ]
                  refine take_at (v := .bool true) 10 64 rfl rfl (by kernel_rfl) (by kernel_rfl) (by kernel_rfl) (fun _ _ _ h => h) hHeld (yieldsIf_bin (by rfl) .neq 39 (.tmp 58) (.tmp 63) _ rfl #[.int .i64 s.v, .int .u64 (nb64 s.lock)] #[.int .i64 o.v, .int .u64 (nb64 o.lock)] (by rfl) (by rfl) (by kernel_rfl) _ HEQ.out) rfl ?_
                  simp only [List.set_cons_zero, List.set_cons_succ]
                  refine wpAnyH_done (by kernel_rfl) ?_ _
                  go_wp2
                  go_ret
                  exact ⟨by rw [HD.out]; rfl, hBw.trans (hbws.mono hBw.size)⟩
              · have hii : ¬ (i : Int) < (m : Int) := by omega
                have hin : i = m := by omega
                have HCO := Lib.hid (show t.co = u.co from List.ext_getElem? fun j => by
                  rcases Nat.lt_or_ge j i with h | h
                  · exact HJ.out j h
                  · rw [List.getElem?_eq_none (by rw [hHX.out.co.1]; omega), List.getElem?_eq_none (by rw [hHY.out.co.1]; omega)])
                have HD := Lib.hid (show decide (t = u) = true from decide_eq_true (Tx.t_ext.2 ⟨HSP.out, HCO.out, HFF.out⟩))
                go_wp2
                go_ret
                exact ⟨by rw [HD.out]; rfl, hBw.trans (hb.mono hBw.size)⟩
      · have hD : decide (t = u) = false := decide_eq_false fun e => hf (by rw [e])
        rw [hD]
        obtain ⟨fa, hfa⟩ : ∃ f, f = t.firm := ⟨_, rfl⟩
        obtain ⟨fb, hfb⟩ : ∃ f, f = u.firm := ⟨_, rfl⟩
        rw [← hfa, ← hfb] at hf ⊢
        clear hfa hfb hD ht hu
        cases fa
        · cases fb
          · exact absurd rfl hf
          · go_enter Tryz.func88, Tryz.ntmps88
            go_upto_region 1 with fail
            obtain ⟨W1, hW1⟩ : ∃ x, x = (w.alloc (.cells #[.slice a n q, .slice b m r, .bool false] 26)).alloc (.cells #[.slice a' n q', .slice b' m r', .bool true] 26) := ⟨_, rfl⟩
            have hBw : Below w.heap.size w W1 := by
              rw [hW1]
              exact ((Below.refl _ w).alloc (Nat.le_refl _) _).alloc (by simp) _
            have hX : Has W1 w.heap.size 26 #[.slice a n q, .slice b m r, .bool false] := by rw [hW1]; exact (Has.fresh w _ _).past _
            have hY : Has W1 (w.heap.size + 1) 26 #[.slice a' n q', .slice b' m r', .bool true] := by rw [hW1]; exact Has.fresh_at _ _ _ (by simp)
            rw [← hW1]
            clear hW1
            have f0 : W1.cell? ⟨w.heap.size, 0, none⟩ = some (.slice a n q) := hX.cell_at rfl
            have f1 : W1.cell? ⟨w.heap.size, 1, none⟩ = some (.slice b m r) := hX.cell_at rfl
            have f2 : W1.cell? ⟨w.heap.size, 2, none⟩ = some (.bool false) := hX.cell_at rfl
            have g0 : W1.cell? ⟨w.heap.size + 1, 0, none⟩ = some (.slice a' n q') := hY.cell_at rfl
            have g1 : W1.cell? ⟨w.heap.size + 1, 1, none⟩ = some (.slice b' m r') := hY.cell_at rfl
            have g2 : W1.cell? ⟨w.heap.size + 1, 2, none⟩ = some (.bool true) := hY.cell_at rfl
            go_wp2
            go_ret
            exact ⟨rfl, hBw⟩
        · cases fb
          · go_enter Tryz.func88, Tryz.ntmps88
            go_upto_region 1 with fail
            obtain ⟨W1, hW1⟩ : ∃ x, x = (w.alloc (.cells #[.slice a n q, .slice b m r, .bool true] 26)).alloc (.cells #[.slice a' n q', .slice b' m r', .bool false] 26) := ⟨_, rfl⟩
            have hBw : Below w.heap.size w W1 := by
              rw [hW1]
              exact ((Below.refl _ w).alloc (Nat.le_refl _) _).alloc (by simp) _
            have hX : Has W1 w.heap.size 26 #[.slice a n q, .slice b m r, .bool true] := by rw [hW1]; exact (Has.fresh w _ _).past _
            have hY : Has W1 (w.heap.size + 1) 26 #[.slice a' n q', .slice b' m r', .bool false] := by rw [hW1]; exact Has.fresh_at _ _ _ (by simp)
            rw [← hW1]
            clear hW1
            have f0 : W1.cell? ⟨w.heap.size, 0, none⟩ = some (.slice a n q) := hX.cell_at rfl
            have f1 : W1.cell? ⟨w.heap.size, 1, none⟩ = some (.slice b m r) := hX.cell_at rfl
            have f2 : W1.cell? ⟨w.heap.size, 2, none⟩ = some (.bool true) := hX.cell_at rfl
            have g0 : W1.cell? ⟨w.heap.size + 1, 0, none⟩ = some (.slice a' n q') := hY.cell_at rfl
            have g1 : W1.cell? ⟨w.heap.size + 1, 1, none⟩ = some (.slice b' m r') := hY.cell_at rfl
            have g2 : W1.cell? ⟨w.heap.size + 1, 2, none⟩ = some (.bool false) := hY.cell_at rfl
            go_wp2
            go_ret
            exact ⟨rfl, hBw⟩
          · exact absurd rfl hf
    · have hD : decide (t = u) = false := decide_eq_false fun e => hm (by rw [← ht.co.1, ← hu.co.1, e])
      rw [hD]
      have hne : ((m : Int) != (m' : Int)) = true := by simp; omega
      clear hD ht hu
      go_enter Tryz.func88, Tryz.ntmps88
      go_upto_region 1 with fail
      obtain ⟨W1, hW1⟩ : ∃ x, x = (w.alloc (.cells #[.slice a n q, .slice b m r, .bool t.firm] 26)).alloc (.cells #[.slice a' n q', .slice b' m' r', .bool u.firm] 26) := ⟨_, rfl⟩
      have hBw : Below w.heap.size w W1 := by
        rw [hW1]
        exact ((Below.refl _ w).alloc (Nat.le_refl _) _).alloc (by simp) _
      have hX : Has W1 w.heap.size 26 #[.slice a n q, .slice b m r, .bool t.firm] := by rw [hW1]; exact (Has.fresh w _ _).past _
      have hY : Has W1 (w.heap.size + 1) 26 #[.slice a' n q', .slice b' m' r', .bool u.firm] := by rw [hW1]; exact Has.fresh_at _ _ _ (by simp)
      rw [← hW1]
      clear hW1
      have f0 : W1.cell? ⟨w.heap.size, 0, none⟩ = some (.slice a n q) := hX.cell_at rfl
      have f1 : W1.cell? ⟨w.heap.size, 1, none⟩ = some (.slice b m r) := hX.cell_at rfl
      have f2 : W1.cell? ⟨w.heap.size, 2, none⟩ = some (.bool t.firm) := hX.cell_at rfl
      have g0 : W1.cell? ⟨w.heap.size + 1, 0, none⟩ = some (.slice a' n q') := hY.cell_at rfl
      have g1 : W1.cell? ⟨w.heap.size + 1, 1, none⟩ = some (.slice b' m' r') := hY.cell_at rfl
      have g2 : W1.cell? ⟨w.heap.size + 1, 2, none⟩ = some (.bool u.firm) := hY.cell_at rfl
      go_wp2
      go_ret
      exact ⟨rfl, hBw⟩
  · have hD : decide (t = u) = false := decide_eq_false fun e => hn (by rw [← ht.sp.1, ← hu.sp.1, e])
    rw [hD]
    have hne : ((n : Int) != (n' : Int)) = true := by simp; omega
    clear hD ht hu
    go_enter Tryz.func88, Tryz.ntmps88
    go_upto_region 1 with fail
    obtain ⟨W1, hW1⟩ : ∃ x, x = (w.alloc (.cells #[.slice a n q, .slice b m r, .bool t.firm] 26)).alloc (.cells #[.slice a' n' q', .slice b' m' r', .bool u.firm] 26) := ⟨_, rfl⟩
    have hBw : Below w.heap.size w W1 := by
      rw [hW1]
      exact ((Below.refl _ w).alloc (Nat.le_refl _) _).alloc (by simp) _
    have hX : Has W1 w.heap.size 26 #[.slice a n q, .slice b m r, .bool t.firm] := by rw [hW1]; exact (Has.fresh w _ _).past _
    have hY : Has W1 (w.heap.size + 1) 26 #[.slice a' n' q', .slice b' m' r', .bool u.firm] := by rw [hW1]; exact Has.fresh_at _ _ _ (by simp)
    rw [← hW1]
    clear hW1
    have f0 : W1.cell? ⟨w.heap.size, 0, none⟩ = some (.slice a n q) := hX.cell_at rfl
    have f1 : W1.cell? ⟨w.heap.size, 1, none⟩ = some (.slice b m r) := hX.cell_at rfl
    have f2 : W1.cell? ⟨w.heap.size, 2, none⟩ = some (.bool t.firm) := hX.cell_at rfl
    have g0 : W1.cell? ⟨w.heap.size + 1, 0, none⟩ = some (.slice a' n' q') := hY.cell_at rfl
    have g1 : W1.cell? ⟨w.heap.size + 1, 1, none⟩ = some (.slice b' m' r') := hY.cell_at rfl
    have g2 : W1.cell? ⟨w.heap.size + 1, 2, none⟩ = some (.bool u.firm) := hY.cell_at rfl
    go_wp2
    go_ret
    exact ⟨rfl, hBw⟩
end Go.Proofs.YtdfplenniamnoaaGreatDoor

/-! gossamernum's Copy -/
namespace Go.Proofs.YtdfplenniamnoaaGreatDoor
open Go Go.RowKit Go.ChangeShapes Go.WideShapes
/-- a transaction in memory of its own, made since block B -/
structure TxOwn (B : Nat) (w : World) (a : Option Addr) (n q : Nat) (b : Option Addr) (m r : Nat) (t : Tx.T) : Prop where
  sp : OwnR spRec 110 B w (.slice a n q) t.sp
  co : OwnR coRec 39 B w (.slice b m r) t.co
theorem OwnR.recs {α : Type} {R : Rec α} {T : TypeId} {B : Nat} {w : World} {a : Option Addr} {n q : Nat} {L : List α} (h : OwnR R T B w (.slice a n q) L) : Recs R w a n L ∧ n ≤ q ∧ (a = none → q = 0) := by
  obtain ⟨a', c', e, h1, h2, _, h3⟩ := h.shape rfl
  injection e with e1 e2 e3
  subst e1
  subst e2
  subst e3
  exact ⟨h3, h1, h2⟩
theorem TxOwn.at {B : Nat} {w : World} {a b : Option Addr} {n q m r : Nat} {t : Tx.T} (h : TxOwn B w a n q b m r t) : TxAt w a n q b m r t :=
  ⟨h.sp.recs.1, h.co.recs.1, h.sp.recs.2.1, h.co.recs.2.1, h.sp.recs.2.2, h.co.recs.2.2⟩
theorem TxOwn.below {B : Nat} {w w' : World} {a b : Option Addr} {n q m r : Nat} {t : Tx.T} (h : TxOwn B w a n q b m r t) (hb : Below w.heap.size w w') : TxOwn B w' a n q b m r t := ⟨h.sp.below hb, h.co.below hb⟩
theorem TxOwn.low {B B' : Nat} {w : World} {a b : Option Addr} {n q m r : Nat} {t : Tx.T} (h : TxOwn B w a n q b m r t) (hB : B' ≤ B) : TxOwn B' w a n q b m r t := ⟨h.sp.low hB, h.co.low hB⟩
def CopyPost (n m : Nat) (t : Tx.T) (w0 : World) (e : Ending) (w' : World) : Prop :=
  ∃ (a : Option Addr) (q : Nat) (b : Option Addr) (r : Nat), e = .returned (txv a n q b m r t.firm) ∧ TxOwn w0.heap.size w' a n q b m r t ∧ Below w0.heap.size w0 w'
end Go.Proofs.YtdfplenniamnoaaGreatDoor

/-! the reference: Good, Right, Need, Pays, With -/
namespace Go.Proofs.YtdfplenniamnoaaGreatDoor
open Go Go.RowKit Go.ChangeShapes Go.WideShapes
theorem agood_any (z : Int) (b : Bool) (hb : b = true ↔ Am.Good z) (w : World) :
    Calls Tryz.prog 55 #[.int .i64 z] w fun e w' => e = .returned (.bool b) ∧ w = w' := by
  have HB := Lib.hid hb
  clear hb
  by_cases h1 : 0 ≤ z
  · by_cases h2 : z ≤ 2100000000000000
    · obtain rfl : b = true := HB.out.2 ⟨h1, h2⟩
      clear HB
      go_enter Tryz.func55, Tryz.ntmps55
      go_wp2
      go_ret
      exact ⟨rfl, rfl⟩
    · obtain rfl : b = false := by
        cases b
        · rfl
        · exact absurd (HB.out.1 rfl).2 h2
      clear HB
      go_enter Tryz.func55, Tryz.ntmps55
      go_wp2
      go_ret
      exact ⟨rfl, rfl⟩
  · obtain rfl : b = false := by
      cases b
      · rfl
      · exact absurd (HB.out.1 rfl).1 h1
    clear HB
    go_enter Tryz.func55, Tryz.ntmps55
    go_wp2
    go_ret
    exact ⟨rfl, rfl⟩
/-- does a fee-rate pay? -/
def Am.Pays (f v per least : Int) : Prop := Am.needs v per ∧ Am.Right f v ∧ Am.need v per ≤ f ∧ least ≤ f
instance (f v per least : Int) : Decidable (Am.Pays f v per least) := inferInstanceAs (Decidable (_ ∧ _))
end Go.Proofs.YtdfplenniamnoaaGreatDoor

/-! Slices of ints: how they are read and appended to, compared. Nothing of the program's own. -/
namespace Go.Proofs.YtdfplenniamnoaaGreatDoor
open Go Go.RowKit Go.ChangeShapes Go.WideShapes
theorem info_num : (Tryz.prog.info? 3).map (fun i => (i.zero, i.size, i.bytes)) = some (some (.int .i64 0), 1, 8) := by kernel_rfl
/-- the place i of a list of numbers -/
def cn (l : List (Int)) (i : Nat) : Int := l.getD i 0
/-! the slices -/
def nlist (l : List (Int)) : List Value := l.map fun x => .int .i64 (x)
theorem nlist_length (l : List (Int)) : (nlist l).length = l.length := by simp [nlist]
theorem nlist_at (l : List (Int)) (i : Nat) (h : i < l.length) : (nlist l)[i]? = some (.int .i64 ((cn l i))) := by
  rw [nlist, List.getElem?_map, cn, List.getD_eq_getElem?_getD, List.getElem?_eq_getElem h]; rfl
theorem nlist_one (l : List (Int)) : ∀ v ∈ nlist l, v.oneCell' = true := by
  intro v hv
  rw [nlist, List.mem_map] at hv
  obtain ⟨x, _, rfl⟩ := hv
  rfl
theorem nlist_app (l m : List (Int)) : nlist (l ++ m) = nlist l ++ nlist m := by simp [nlist]
/-- a slice of numbers: its elements l, readable where there are any -/
def Nums (w : World) (a : Option Addr) (n : Nat) (l : List (Int)) : Prop :=
  l.length = n ∧ n ≤ maxLen ∧ ∀ i, i < n → ∃ x, a = some x ∧ w.cell? (x.add i) = some (.int .i64 ((cn l i)))
theorem nums_none (w : World) : Nums w none 0 [] := ⟨rfl, by unfold maxLen; omega, fun i hi => by omega⟩
/-- v is the call's own slice of numbers, made since block B; l: its elements -/
def OwnN (T : TypeId) (B : Nat) (w : World) (v : Value) (l : List (Int)) : Prop := w.ownsRow B T 1 v l.length (nlist l)
section
variable {T : TypeId} {B : Nat} {w w' : World} {v : Value} {l : List (Int)}
theorem OwnN.nil (T : TypeId) (B : Nat) (w : World) : OwnN T B w (.slice none 0 0) [] := World.ownsRow_nil _ _ _ _
theorem OwnN.all {m : List (Int)} {k : Nat} (hk : m.length = k) (h : w'.ownsRow B T 1 v (l.length + k) (nlist l ++ nlist m)) : OwnN T B w' v (l ++ m) := by
  subst hk
  unfold OwnN
  rw [nlist_app]
  simpa using h
theorem OwnN.lt (h : OwnN T B w v l) : ∀ k, v.ownBlock = some k → B ≤ k := fun k hk => (World.ownsRow.lt h k hk).1
theorem OwnN.below (h : OwnN T B w v l) (hb : Below w.heap.size w w') : OwnN T B w' v l := by
  refine ⟨h.1, ?_⟩
  rcases h.2 with hn | ⟨G, cap, cur, rfl, h1, h2, rest⟩
  · exact .inl hn
  · exact .inr ⟨G, cap, cur, rfl, h1, (hb.block _ (Array.getElem?_eq_some_iff.1 h2).1).trans h2, rest⟩
/-- to read it -/
theorem OwnN.shape {K : Nat} (h : OwnN T B w v l) (hK : l.length = K) : ∃ a c, v = .slice a K c ∧ K ≤ c ∧ (a = none → c = 0) ∧ Nums w a K l := by
  subst hK
  obtain ⟨hl, ⟨rfl, h0⟩ | ⟨g, cap, cur, rfl, hg, hh, hn, hm, hc, ht⟩⟩ := h
  · obtain rfl := List.length_eq_zero_iff.1 h0
    exact ⟨none, 0, rfl, Nat.le_refl _, fun _ => rfl, nums_none w⟩
  · refine ⟨_, cap, rfl, hn, (fun e => by cases e), rfl, by omega, fun i hi => ⟨_, rfl, ?_⟩⟩
    rw [Addr.add_mid, Nat.zero_add, (show Has w g T cur from hh).cell i, ← nlist_at l i hi, ← ht, List.getElem?_take, if_pos (by omega), Array.getElem?_toList]
end
theorem below_own_rown {w0 w w' : World} {row : Option Nat} (hb : Below w0.heap.size w0 w) (hg : w.grownBy w' row) (hr : ∀ k, row = some k → w0.heap.size ≤ k) : Below w0.heap.size w0 w' := hb.grown hg hb.size hr
/-- append(own, a...), a whatever -/
theorem wpList_append_nums {P : Program} {w : World} {ops : Array Oper} {rest : List Oper} {o : Oper} {a : Act} {Q : Exit → Act → World → Prop} (hgd : o.guard = none) (s x : Operand) (t : TypeId)
    (ho : o.op = .call { callee := .builtin .append, args := #[s, x], argTypes := #[t, t] })
    (T : TypeId) (ht : P.underlying t = some (.slice T)) (hinfo : (P.info? T).map (fun i => (i.zero, i.size, i.bytes)) = some (some (.int .i64 0), 1, 8))
    (B : Nat) (v : Value) (l : List (Int)) (hs : a.eval s = v) (hown : OwnN T B w v l) (ad : Option Addr) (m c : Nat) (l2 : List (Int)) (hx : a.eval x = .slice ad m c) (hw : Nums w ad m l2) (hc : ad = none → c = 0)
    (h63 : l.length + m ≤ 1099511627776) (hbase : B ≤ w.heap.size)
    (h : ∀ v' w', OwnN T B w' v' (l ++ l2) → w.grownBy w' v.ownBlock → wpList P ops Q rest (a.put o.dst v') w') : wpList P ops Q (o :: rest) a w := by
  obtain ⟨i0, hi, hz0, hz1, hz2⟩ := info_parts hinfo
  obtain ⟨hl2, hm, hcell⟩ := hw
  rcases ad with _ | ad
  · have h0 : m = 0 := by
      rcases Nat.eq_zero_or_pos m with h0 | h0
      · exact h0
      · obtain ⟨_, e, _⟩ := hcell 0 h0
        cases e
    subst h0
    obtain rfl := List.length_eq_zero_iff.1 hl2
    obtain rfl := hc rfl
    exact wpList_append_own_none hgd s x t ho B T i0 1 ht hi v _ _ hs hown hx (h v w (by simpa using hown) (World.grownBy.refl w _))
  · refine wpList_append_own w hgd s x t ho B T i0 (.int .i64 0) 1 8 ht hi hz0 hz1 hz2 rfl (by decide) v _ _ hs hown ad m c (nlist l2) hx (by rw [nlist_length, hl2, Nat.mul_one]) (fun j u hj => ?_) (nlist_one _) (by unfold maxLen; omega) (by omega) hbase ?_
    · have hj2 : j < l2.length := by
        have := (List.getElem?_eq_some_iff.1 hj).1
        rwa [nlist_length] at this
      obtain ⟨ad', e, hx2⟩ := hcell j (by omega)
      injection e with e
      subst e
      rw [hx2, ← hj, nlist_at l2 j hj2]
    · intro v' w' h1 h2 _
      exact h v' w' (OwnN.all hl2 h1) h2
section
variable {H : Type} {enc : TypeId × Value → H} {P : Program} {W : World} {base : Nat} {v : Value} {d : DataW H} {p : List MemPlace}
end
end Go.Proofs.YtdfplenniamnoaaGreatDoor

/-! the reference: With, Total, Compare -/
namespace Go.Proofs.YtdfplenniamnoaaGreatDoor
open Go Go.RowKit Go.ChangeShapes Go.WideShapes
/-- two fee-rates put together -/
def Am.Fits (f v g u : Int) : Prop := Am.Right f v ∧ Am.Right g u ∧ Am.Right (f + g) (v + u)
instance (f v g u : Int) : Decidable (Am.Fits f v g u) := inferInstanceAs (Decidable (_ ∧ _))
end Go.Proofs.YtdfplenniamnoaaGreatDoor
