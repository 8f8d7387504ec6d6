/- package coins: a set and its map; all, Len, New · package coins: Get, has; which of many points have a coin (mkctb.py) -/
import Derived.Test.YtdfplenniamnoaaGreatDoorJ01
import Derived.Test.YtdfplenniamnoaaGreatDoorJ06
import Derived.Test.YtdfplenniamnoaaGreatDoorJ02
import Derived.Test.YtdfplenniamnoaaGreatDoorJ03
import Derived.Test.YtdfplenniamnoaaGreatDoorJ11
import Derived.Test.YtdfplenniamnoaaGreatDoorJ12
import Derived.Test.YtdfplenniamnoaaGreatDoorJ04
import Derived.Test.YtdfplenniamnoaaGreatDoorJ05
import Derived.Test.YtdfplenniamnoaaGreatDoorJ14
import Derived.Test.YtdfplenniamnoaaGreatDoorJ15
import Derived.Test.YtdfplenniamnoaaGreatDoorJ16
/-! package coins: a set and its map; all, Len, New -/
namespace Go.Proofs.YtdfplenniamnoaaGreatDoor
open Go Go.RowKit Go.ChangeShapes Go.WideShapes
/-- a map of points to coins, the one that isn't there among them -/
def MapV (w : World) (mv : Value) (M : List (Cs.Pt × Tx.Co)) : Prop := (∃ b, mv = .map (some b) ∧ MapAt w b M) ∨ (mv = .map none ∧ M = [])
theorem MapV.below {w w' : World} {mv : Value} {M : List (Cs.Pt × Tx.Co)} (h : MapV w mv M) (hb : Below w.heap.size w w') : MapV w' mv M := by
  rcases h with ⟨b, h, hm⟩ | h
  · exact .inl ⟨b, h, hm.below hb⟩
  · exact .inr h
theorem MapV.look {w : World} {mv : Value} {M : List (Cs.Pt × Tx.Co)} (h : MapV w mv M) (p : Cs.Pt) (hp : p.1.length = 32) (c : Bool) :
    (Instr.lookup 111 mv (Cs.ptV p) c).run Tryz.prog w = .ok (Cs.got M p c) w := by
  rcases h with ⟨b, rfl, hm⟩ | ⟨rfl, rfl⟩
  · exact hm.look p hp c
  · have hz := zero_coin w
    have hf := run_findPt w p hp [] [] rfl (fun _ h => by cases h)
    simp [Instr.lookup, run_underlying Tryz.underlying111, run_checkPt _ w p hp, hf, hz, Result.andThen, Cs.got, Cs.look, Cs.idx]
theorem MapV.len {w : World} {mv : Value} {M : List (Cs.Pt × Tx.Co)} (h : MapV w mv M) (ty : TypeId) : (Builtin.len_ #[111] ty #[mv]).run Tryz.prog w = .ok (.int .i64 M.length) w := by
  rcases h with ⟨b, rfl, hm⟩ | ⟨rfl, rfl⟩
  · exact hm.len ty
  · simp [Builtin.len_, run_underlying Tryz.underlying111, goInt, Result.andThen]
section
variable {w : World} {ops : Array Oper} {rest : List Oper} {o : Oper} {a : Act} {Q : Exit → Act → World → Prop} {M : List (Cs.Pt × Tx.Co)} {mv : Value}
theorem wpList_len_mv (hg : o.guard = none) (m : Operand) (hop : o.op = Op.call { callee := Callee.builtin Builtin.len, args := #[m], argTypes := #[111] }) (hm : a.eval m = mv) (h : MapV w mv M)
    (hK : wpList Tryz.prog ops Q rest (a.put o.dst (.int .i64 M.length)) w) : wpList Tryz.prog ops Q (o :: rest) a w := by
  refine wpList_plain hg fun K' hK' => ?_
  unfold Oper.wp
  simp [execOp, hop, resolve, invoke, builtin, hm, h.len o.type, Result.andThen]
  exact hK' _ _ hK
theorem yieldsIf_lookup_mv {S : World → Prop} (hw : Region.wanted o (yielded ops a.tmps) = true) (m x : Operand) (c : Bool) (hop : o.op = Op.lookup 111 m x c) (hm : a.eval m = mv) (p : Cs.Pt) (hx : a.eval x = Cs.ptV p) (hp : p.1.length = 32) (h : ∀ w, S w → MapV w mv M) {v : Value} (hv : Cs.got M p c = v) :
    YieldsIf Tryz.prog ops S o v a :=
  .inl ⟨hw, fun w hS => by
    have hrun := (h w hS).look p hp c
    rw [hv] at hrun
    unfold execOp
    simp only [hop, hm, hx, Sem.run_bind, Sem.run_pure, hrun, Result.andThen_ok]⟩
end
/-- a set: its block g, its map's block b -/
structure SetB (w : World) (g b : Nat) (M : List (Cs.Pt × Tx.Co)) : Prop where
  has : Has w g 113 #[.map (some b)]
  map : MapAt w b M
def SetAt (w : World) (v : Value) (F : Nat → Prop) (M : List (Cs.Pt × Tx.Co)) : Prop := ∃ g b, v = .pointer (some ⟨g, 0, none⟩) ∧ SetB w g b M ∧ F = fun j => j = g ∨ j = b
/-- a set that may be none -/
def SetN (w : World) (v : Value) (F : Nat → Prop) (M : List (Cs.Pt × Tx.Co)) : Prop := SetAt w v F M ∨ (v = .pointer none ∧ F = (fun _ => False) ∧ M = [])
theorem SetB.moved {G : Nat → Prop} {w w' : World} {g b : Nat} {M : List (Cs.Pt × Tx.Co)} (h : SetB w g b M) (hm : Moved G w w') (h1 : ¬ G g) (h2 : ¬ G b) : SetB w' g b M := ⟨h.has.moved hm h1, h.map.moved hm h2⟩
theorem SetB.below {w w' : World} {g b : Nat} {M : List (Cs.Pt × Tx.Co)} (h : SetB w g b M) (hb : Below w.heap.size w w') : SetB w' g b M := h.moved (G := fun _ => False) (Moved.of_below hb) (fun e => e) (fun e => e)
theorem SetB.ne {w : World} {g b : Nat} {M : List (Cs.Pt × Tx.Co)} (h : SetB w g b M) : g ≠ b := by
  rintro rfl
  obtain ⟨es, clock, hb, _⟩ := h.map
  have h1 : w.heap[g]? = _ := h.has
  rw [h1] at hb
  cases hb
theorem SetAt.moved {G F : Nat → Prop} {w w' : World} {v : Value} {M : List (Cs.Pt × Tx.Co)} (h : SetAt w v F M) (hm : Moved G w w') (hG : ∀ j, F j → ¬ G j) : SetAt w' v F M := by
  obtain ⟨g, b, hv, hs, rfl⟩ := h
  exact ⟨g, b, hv, hs.moved hm (hG g (.inl rfl)) (hG b (.inr rfl)), rfl⟩
theorem SetAt.below {F : Nat → Prop} {w w' : World} {v : Value} {M : List (Cs.Pt × Tx.Co)} (h : SetAt w v F M) (hb : Below w.heap.size w w') : SetAt w' v F M := h.moved (G := fun _ => False) (Moved.of_below hb) (fun _ _ e => e)
theorem SetN.below {F : Nat → Prop} {w w' : World} {v : Value} {M : List (Cs.Pt × Tx.Co)} (h : SetN w v F M) (hb : Below w.heap.size w w') : SetN w' v F M := h.imp (·.below hb) id
theorem SetN.ptr {F : Nat → Prop} {w : World} {v : Value} {M : List (Cs.Pt × Tx.Co)} (h : SetN w v F M) : ∃ a, v = .pointer a := by
  rcases h with ⟨g, b, h, _⟩ | ⟨h, _⟩
  · exact ⟨_, h⟩
  · exact ⟨_, h⟩
set_option maxHeartbeats 4000000 in
theorem all_any {w : World} {v : Value} {F : Nat → Prop} {M : List (Cs.Pt × Tx.Co)} (h : SetN w v F M) : ∃ m, MapV w (.map m) M ∧ ∀ w', Below w.heap.size w w' → Calls Tryz.prog 78 #[v] w' fun e w2 => e = .returned (.map m) ∧ w' = w2 := by
  rcases h with ⟨g, b, rfl, hs, rfl⟩ | ⟨rfl, rfl, rfl⟩
  · refine ⟨some b, .inl ⟨b, rfl, hs.map⟩, fun w' hb => ?_⟩
    have c0 : w'.cell? ⟨g, 0, none⟩ = some (.map (some b)) := (hs.has.under hb hs.has.lt).cell_at rfl
    go_enter Tryz.func78, Tryz.ntmps78
    go_wp2
    go_ret
    exact ⟨rfl, rfl⟩
  · refine ⟨none, .inr ⟨rfl, rfl⟩, fun w' hb => ?_⟩
    go_enter Tryz.func78, Tryz.ntmps78
    go_wp2
    go_ret
    exact ⟨rfl, rfl⟩
set_option maxHeartbeats 4000000 in
theorem plen_any {w : World} {v : Value} {F : Nat → Prop} {M : List (Cs.Pt × Tx.Co)} (h : SetN w v F M) : Calls Tryz.prog 25 #[v] w fun e w' => e = .returned (.int .i64 M.length) ∧ Below w.heap.size w w' := by
  obtain ⟨m, hm, HA⟩ := all_any h
  clear h
  go_enter Tryz.func25, Tryz.ntmps25
  go_wp2_with (first
    | (go_at_call 78; refine (HA _ (Below.refl _ _)).mono ?_; rintro e w2 ⟨rfl, rfl⟩)
    | (refine wpList_len_mv rfl (.tmp 4) rfl rfl hm ?_))
  go_ret
  exact ⟨rfl, Below.refl _ _⟩
set_option maxHeartbeats 4000000 in
theorem pnew_any (w : World) : Calls Tryz.prog 11 #[] w fun e w' => e = .returned (.pointer (some ⟨w.heap.size + 1, 0, none⟩)) ∧ SetB w' (w.heap.size + 1) w.heap.size [] ∧ Below w.heap.size w w' := by
  have hmm := @run_makeMap Tryz.prog
  have hbd := fun (w : World) (n : Option Nat) => run_build (P := Tryz.prog) w 113 #[(0, .map n)] #[.map n] (by kernel_rfl)
  go_enter Tryz.func11, Tryz.ntmps11
  go_wp2
  go_ret
  exact ⟨by simp, ⟨Has.fresh_at _ _ _ (by simp), (MapAt.fresh w).below ((Below.refl _ _).alloc (Nat.le_refl _) _)⟩, ((Below.refl _ _).alloc (Nat.le_refl _) _).alloc (by simp) _⟩
end Go.Proofs.YtdfplenniamnoaaGreatDoor

/-! package coins: Get, has; which of many points have a coin (mkctb.py) -/
namespace Go.Proofs.YtdfplenniamnoaaGreatDoor
open Go Go.RowKit Go.ChangeShapes Go.WideShapes
theorem size_pt {p : Cs.Pt} (hp : p.1.length = 32) : (Tryz.prog.info? 36).map (·.size) = some (ptCells p.1 p.2).toArray.size := by
  rw [List.size_toArray, ptCells_len hp]
  kernel_rfl
theorem size_co (c : Tx.Co) : (Tryz.prog.info? 39).map (·.size) = some (coCells c).toArray.size := by kernel_rfl
set_option maxRecDepth 100000 in
set_option maxHeartbeats 8000000 in
theorem pget_any {w : World} {v : Value} {F : Nat → Prop} {M : List (Cs.Pt × Tx.Co)} (h : SetN w v F M) (p : Cs.Pt) (hp : p.1.length = 32) :
    Calls Tryz.prog 21 #[v, .agg (ptCells p.1 p.2).toArray] w fun e w' => e = .returned (.tuple #[.agg (coCells ((Cs.look M p).getD ⟨0, 0#64⟩)).toArray, .bool (Cs.look M p).isSome]) ∧ Below w.heap.size w w' := by
  obtain ⟨m, hm, HA⟩ := all_any h
  obtain ⟨x, hx⟩ : ∃ x, x = (Cs.look M p).getD ⟨0, 0#64⟩ := ⟨_, rfl⟩
  obtain ⟨o, ho⟩ : ∃ o, o = (Cs.look M p).isSome := ⟨_, rfl⟩
  rw [← hx, ← ho]
  have HGOT := Lib.hid (show Cs.got M p true = .tuple #[.agg (coCells x).toArray, .bool o] by rw [hx, ho]; rfl)
  clear hx ho
  obtain ⟨W1, hW1⟩ : ∃ ww, ww = (w.alloc (.cells (ptCells p.1 p.2).toArray 36)).alloc (.cells #[.int .i64 0, .int .u64 0] 39) := ⟨_, rfl⟩
  have hB1 : Below w.heap.size w W1 := by rw [hW1]; exact ((Below.refl _ _).alloc (Nat.le_refl _) _).alloc (by simp) _
  have hP1 : Has W1 w.heap.size 36 (ptCells p.1 p.2).toArray := by rw [hW1]; exact (Has.fresh _ _ _).past _
  have hR1 : Has W1 (w.heap.size + 1) 39 #[.int .i64 0, .int .u64 0] := by rw [hW1]; exact Has.fresh_at _ _ _ (by simp)
  have HW1 := Lib.hid hW1
  clear hW1 h
  go_enter Tryz.func21, Tryz.ntmps21
  go_upto_region 1 with fail
  rw [← HW1.out]
  obtain ⟨ws, hws⟩ : ∃ ww, ww = W1.drew := ⟨_, rfl⟩
  have hBs : Below w.heap.size w ws := by rw [hws]; exact hB1.drew
  have hPs : Has ws w.heap.size 36 (ptCells p.1 p.2).toArray := by rw [hws]; exact hP1.draw
  have hRs : Has ws (w.heap.size + 1) 39 #[.int .i64 0, .int .u64 0] := by rw [hws]; exact hR1.draw
  have lP := fun (wq : World) (hSw : Held ws wq) => (hPs.under hSw.below hPs.lt).load_agg (P := Tryz.prog) (t := 36) Tryz.underlying36 rfl (size_pt hp)
  have HM := Lib.hid (fun (wq : World) (hSw : Held ws wq) => (hm.below hBs).below hSw.below)
  refine wp_region_held_drew (S := Held ws) (by kernel_rfl) (by rw [hws]; exact Held.refl _) (fun hHeld => ?_)
  rw [← hws] at hHeld ⊢
  clear hws hB1 hP1 hR1 HW1
  refine take_at (v := ?_) 0 9 rfl rfl (by kernel_rfl) (by kernel_rfl) (by kernel_rfl) (fun _ _ _ h => h) hHeld (Or.inl ⟨by rfl, ?_⟩) rfl ?_
  rotate_left
  · intro wq hSw
    go_simp
    try with_reducible rfl
  simp only [List.set_cons_zero, List.set_cons_succ]
  refine take_at 2 11 rfl rfl (by kernel_rfl) (by kernel_rfl) (by kernel_rfl) (fun _ _ _ h => h) hHeld (yieldsIf_load_agg (by rfl) 36 (.tmp 3) rfl _ _ (by rfl) (fun wq hSw => lP wq hSw)) rfl ?_
  simp only [List.set_cons_zero, List.set_cons_succ]
  refine wpAnyH_ready (rs := [1, 7]) (by kernel_rfl) (by simp) ?_
  refine AllReadyH.cons rfl (fun K hK => ?_) (AllReadyH.cons rfl (fun K hK => ?_) AllReadyH.nil)
  · go_simp
    go_at_call 78
    refine (HA _ (hBs.trans (hHeld.below.mono hBs.size))).mono ?_
    rintro e w2 ⟨rfl, rfl⟩
    refine hK.out _ _ hHeld (fun _ => ?_)
    clear hK K
    try simp only [Act.put, List.setIfInBounds_toArray, List.set_cons_zero, List.set_cons_succ]
    refine take_at 3 12 rfl rfl (by kernel_rfl) (by kernel_rfl) (by kernel_rfl) (fun _ _ _ h => h) hHeld (yieldsIf_lookup_mv (M := M) (mv := .map m) (by rfl) (.tmp 10) (.tmp 11) true rfl rfl p rfl hp (fun wq hSw => HM.out wq hSw) HGOT.out) rfl ?_
    simp only [List.set_cons_zero, List.set_cons_succ]
    refine take_at (v := ?_) 4 8 rfl rfl (by kernel_rfl) (by kernel_rfl) (by kernel_rfl) (fun _ _ _ h => h) hHeld (Or.inl ⟨by rfl, ?_⟩) rfl ?_
    rotate_left
    · intro wq hSw
      go_simp
      try with_reducible rfl
    simp only [List.set_cons_zero, List.set_cons_succ]
    refine take_at (v := ?_) 5 13 rfl rfl (by kernel_rfl) (by kernel_rfl) (by kernel_rfl) (fun _ _ _ h => h) hHeld (Or.inl ⟨by rfl, ?_⟩) rfl ?_
    rotate_left
    · intro wq hSw
      go_simp
      try with_reducible rfl
    simp only [List.set_cons_zero, List.set_cons_succ]
    refine take_at (v := ?_) 6 14 rfl rfl (by kernel_rfl) (by kernel_rfl) (by kernel_rfl) (fun _ _ _ h => h) hHeld (Or.inl ⟨by rfl, ?_⟩) rfl ?_
    rotate_left
    · intro wq hSw
      go_simp
      try with_reducible rfl
    simp only [List.set_cons_zero, List.set_cons_succ]
    refine wpAnyH_ready (rs := [7]) (by kernel_rfl) (by simp) ?_
    refine AllReadyH.cons rfl (fun K hK => ?_) AllReadyH.nil
    go_simp
    obtain ⟨wa, hwa⟩ : ∃ ww, ww = ws.alloc (.cells #[.int .i64 0, .int .u64 0] 39) := ⟨_, rfl⟩
    obtain ⟨ga, hga⟩ : ∃ x, x = ws.heap.size := ⟨_, rfl⟩
    rw [← hwa, ← hga]
    have hA2 : Has wa ga 39 #[.int .i64 0, .int .u64 0] := by rw [hwa, hga]; exact Has.fresh _ _ _
    have hba : Below ws.heap.size ws wa := by rw [hwa]; exact (Below.refl _ _).alloc (Nat.le_refl _) _
    have hLa : ws.heap.size ≤ ga := by omega
    clear hwa hga
    refine hK.out _ _ (Held.of hba) (fun _ => ?_)
    clear hK K
    try simp only [Act.put, List.setIfInBounds_toArray, List.set_cons_zero, List.set_cons_succ]
    replace hHeld : Held ws wa := Held.of hba
    refine wpAnyH_ready (rs := [8]) (by kernel_rfl) (by simp) ?_
    refine AllReadyH.cons rfl (fun K hK => ?_) AllReadyH.nil
    refine step_store_row (by rfl) 39 (.tmp 6) (.tmp 13) rfl ga 0 (coCells x).toArray (by first | rfl | simp [Act.eval]) (by first | rfl | simp [Act.eval]) (hA2.there 0 2 (Nat.le_refl _)) (size_co x) (coRec.all_one x) rfl ?_
    obtain ⟨wt, hwt⟩ : ∃ ww, ww = wa.setCells ga 0 (coCells x).toArray.toList := ⟨_, rfl⟩
    rw [← hwt]
    have hAt : Has wt ga 39 (coCells x).toArray := by rw [hwt]; exact hA2.whole_cs rfl
    have hbt : Below ws.heap.size ws wt := by rw [hwt]; exact below_setAll hLa _ 0 hba
    clear hwt
    refine hK.out _ _ (Held.of hbt) (fun _ => ?_)
    clear hK K
    replace hHeld := Held.of hbt
    try simp only [Act.put, List.setIfInBounds_toArray, List.set_cons_zero, List.set_cons_succ]
    refine take_at (v := ?_) 9 7 rfl rfl (by kernel_rfl) (by kernel_rfl) (by kernel_rfl) (fun _ _ _ h => h) hHeld (Or.inl ⟨by rfl, ?_⟩) rfl ?_
    rotate_left
    · intro wq hSw
      go_simp
      try with_reducible rfl
    simp only [List.set_cons_zero, List.set_cons_succ]
    refine wpAnyH_done (by kernel_rfl) ?_ _
    have hRt := hRs.under hbt hRs.lt
    have lA := hAt.load_agg (P := Tryz.prog) (t := 39) Tryz.underlying39 rfl (size_co x)
    have hTt := hBs.trans (hbt.mono hBs.size)
    go_wp2_with (first
      | (refine wpList_load_run rfl 39 (.tmp 6) rfl _ _ rfl lA ?_)
      | (refine wpList_store_mid rfl 39 (.tmp 4) (.tmp 15) rfl (w.heap.size + 1) 0 (coCells x).toArray rfl rfl (hRt.there 0 2 (Nat.le_refl _)) (size_co x) (coRec.all_one x) ?_))
    have hE := hRt.whole_cs (cs2 := (coCells x).toArray) rfl
    exact bodyPost_ret (results_cellslot rfl _ _ (w.heap.size + 1) rfl _ _ (hE.load_var Tryz.underlying39 rfl (size_co x)) rfl) rfl ⟨rfl, below_setAll (by omega) _ 0 hTt⟩
  · go_simp
    obtain ⟨wa, hwa⟩ : ∃ ww, ww = ws.alloc (.cells #[.int .i64 0, .int .u64 0] 39) := ⟨_, rfl⟩
    obtain ⟨ga, hga⟩ : ∃ x, x = ws.heap.size := ⟨_, rfl⟩
    rw [← hwa, ← hga]
    have hA2 : Has wa ga 39 #[.int .i64 0, .int .u64 0] := by rw [hwa, hga]; exact Has.fresh _ _ _
    have hba : Below ws.heap.size ws wa := by rw [hwa]; exact (Below.refl _ _).alloc (Nat.le_refl _) _
    have hLa : ws.heap.size ≤ ga := by omega
    clear hwa hga
    refine hK.out _ _ (Held.of hba) (fun _ => ?_)
    clear hK K
    try simp only [Act.put, List.setIfInBounds_toArray, List.set_cons_zero, List.set_cons_succ]
    replace hHeld : Held ws wa := Held.of hba
    refine wpAnyH_ready (rs := [1]) (by kernel_rfl) (by simp) ?_
    refine AllReadyH.cons rfl (fun K hK => ?_) AllReadyH.nil
    go_simp
    go_at_call 78
    refine (HA _ (hBs.trans (hHeld.below.mono hBs.size))).mono ?_
    rintro e w2 ⟨rfl, rfl⟩
    refine hK.out _ _ hHeld (fun _ => ?_)
    clear hK K
    try simp only [Act.put, List.setIfInBounds_toArray, List.set_cons_zero, List.set_cons_succ]
    refine take_at 3 12 rfl rfl (by kernel_rfl) (by kernel_rfl) (by kernel_rfl) (fun _ _ _ h => h) hHeld (yieldsIf_lookup_mv (M := M) (mv := .map m) (by rfl) (.tmp 10) (.tmp 11) true rfl rfl p rfl hp (fun wq hSw => HM.out wq hSw) HGOT.out) rfl ?_
    simp only [List.set_cons_zero, List.set_cons_succ]
    refine take_at (v := ?_) 4 8 rfl rfl (by kernel_rfl) (by kernel_rfl) (by kernel_rfl) (fun _ _ _ h => h) hHeld (Or.inl ⟨by rfl, ?_⟩) rfl ?_
    rotate_left
    · intro wq hSw
      go_simp
      try with_reducible rfl
    simp only [List.set_cons_zero, List.set_cons_succ]
    refine take_at (v := ?_) 5 13 rfl rfl (by kernel_rfl) (by kernel_rfl) (by kernel_rfl) (fun _ _ _ h => h) hHeld (Or.inl ⟨by rfl, ?_⟩) rfl ?_
    rotate_left
    · intro wq hSw
      go_simp
      try with_reducible rfl
    simp only [List.set_cons_zero, List.set_cons_succ]
    refine take_at (v := ?_) 6 14 rfl rfl (by kernel_rfl) (by kernel_rfl) (by kernel_rfl) (fun _ _ _ h => h) hHeld (Or.inl ⟨by rfl, ?_⟩) rfl ?_
    rotate_left
    · intro wq hSw
      go_simp
      try with_reducible rfl
    simp only [List.set_cons_zero, List.set_cons_succ]
    refine wpAnyH_ready (rs := [8]) (by kernel_rfl) (by simp) ?_
    refine AllReadyH.cons rfl (fun K hK => ?_) AllReadyH.nil
    refine step_store_row (by rfl) 39 (.tmp 6) (.tmp 13) rfl ga 0 (coCells x).toArray (by first | rfl | simp [Act.eval]) (by first | rfl | simp [Act.eval]) (hA2.there 0 2 (Nat.le_refl _)) (size_co x) (coRec.all_one x) rfl ?_
    obtain ⟨wt, hwt⟩ : ∃ ww, ww = wa.setCells ga 0 (coCells x).toArray.toList := ⟨_, rfl⟩
    rw [← hwt]
    have hAt : Has wt ga 39 (coCells x).toArray := by rw [hwt]; exact hA2.whole_cs rfl
    have hbt : Below ws.heap.size ws wt := by rw [hwt]; exact below_setAll hLa _ 0 hba
    clear hwt
    refine hK.out _ _ (Held.of hbt) (fun _ => ?_)
    clear hK K
    replace hHeld := Held.of hbt
    try simp only [Act.put, List.setIfInBounds_toArray, List.set_cons_zero, List.set_cons_succ]
    refine take_at (v := ?_) 9 7 rfl rfl (by kernel_rfl) (by kernel_rfl) (by kernel_rfl) (fun _ _ _ h => h) hHeld (Or.inl ⟨by rfl, ?_⟩) rfl ?_
    rotate_left
    · intro wq hSw
      go_simp
      try with_reducible rfl
    simp only [List.set_cons_zero, List.set_cons_succ]
    refine wpAnyH_done (by kernel_rfl) ?_ _
    have hRt := hRs.under hbt hRs.lt
    have lA := hAt.load_agg (P := Tryz.prog) (t := 39) Tryz.underlying39 rfl (size_co x)
    have hTt := hBs.trans (hbt.mono hBs.size)
    go_wp2_with (first
      | (refine wpList_load_run rfl 39 (.tmp 6) rfl _ _ rfl lA ?_)
      | (refine wpList_store_mid rfl 39 (.tmp 4) (.tmp 15) rfl (w.heap.size + 1) 0 (coCells x).toArray rfl rfl (hRt.there 0 2 (Nat.le_refl _)) (size_co x) (coRec.all_one x) ?_))
    have hE := hRt.whole_cs (cs2 := (coCells x).toArray) rfl
    exact bodyPost_ret (results_cellslot rfl _ _ (w.heap.size + 1) rfl _ _ (hE.load_var Tryz.underlying39 rfl (size_co x)) rfl) rfl ⟨rfl, below_setAll (by omega) _ 0 hTt⟩
set_option maxRecDepth 100000 in
set_option maxHeartbeats 8000000 in
theorem phas_any {w : World} {v : Value} {F : Nat → Prop} {M : List (Cs.Pt × Tx.Co)} (h : SetN w v F M) (p : Cs.Pt) (hp : p.1.length = 32) :
    Calls Tryz.prog 54 #[v, .agg (ptCells p.1 p.2).toArray] w fun e w' => e = .returned (.bool (Cs.look M p).isSome) ∧ Below w.heap.size w w' := by
  obtain ⟨W1, hW1⟩ : ∃ ww, ww = w.alloc (.cells (ptCells p.1 p.2).toArray 36) := ⟨_, rfl⟩
  have hB1 : Below w.heap.size w W1 := by rw [hW1]; exact (Below.refl _ _).alloc (Nat.le_refl _) _
  have hP1 : Has W1 w.heap.size 36 (ptCells p.1 p.2).toArray := by rw [hW1]; exact Has.fresh _ _ _
  have HG := Lib.hid (pget_any (h.below hB1) p hp)
  have lP := hP1.load_agg (P := Tryz.prog) (t := 36) Tryz.underlying36 rfl (size_pt hp)
  have HW1 := Lib.hid hW1
  obtain ⟨x, hx⟩ : ∃ x, x = (Cs.look M p).getD ⟨0, 0#64⟩ := ⟨_, rfl⟩
  obtain ⟨o, ho⟩ : ∃ o, o = (Cs.look M p).isSome := ⟨_, rfl⟩
  rw [← ho]
  rw [← ho, ← hx] at HG
  clear hW1 h hx ho hP1
  go_enter Tryz.func54, Tryz.ntmps54
  go_upto_region 1 with fail
  rw [← HW1.out]
  go_wp2_with (first
    | (refine wpList_store_mid rfl 39 (.tmp 5) (.tmp 11) rfl w2.heap.size 0 (coCells x).toArray rfl rfl ((Has.fresh w2 39 #[.int .i64 0, .int .u64 0]).there 0 2 (Nat.le_refl _)) (size_co x) (coRec.all_one x) ?_)
    | (go_at_call 21; refine HG.out.mono ?_; rintro e w2 ⟨rfl, hb2⟩)
    | (refine wpList_load_run rfl 36 (.tmp 3) rfl _ _ rfl lP ?_))
  go_ret
  exact ⟨rfl, below_setAll (by have := hb2.size; have := hB1.size; omega) _ 0 ((hB1.trans (hb2.mono hB1.size)).alloc (by have := hb2.size; have := hB1.size; omega) _)⟩
set_option maxRecDepth 100000 in
set_option maxHeartbeats 8000000 in
theorem phasn_any {w : World} {v : Value} {F : Nat → Prop} {M : List (Cs.Pt × Tx.Co)} (h : SetN w v F M) (g : Nat) (hg : Has w g 30 #[v]) (p : Cs.Pt) (hp : p.1.length = 32) :
    Calls Tryz.prog 118 #[.agg (ptCells p.1 p.2).toArray, .pointer (some ⟨g, 0, none⟩)] w fun e w' => e = .returned (.bool (!(Cs.look M p).isSome)) ∧ Below w.heap.size w w' := by
  obtain ⟨W1, hW1⟩ : ∃ ww, ww = w.alloc (.cells (ptCells p.1 p.2).toArray 36) := ⟨_, rfl⟩
  have hB1 : Below w.heap.size w W1 := by rw [hW1]; exact (Below.refl _ _).alloc (Nat.le_refl _) _
  have hP1 : Has W1 w.heap.size 36 (ptCells p.1 p.2).toArray := by rw [hW1]; exact Has.fresh _ _ _
  have HG := Lib.hid (phas_any (h.below hB1) p hp)
  have lP := hP1.load_agg (P := Tryz.prog) (t := 36) Tryz.underlying36 rfl (size_pt hp)
  have c0 := (hg.under hB1 hg.lt).cell_at (i := 0) (v := v) rfl
  have HW1 := Lib.hid hW1
  obtain ⟨o, ho⟩ : ∃ o, o = (Cs.look M p).isSome := ⟨_, rfl⟩
  rw [← ho] at HG ⊢
  clear hW1 h ho hP1 hg
  go_enter Tryz.func118, Tryz.ntmps118
  go_upto_region 1 with fail
  rw [← HW1.out]
  go_wp2_with (first
    | (go_at_call 54; refine HG.out.mono ?_; rintro e w2 ⟨rfl, hb2⟩)
    | (refine wpList_load_run rfl 36 (.tmp 2) rfl _ _ rfl lP ?_))
  go_ret
  exact ⟨rfl, hB1.trans (hb2.mono hB1.size)⟩
set_option maxRecDepth 100000 in
set_option maxHeartbeats 8000000 in
theorem idx_has {w : World} {v : Value} {F : Nat → Prop} {M : List (Cs.Pt × Tx.Co)} (h0 : SetN w v F M) (a : Option Addr) (n q : Nat) (L : List Cs.Pt) (h : Recs ptRec w a n L) (r : Bool) (hr : r = L.any fun s => (fun s => (Cs.look M s).isSome) s) :
    Calls Tryz.prog 149 #[.slice a n q, .func (.func 54) #[v] #[]] w fun e w' => (∃ z : Int, e = .returned (.int .i64 z) ∧ (0 ≤ z ↔ r = true)) ∧ Below w.heap.size w w' := by
  have hmx : n ≤ 9223372036854775807 := h.2.1
  have HL := Lib.hid h.1
  have H0 := Lib.hid h0
  have HR := Lib.hid (show r = true ↔ ∃ s, s ∈ L ∧ (fun s => (Cs.look M s).isSome) s = true by rw [hr, List.any_eq_true])
  have HX := True.intro
  clear h0 hr
  go_enter Tryz.func149, Tryz.ntmps149
  go_wp2
  go_loopw [8] (fun iv wr => ∃ i : Nat, i ≤ n ∧ iv = .int .i64 i ∧ RowKit.Hid (∀ (j : Nat) (s : Cs.Pt), j < i → L[j]? = some s → ¬ ((fun s => (Cs.look M s).isSome) s = true)) ∧ Below w.heap.size w wr) (fun iv _ => n - (intOf iv).toNat)
  case atStart => exact ⟨0, Nat.zero_le _, rfl, Lib.hid (fun j s hj => by omega), Below.refl _ _⟩
  case round =>
    obtain ⟨i, hi, rfl, HB, hb⟩ := hrel
    by_cases hlt : i < n
    · have hii : (i : Int) < (n : Int) := by omega
      have hi0 : (0 : Int) ≤ (i : Int) := by omega
      obtain ⟨s, hs⟩ := h.get hlt
      obtain ⟨x, hax, _⟩ := h.2.2.2 i s hs
      subst hax
      have hy := (h.below hb).load_at Tryz.underlying36 rfl size_ptr hs
      have HS := Lib.hid (And.intro hs (h.okay hs))
      clear hs
      obtain ⟨o, ho⟩ : ∃ o, o = (fun s => (Cs.look M s).isSome) s := ⟨_, rfl⟩
      have HC := Lib.hid (show Calls Tryz.prog 54 #[v, .agg (ptCells s.1 s.2).toArray] wr fun e w' => e = .returned (.bool o) ∧ Below wr.heap.size wr w' from ho ▸ phas_any (H0.out.below hb) s (h.okay HS.out.1).1)
      have HV := Lib.hid ho
      clear ho
      cases o
      · have HB2 := Lib.hid (show ∀ (j : Nat) (u : Cs.Pt), j < i + 1 → L[j]? = some u → ¬ ((fun s => (Cs.look M s).isSome) u = true) from fun j u hj hu => by
          rcases Nat.lt_or_ge j i with h | h
          · exact HB.out j u h hu
          · have e2 : j = i := by omega
            subst e2
            rw [HS.out.1] at hu
            injection hu with hu
            subst hu
            rw [← HV.out]
            exact Bool.false_ne_true)
        go_wp2_with (first
          | (go_at_call 54; refine HC.out.mono ?_; rintro e w2 ⟨rfl, hb2⟩; have hbn := hb.trans (hb2.mono hb.size))
          | (refine wpList_load_run rfl 36 (.tmp 14) rfl _ _ rfl hy ?_))
        go_roundw
        case rel => exact ⟨i + 1, by omega, by go_num, HB2, hbn⟩
        case measure => (simp [intOf]; try omega)
      · have HT := Lib.hid (HR.out.2 ⟨s, List.mem_of_getElem? HS.out.1, HV.out.symm⟩)
        go_wp2_with (first
          | (go_at_call 54; refine HC.out.mono ?_; rintro e w2 ⟨rfl, hb2⟩; have hbn := hb.trans (hb2.mono hb.size))
          | (refine wpList_load_run rfl 36 (.tmp 14) rfl _ _ rfl hy ?_))
        go_ret
        exact ⟨⟨_, rfl, fun _ => HT.out, fun _ => by omega⟩, hbn⟩
    · have HF := Lib.hid (show ¬ r = true from fun hr => by
        obtain ⟨s, hm, hp⟩ := HR.out.1 hr
        obtain ⟨j, hj⟩ := List.mem_iff_getElem?.1 hm
        exact HB.out j s (by have h9 : j < L.length := (List.getElem?_eq_some_iff.1 hj).1; rw [HL.out] at h9; omega) hj hp)
      have hii : ¬ (i : Int) < (n : Int) := by omega
      go_wp2
      go_ret
      exact ⟨⟨_, rfl, fun h => by omega, fun h => (HF.out h).elim⟩, hb⟩
set_option maxRecDepth 100000 in
set_option maxHeartbeats 8000000 in
theorem cont_has {w : World} {v : Value} {F : Nat → Prop} {M : List (Cs.Pt × Tx.Co)} (h0 : SetN w v F M) (a : Option Addr) (n q : Nat) (L : List Cs.Pt) (h : Recs ptRec w a n L) :
    Calls Tryz.prog 112 #[.slice a n q, .func (.func 54) #[v] #[]] w fun e w' => e = .returned (.bool (L.any fun s => (fun s => (Cs.look M s).isSome) s)) ∧ Below w.heap.size w w' := by
  obtain ⟨r, hr⟩ : ∃ r, r = L.any fun s => (fun s => (Cs.look M s).isSome) s := ⟨_, rfl⟩
  rw [← hr]
  have HC := Lib.hid (idx_has h0 a n q L h r hr)
  clear hr
  clear h0
  go_enter Tryz.func112, Tryz.ntmps112
  go_wp2_with (go_at_call 149; refine HC.out.mono ?_; rintro e w1 ⟨⟨z, rfl, hz⟩, hb⟩; have HZ := Lib.hid hz; clear hz)
  go_ret
  refine ⟨?_, hb⟩
  have h1 : decide (0 ≤ z) = r := by
    rw [Bool.eq_iff_iff, decide_eq_true_iff, HZ.out]
  exact congrArg (fun b => Ending.returned (.bool b)) h1
set_option maxRecDepth 100000 in
set_option maxHeartbeats 8000000 in
theorem idx_hasn {w : World} {v : Value} {F : Nat → Prop} {M : List (Cs.Pt × Tx.Co)} (h0 : SetN w v F M) (g : Nat) (hg : Has w g 30 #[v]) (a : Option Addr) (n q : Nat) (L : List Cs.Pt) (h : Recs ptRec w a n L) (r : Bool) (hr : r = L.any fun s => (fun s => !(Cs.look M s).isSome) s) :
    Calls Tryz.prog 149 #[.slice a n q, .func (.func 118) #[] #[.pointer (some ⟨g, 0, none⟩)]] w fun e w' => (∃ z : Int, e = .returned (.int .i64 z) ∧ (0 ≤ z ↔ r = true)) ∧ Below w.heap.size w w' := by
  have hmx : n ≤ 9223372036854775807 := h.2.1
  have HL := Lib.hid h.1
  have H0 := Lib.hid h0
  have HR := Lib.hid (show r = true ↔ ∃ s, s ∈ L ∧ (fun s => !(Cs.look M s).isSome) s = true by rw [hr, List.any_eq_true])
  have HG := Lib.hid hg
  clear hg
  clear h0 hr
  go_enter Tryz.func149, Tryz.ntmps149
  go_wp2
  go_loopw [8] (fun iv wr => ∃ i : Nat, i ≤ n ∧ iv = .int .i64 i ∧ RowKit.Hid (∀ (j : Nat) (s : Cs.Pt), j < i → L[j]? = some s → ¬ ((fun s => !(Cs.look M s).isSome) s = true)) ∧ Below w.heap.size w wr) (fun iv _ => n - (intOf iv).toNat)
  case atStart => exact ⟨0, Nat.zero_le _, rfl, Lib.hid (fun j s hj => by omega), Below.refl _ _⟩
  case round =>
    obtain ⟨i, hi, rfl, HB, hb⟩ := hrel
    by_cases hlt : i < n
    · have hii : (i : Int) < (n : Int) := by omega
      have hi0 : (0 : Int) ≤ (i : Int) := by omega
      obtain ⟨s, hs⟩ := h.get hlt
      obtain ⟨x, hax, _⟩ := h.2.2.2 i s hs
      subst hax
      have hy := (h.below hb).load_at Tryz.underlying36 rfl size_ptr hs
      have HS := Lib.hid (And.intro hs (h.okay hs))
      clear hs
      obtain ⟨o, ho⟩ : ∃ o, o = (fun s => !(Cs.look M s).isSome) s := ⟨_, rfl⟩
      have HC := Lib.hid (show Calls Tryz.prog 118 #[.agg (ptCells s.1 s.2).toArray, .pointer (some ⟨g, 0, none⟩)] wr fun e w' => e = .returned (.bool o) ∧ Below wr.heap.size wr w' from ho ▸ phasn_any (H0.out.below hb) g (HG.out.under hb HG.out.lt) s (h.okay HS.out.1).1)
      have HV := Lib.hid ho
      clear ho
      cases o
      · have HB2 := Lib.hid (show ∀ (j : Nat) (u : Cs.Pt), j < i + 1 → L[j]? = some u → ¬ ((fun s => !(Cs.look M s).isSome) u = true) from fun j u hj hu => by
          rcases Nat.lt_or_ge j i with h | h
          · exact HB.out j u h hu
          · have e2 : j = i := by omega
            subst e2
            rw [HS.out.1] at hu
            injection hu with hu
            subst hu
            rw [← HV.out]
            exact Bool.false_ne_true)
        go_wp2_with (first
          | (go_at_call 118; refine HC.out.mono ?_; rintro e w2 ⟨rfl, hb2⟩; have hbn := hb.trans (hb2.mono hb.size))
          | (refine wpList_load_run rfl 36 (.tmp 14) rfl _ _ rfl hy ?_))
        go_roundw
        case rel => exact ⟨i + 1, by omega, by go_num, HB2, hbn⟩
        case measure => (simp [intOf]; try omega)
      · have HT := Lib.hid (HR.out.2 ⟨s, List.mem_of_getElem? HS.out.1, HV.out.symm⟩)
        go_wp2_with (first
          | (go_at_call 118; refine HC.out.mono ?_; rintro e w2 ⟨rfl, hb2⟩; have hbn := hb.trans (hb2.mono hb.size))
          | (refine wpList_load_run rfl 36 (.tmp 14) rfl _ _ rfl hy ?_))
        go_ret
        exact ⟨⟨_, rfl, fun _ => HT.out, fun _ => by omega⟩, hbn⟩
    · have HF := Lib.hid (show ¬ r = true from fun hr => by
        obtain ⟨s, hm, hp⟩ := HR.out.1 hr
        obtain ⟨j, hj⟩ := List.mem_iff_getElem?.1 hm
        exact HB.out j s (by have h9 : j < L.length := (List.getElem?_eq_some_iff.1 hj).1; rw [HL.out] at h9; omega) hj hp)
      have hii : ¬ (i : Int) < (n : Int) := by omega
      go_wp2
      go_ret
      exact ⟨⟨_, rfl, fun h => by omega, fun h => (HF.out h).elim⟩, hb⟩
set_option maxRecDepth 100000 in
set_option maxHeartbeats 8000000 in
theorem cont_hasn {w : World} {v : Value} {F : Nat → Prop} {M : List (Cs.Pt × Tx.Co)} (h0 : SetN w v F M) (g : Nat) (hg : Has w g 30 #[v]) (a : Option Addr) (n q : Nat) (L : List Cs.Pt) (h : Recs ptRec w a n L) :
    Calls Tryz.prog 112 #[.slice a n q, .func (.func 118) #[] #[.pointer (some ⟨g, 0, none⟩)]] w fun e w' => e = .returned (.bool (L.any fun s => (fun s => !(Cs.look M s).isSome) s)) ∧ Below w.heap.size w w' := by
  obtain ⟨r, hr⟩ : ∃ r, r = L.any fun s => (fun s => !(Cs.look M s).isSome) s := ⟨_, rfl⟩
  rw [← hr]
  have HC := Lib.hid (idx_hasn h0 g hg a n q L h r hr)
  clear hr
  clear h0
  go_enter Tryz.func112, Tryz.ntmps112
  go_wp2_with (go_at_call 149; refine HC.out.mono ?_; rintro e w1 ⟨⟨z, rfl, hz⟩, hb⟩; have HZ := Lib.hid hz; clear hz)
  go_ret
  refine ⟨?_, hb⟩
  have h1 : decide (0 ≤ z) = r := by
    rw [Bool.eq_iff_iff, decide_eq_true_iff, HZ.out]
  exact congrArg (fun b => Ending.returned (.bool b)) h1
set_option maxHeartbeats 8000000 in
theorem phasany_any {w : World} {v : Value} {F : Nat → Prop} {M : List (Cs.Pt × Tx.Co)} (h0 : SetN w v F M) (a : Option Addr) (n q : Nat) (L : List Cs.Pt) (h : Recs ptRec w a n L) :
    Calls Tryz.prog 60 #[v, .slice a n q] w fun e w' => e = .returned (.bool (L.any fun s => (Cs.look M s).isSome)) ∧ Below w.heap.size w w' := by
  have HC := Lib.hid (cont_has h0 a n q L h)
  clear h0
  generalize (L.any fun s => (Cs.look M s).isSome) = r at HC ⊢
  go_enter Tryz.func60, Tryz.ntmps60
  go_wp2_with (go_at_call 112; refine HC.out.mono ?_; rintro e w1 ⟨rfl, hb⟩)
  go_ret
  exact ⟨rfl, hb⟩
set_option maxHeartbeats 8000000 in
theorem phasall_any {w : World} {v : Value} {F : Nat → Prop} {M : List (Cs.Pt × Tx.Co)} (h0 : SetN w v F M) (a : Option Addr) (n q : Nat) (L : List Cs.Pt) (h : Recs ptRec w a n L) :
    Calls Tryz.prog 69 #[v, .slice a n q] w fun e w' => e = .returned (.bool (!(L.any fun s => !(Cs.look M s).isSome))) ∧ Below w.heap.size w w' := by
  obtain ⟨W1, hW1⟩ : ∃ ww, ww = w.alloc (.cells #[v] 30) := ⟨_, rfl⟩
  have hB1 : Below w.heap.size w W1 := by rw [hW1]; exact (Below.refl _ _).alloc (Nat.le_refl _) _
  have hP1 : Has W1 w.heap.size 30 #[v] := by rw [hW1]; exact Has.fresh _ _ _
  have HC := Lib.hid (cont_hasn (h0.below hB1) w.heap.size hP1 a n q L (h.below hB1))
  obtain ⟨y, rfl⟩ := h0.ptr
  have HW1 := Lib.hid hW1
  clear h0 hW1 hP1
  generalize (L.any fun s => !(Cs.look M s).isSome) = r at HC ⊢
  go_enter Tryz.func69, Tryz.ntmps69
  go_upto_region 1 with fail
  rw [← HW1.out]
  go_wp2_with (go_at_call 112; refine HC.out.mono ?_; rintro e w1 ⟨rfl, hb⟩)
  go_ret
  exact ⟨rfl, hB1.trans (hb.mono hB1.size)⟩
end Go.Proofs.YtdfplenniamnoaaGreatDoor
