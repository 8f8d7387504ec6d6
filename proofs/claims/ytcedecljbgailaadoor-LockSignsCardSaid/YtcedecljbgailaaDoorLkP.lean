/- what package lock answers, as a premise; the chapter's example (mklkp.py) -/
import Derived.Test.YtcedecljbgailaaDoorLkG
import Derived.Test.YtcedecljbgailaaDoorLkA
namespace Go.Proofs.YtcedecljbgailaaDoor
open Go Go.RowKit Go.ChangeShapes Go.WideShapes
structure LockA (KD : World → Prop) : Prop where
  stay : ∀ {w w' : World}, KD w → Below w.heap.size w w' → KD w'
  lock : ∀ (key : List (BitVec 8)) (w : World), KD w → key.length ≤ 10000 → Calls Tryd.prog 7 #[.string (strB key)] w fun e w' => e = .returned (.int .u64 (nb64 (Lk.lockOf key))) ∧ Below w.heap.size w w'
  sealed : ∀ (key id : List (BitVec 8)) (w : World), KD w → key.length ≤ 10000 → id.length = 32 → Calls Tryd.prog 9 #[.string (strB key), .agg (blist id).toArray] w fun e w' => e = .returned (.int .u64 (nb64 (Lk.sealOf key id))) ∧ Below w.heap.size w w'
  opens : ∀ (s : Tx.Sp) (c : Tx.Co) (id : List (BitVec 8)) (w : World), KD w → Tx.SpOk s → s.key.length ≤ 10000 → id.length = 32 → Calls Tryd.prog 11 #[.agg (spCells s).toArray, .agg (coCells c).toArray, .agg (blist id).toArray] w fun e w' => e = .returned (.bool (Lk.opens s c id)) ∧ Below w.heap.size w w'
abbrev Lk.z32 : List (BitVec 8) := List.replicate 32 0#8
theorem Lk.seal_a : ¬ Lk.sealOf [97#8] Lk.z32 = 0#64 := by
  have h : Lk.sealOf [97#8] Lk.z32 = Dg.top (Dg.sum Dg.a33L) 8 := rfl
  rw [h, Dg.a33_top]
  decide
set_option maxRecDepth 100000 in
theorem built_a (sl : BitVec 64) : Tryd.prog.built 28 [(1, .string ⟨#[97]⟩), (2, .int .u64 (nb64 sl))] = some (spCells ⟨Lk.z32, 0, [97#8], sl⟩).toArray := by kernel_rfl
set_option maxRecDepth 100000 in
theorem built_a0 : Tryd.prog.built 28 [(1, .string ⟨#[97]⟩)] = some (spCells ⟨Lk.z32, 0, [97#8], 0#64⟩).toArray := by kernel_rfl
theorem built_h : Tryd.prog.built 23 [] = some (blist Lk.z32).toArray := by kernel_rfl
theorem yieldsIf_build0 {ops : Array Oper} {S : World → Prop} {op : Oper} {a : Act} (hw : Region.wanted op (yielded ops a.tmps) = true) (t : TypeId) (ho : op.op = .build t #[]) {cs : Array Value} (hb : Tryd.prog.built t [] = some cs) : YieldsIf Tryd.prog ops S op (.agg cs) a :=
  .inl ⟨hw, fun w _ => by
    have hr := run_build (P := Tryd.prog) w t #[] _ hb
    unfold execOp
    simp only [ho, List.map_toArray, List.map_nil, Sem.run_bind, Sem.run_pure, Result.andThen_ok, hr]⟩
theorem yieldsIf_build1 {ops : Array Oper} {S : World → Prop} {op : Oper} {a : Act} (hw : Region.wanted op (yielded ops a.tmps) = true) (t : TypeId) (i : Nat) (x : Operand) (ho : op.op = .build t #[(i, x)]) (u : Value) (hx : a.eval x = u) {cs : Array Value} (hb : Tryd.prog.built t [(i, u)] = some cs) : YieldsIf Tryd.prog ops S op (.agg cs) a :=
  .inl ⟨hw, fun w _ => by
    have hr := run_build (P := Tryd.prog) w t #[(i, u)] _ hb
    unfold execOp
    simp only [ho, List.map_toArray, List.map_cons, List.map_nil, hx, Sem.run_bind, Sem.run_pure, Result.andThen_ok, hr]⟩
theorem yieldsIf_build2 {ops : Array Oper} {S : World → Prop} {op : Oper} {a : Act} (hw : Region.wanted op (yielded ops a.tmps) = true) (t : TypeId) (i k : Nat) (x y : Operand) (ho : op.op = .build t #[(i, x), (k, y)]) (u v : Value) (hx : a.eval x = u) (hy : a.eval y = v) {cs : Array Value} (hb : Tryd.prog.built t [(i, u), (k, v)] = some cs) : YieldsIf Tryd.prog ops S op (.agg cs) a :=
  .inl ⟨hw, fun w _ => by
    have hr := run_build (P := Tryd.prog) w t #[(i, u), (k, v)] _ hb
    unfold execOp
    simp only [ho, List.map_toArray, List.map_cons, List.map_nil, hx, hy, Sem.run_bind, Sem.run_pure, Result.andThen_ok, hr]⟩
set_option maxRecDepth 100000 in
set_option maxHeartbeats 8000000 in
theorem alive11 {KD : World → Prop} (ok : LockA KD) (w : World) (hK : KD w) :
    Calls Tryd.prog 6 #[] w fun e w' => e = .returned (.bool true) ∧ Below w.heap.size w w' := by
  have HOK := ok
  have HKD := Lib.hid hK
  obtain ⟨lk, hlk⟩ : ∃ x, x = Lk.lockOf [97#8] := ⟨_, rfl⟩
  obtain ⟨sl, hsl⟩ : ∃ x, x = Lk.sealOf [97#8] Lk.z32 := ⟨_, rfl⟩
  have HL := Lib.hid (show Lk.lockOf [97#8] = lk ∧ Lk.sealOf [97#8] Lk.z32 = sl ∧ Lk.opens ⟨Lk.z32, 0, [97#8], sl⟩ ⟨0, lk⟩ Lk.z32 = true ∧ Lk.opens ⟨Lk.z32, 0, [97#8], 0#64⟩ ⟨0, lk⟩ Lk.z32 = false from ⟨hlk.symm, hsl.symm, by rw [Lk.opens, decide_eq_true_iff]; exact ⟨hlk.symm, hsl.symm⟩, by rw [Lk.opens, decide_eq_false_iff_not]; exact fun e => Lk.seal_a e.2⟩)
  clear hlk hsl hK ok
  have hk1 : ([97#8] : List (BitVec 8)).length ≤ 10000 := by decide
  have HSP := Lib.hid (show ∀ x : BitVec 64, Tx.SpOk ⟨Lk.z32, 0, [97#8], x⟩ from fun x => ⟨by simp, by show _ ∧ _; dsimp only; omega, by show 1 ≤ maxLen; unfold maxLen; omega⟩)
  have HC1 := Lib.hid (show Calls Tryd.prog 7 #[.string ⟨#[97]⟩] w fun e w' => e = .returned (.int .u64 (nb64 lk)) ∧ Below w.heap.size w w' from HL.out.1 ▸ HOK.lock [97#8] w HKD.out hk1)
  go_enter Tryd.func6, Tryd.ntmps6
  go_upto_region 2 with (go_at_call 7; refine HC1.out.mono ?_; rintro e w2 ⟨rfl, hb2⟩)
  obtain ⟨w3, hw3⟩ : ∃ x, x = w2.alloc (.cells #[.int .i64 0, .int .u64 (nb64 lk)] 30) := ⟨_, rfl⟩
  rw [← hw3]
  have hb3 : Below w2.heap.size w2 w3 := by rw [hw3]; exact (Below.refl _ _).alloc (Nat.le_refl _) _
  have hC : Has w3 w2.heap.size 30 (coCells ⟨0, lk⟩).toArray := by rw [hw3]; exact Has.fresh _ _ _
  obtain ⟨g1, hg1⟩ : ∃ g, g = w2.heap.size := ⟨_, rfl⟩
  rw [← hg1] at hC ⊢
  have hT3 := hb2.trans (hb3.mono hb2.size)
  clear hw3 hg1 hb2 hb3
  obtain ⟨ws, hws⟩ : ∃ x, x = w3.drew := ⟨_, rfl⟩
  have hbs : Below w3.heap.size w3 ws := by rw [hws]; exact (Below.refl _ _).drew
  have HCs := Lib.hid (hC.under hbs hC.lt)
  have hTs := hT3.trans (hbs.mono hT3.size)
  have HKs := Lib.hid (HOK.stay HKD.out hTs)
  clear hbs hC hT3
  refine wp_region_held_drew (S := Held ws) (by kernel_rfl) (by rw [hws]; exact Held.refl _) (fun hHeld => ?_)
  rw [← hws] at hHeld ⊢
  clear hws
  refine take_at (v := .agg (blist Lk.z32).toArray) 0 4 rfl rfl (by kernel_rfl) (by kernel_rfl) (by kernel_rfl) (fun _ _ _ h => h) hHeld (yieldsIf_build0 (by rfl) 23 rfl built_h) rfl ?_
  simp only [List.set_cons_zero, List.set_cons_succ]
  refine take_at 3 7 rfl rfl (by kernel_rfl) (by kernel_rfl) (by kernel_rfl) (fun _ _ _ h => h) hHeld (yieldsIf_load_agg (by rfl) 30 (.tmp 1) rfl _ _ (by rfl) (fun wq hSw => (HCs.out.under (hSw) HCs.out.lt).load_agg (P := Tryd.prog) (t := 30) Tryd.underlying30 rfl (by kernel_rfl))) rfl ?_
  simp only [List.set_cons_zero, List.set_cons_succ]
  refine take_at (v := .agg (blist Lk.z32).toArray) 4 8 rfl rfl (by kernel_rfl) (by kernel_rfl) (by kernel_rfl) (fun _ _ _ h => h) hHeld (yieldsIf_build0 (by rfl) 23 rfl built_h) rfl ?_
  simp only [List.set_cons_zero, List.set_cons_succ]
  have HC2 := Lib.hid (show Calls Tryd.prog 9 #[.string ⟨#[97]⟩, .agg (blist Lk.z32).toArray] ws fun e w' => e = .returned (.int .u64 (nb64 sl)) ∧ Below ws.heap.size ws w' from HL.out.2.1 ▸ HOK.sealed [97#8] Lk.z32 ws HKs.out hk1 (by simp))
  refine wpAnyH_ready (rs := [1]) (by kernel_rfl) (by simp) ?_
  refine AllReadyH.cons rfl (fun K hK => ?_) AllReadyH.nil
  go_simp
  go_at_call 9; refine HC2.out.mono ?_; rintro e k1 ⟨rfl, hk1w⟩
  refine hK.out _ _ (Held.of hk1w) (fun _ => ?_)
  clear hK K
  try simp only [Act.put, List.setIfInBounds_toArray, List.set_cons_zero, List.set_cons_succ]
  refine held_grow (w1 := k1) (Held.of hk1w) ?_
  clear hHeld
  have hHeld : Held k1 k1 := Held.refl _
  refine take_at (v := .agg (spCells ⟨Lk.z32, 0, [97#8], sl⟩).toArray) 2 6 rfl rfl (by kernel_rfl) (by kernel_rfl) (by kernel_rfl) (fun _ _ _ h => h) hHeld (yieldsIf_build2 (by rfl) 28 1 2 (.const (.string ⟨#[97]⟩)) (.tmp 5) rfl _ _ (by rfl) (by rfl) (built_a sl)) rfl ?_
  simp only [List.set_cons_zero, List.set_cons_succ]
  refine wpAnyH_ready (rs := [5]) (by kernel_rfl) (by simp) ?_
  refine AllReadyH.cons rfl (fun K hK => ?_) AllReadyH.nil
  go_simp
  go_at_call 11; refine (HOK.opens ⟨Lk.z32, 0, [97#8], sl⟩ ⟨0, lk⟩ Lk.z32 k1 (HOK.stay HKs.out hk1w) (HSP.out sl) hk1 (by simp)).mono ?_; rw [HL.out.2.2.1]; rintro e k2 ⟨rfl, hk2w⟩
  refine hK.out _ _ (Held.of hk2w) (fun _ => ?_)
  clear hK K
  try simp only [Act.put, List.setIfInBounds_toArray, List.set_cons_zero, List.set_cons_succ]
  refine held_grow (w1 := k2) (Held.of hk2w) ?_
  clear hHeld
  have hHeld : Held k2 k2 := Held.refl _
  have hC2 := hk1w.trans (hk2w.mono hk1w.size)
  refine take_at (v := ?_) 6 10 rfl rfl (by kernel_rfl) (by kernel_rfl) (by kernel_rfl) (fun _ _ _ h => h) hHeld (Or.inl ⟨by rfl, ?_⟩) rfl ?_
  rotate_left
  · intro wq hSw
    go_simp
    try with_reducible rfl
  simp only [List.set_cons_zero, List.set_cons_succ]
  refine take_at (v := .agg (spCells ⟨Lk.z32, 0, [97#8], 0#64⟩).toArray) 7 11 rfl rfl (by kernel_rfl) (by kernel_rfl) (by kernel_rfl) (fun _ _ _ h => h) hHeld (yieldsIf_build1 (by rfl) 28 1 (.const (.string ⟨#[97]⟩)) rfl _ (by rfl) built_a0) rfl ?_
  simp only [List.set_cons_zero, List.set_cons_succ]
  refine take_at 8 12 rfl rfl (by kernel_rfl) (by kernel_rfl) (by kernel_rfl) (fun _ _ _ h => h) hHeld (yieldsIf_load_agg (by rfl) 30 (.tmp 1) rfl _ _ (by rfl) (fun wq hSw => (HCs.out.under (hC2.trans (hSw.mono hC2.size)) HCs.out.lt).load_agg (P := Tryd.prog) (t := 30) Tryd.underlying30 rfl (by kernel_rfl))) rfl ?_
  simp only [List.set_cons_zero, List.set_cons_succ]
  refine take_at (v := .agg (blist Lk.z32).toArray) 9 13 rfl rfl (by kernel_rfl) (by kernel_rfl) (by kernel_rfl) (fun _ _ _ h => h) hHeld (yieldsIf_build0 (by rfl) 23 rfl built_h) rfl ?_
  simp only [List.set_cons_zero, List.set_cons_succ]
  refine wpAnyH_ready (rs := [10]) (by kernel_rfl) (by simp) ?_
  refine AllReadyH.cons rfl (fun K hK => ?_) AllReadyH.nil
  go_simp
  go_at_call 11; refine (HOK.opens ⟨Lk.z32, 0, [97#8], 0#64⟩ ⟨0, lk⟩ Lk.z32 k2 (HOK.stay HKs.out hC2) (HSP.out 0#64) hk1 (by simp)).mono ?_; rw [HL.out.2.2.2]; rintro e k3 ⟨rfl, hk3w⟩
  refine hK.out _ _ (Held.of hk3w) (fun _ => ?_)
  clear hK K
  try simp only [Act.put, List.setIfInBounds_toArray, List.set_cons_zero, List.set_cons_succ]
  refine held_grow (w1 := k3) (Held.of hk3w) ?_
  clear hHeld
  have hHeld : Held k3 k3 := Held.refl _
  refine take_at (v := ?_) 11 15 rfl rfl (by kernel_rfl) (by kernel_rfl) (by kernel_rfl) (fun _ _ _ h => h) hHeld (Or.inl ⟨by rfl, ?_⟩) rfl ?_
  rotate_left
  · intro wq hSw
    go_simp
    try with_reducible rfl
  simp only [List.set_cons_zero, List.set_cons_succ]
  refine take_at (v := ?_) 12 16 rfl rfl (by kernel_rfl) (by kernel_rfl) (by kernel_rfl) (fun _ _ _ h => h) hHeld (Or.inl ⟨by rfl, ?_⟩) rfl ?_
  rotate_left
  · intro wq hSw
    go_simp
    try with_reducible rfl
  simp only [List.set_cons_zero, List.set_cons_succ]
  refine take_at (v := ?_) 13 0 rfl rfl (by kernel_rfl) (by kernel_rfl) (by kernel_rfl) (fun _ _ _ h => h) hHeld (Or.inl ⟨by rfl, ?_⟩) rfl ?_
  rotate_left
  · intro wq hSw
    go_simp
    try with_reducible rfl
  simp only [List.set_cons_zero]
  refine wpAnyH_done (by kernel_rfl) ?_ _
  go_wp2
  go_ret
  exact ⟨rfl, hTs.trans ((hC2.trans (hk3w.mono hC2.size)).mono hTs.size)⟩
end Go.Proofs.YtcedecljbgailaaDoor
