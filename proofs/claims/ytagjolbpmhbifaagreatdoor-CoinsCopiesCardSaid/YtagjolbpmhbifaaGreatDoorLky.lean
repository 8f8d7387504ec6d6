/- what package lock answers, as a premise; the chapter's example (mklkp.py) · package lock: Lock, Seal, where they are Word of Sum of the key's bytes (and the id's, as a second part) -/
import Derived.Test.YtagjolbpmhbifaaGreatDoorLkx
import Derived.Test.YtagjolbpmhbifaaGreatDoorDgv
import Derived.Test.YtagjolbpmhbifaaGreatDoorDgw
/-! what package lock answers, as a premise; the chapter's example (mklkp.py) -/
namespace Go.Proofs.YtagjolbpmhbifaaGreatDoor
open Go Go.RowKit Go.ChangeShapes Go.WideShapes
structure LockA (KD : World → Prop) : Prop where
  stay : ∀ {w w' : World}, KD w → Below w.heap.size w w' → KD w'
  lock : ∀ (key : List (BitVec 8)) (w : World), KD w → key.length ≤ 10000 → Calls Tryz.prog 24 #[.string (strB key)] w fun e w' => e = .returned (.int .u64 (nb64 (Lk.lockOf key))) ∧ Below w.heap.size w w'
  sealed : ∀ (key id : List (BitVec 8)) (w : World), KD w → key.length ≤ 10000 → id.length = 32 → Calls Tryz.prog 59 #[.string (strB key), .agg (blist id).toArray] w fun e w' => e = .returned (.int .u64 (nb64 (Lk.sealOf key id))) ∧ Below w.heap.size w w'
  opens : ∀ (s : Tx.Sp) (c : Tx.Co) (id : List (BitVec 8)) (w : World), KD w → Tx.SpOk s → s.key.length ≤ 10000 → id.length = 32 → Calls Tryz.prog 65 #[.agg (spCells s).toArray, .agg (coCells c).toArray, .agg (blist id).toArray] w fun e w' => e = .returned (.bool (Lk.opens s c id)) ∧ Below w.heap.size w w'
abbrev Lk.z32 : List (BitVec 8) := List.replicate 32 0#8
set_option maxRecDepth 100000 in
theorem built_a (sl : BitVec 64) : Tryz.prog.built 75 [(1, .string ⟨#[97]⟩), (2, .int .u64 (nb64 sl))] = some (spCells ⟨Lk.z32, 0, [97#8], sl⟩).toArray := by kernel_rfl
set_option maxRecDepth 100000 in
theorem built_a0 : Tryz.prog.built 75 [(1, .string ⟨#[97]⟩)] = some (spCells ⟨Lk.z32, 0, [97#8], 0#64⟩).toArray := by kernel_rfl
theorem built_h : Tryz.prog.built 30 [] = some (blist Lk.z32).toArray := by kernel_rfl
theorem yieldsIf_build0 {ops : Array Oper} {S : World → Prop} {op : Oper} {a : Act} (hw : Region.wanted op (yielded ops a.tmps) = true) (t : TypeId) (ho : op.op = .build t #[]) {cs : Array Value} (hb : Tryz.prog.built t [] = some cs) : YieldsIf Tryz.prog ops S op (.agg cs) a :=
  .inl ⟨hw, fun w _ => by
    have hr := run_build (P := Tryz.prog) w t #[] _ hb
    unfold execOp
    simp only [ho, List.map_toArray, List.map_nil, Sem.run_bind, Sem.run_pure, Result.andThen_ok, hr]⟩
theorem yieldsIf_build1 {ops : Array Oper} {S : World → Prop} {op : Oper} {a : Act} (hw : Region.wanted op (yielded ops a.tmps) = true) (t : TypeId) (i : Nat) (x : Operand) (ho : op.op = .build t #[(i, x)]) (u : Value) (hx : a.eval x = u) {cs : Array Value} (hb : Tryz.prog.built t [(i, u)] = some cs) : YieldsIf Tryz.prog ops S op (.agg cs) a :=
  .inl ⟨hw, fun w _ => by
    have hr := run_build (P := Tryz.prog) w t #[(i, u)] _ hb
    unfold execOp
    simp only [ho, List.map_toArray, List.map_cons, List.map_nil, hx, Sem.run_bind, Sem.run_pure, Result.andThen_ok, hr]⟩
theorem yieldsIf_build2 {ops : Array Oper} {S : World → Prop} {op : Oper} {a : Act} (hw : Region.wanted op (yielded ops a.tmps) = true) (t : TypeId) (i k : Nat) (x y : Operand) (ho : op.op = .build t #[(i, x), (k, y)]) (u v : Value) (hx : a.eval x = u) (hy : a.eval y = v) {cs : Array Value} (hb : Tryz.prog.built t [(i, u), (k, v)] = some cs) : YieldsIf Tryz.prog ops S op (.agg cs) a :=
  .inl ⟨hw, fun w _ => by
    have hr := run_build (P := Tryz.prog) w t #[(i, u), (k, v)] _ hb
    unfold execOp
    simp only [ho, List.map_toArray, List.map_cons, List.map_nil, hx, hy, Sem.run_bind, Sem.run_pure, Result.andThen_ok, hr]⟩
end Go.Proofs.YtagjolbpmhbifaaGreatDoor

/-! package lock: Lock, Seal, where they are Word of Sum of the key's bytes (and the id's, as a second part) -/
namespace Go.Proofs.YtagjolbpmhbifaaGreatDoor
open Go Go.RowKit Go.ChangeShapes Go.WideShapes
set_option maxRecDepth 100000 in
set_option maxHeartbeats 4000000 in
theorem plock_any (key : List (BitVec 8)) (w : World) (hK : KDg w) (hk : key.length ≤ 10000) :
    Calls Tryz.prog 24 #[.string (strB key)] w fun e w' => e = .returned (.int .u64 (nb64 (Lk.lockOf key))) ∧ Below w.heap.size w w' := by
  obtain ⟨k, hkl⟩ : ∃ k, k = key.length := ⟨_, rfl⟩
  obtain ⟨W1, hW1⟩ : ∃ x, x = Lib.bytesWorld w 5 (strB key) := ⟨_, rfl⟩
  have hb1 : Below w.heap.size w W1 := by rw [hW1]; exact conv_below w _ _
  have hrow := conv_row w 5 key (by omega)
  rw [← hW1] at hrow
  have hrun := Lib.run_convert_string_bytes (P := Tryz.prog) w 9 116 5 (strB key) Tryz.underlying9 Tryz.underlying116 Tryz.underlying5
  rw [← hW1, strB_size] at hrun
  obtain ⟨v, hv⟩ : ∃ v : Value, v = .slice (some ⟨w.heap.size, 0, none⟩) key.length (grownCap w key.length 0 5) := ⟨_, rfl⟩
  rw [← hv] at hrun hrow
  obtain ⟨g, c, rfl, hc, _, hB⟩ := hrow.shape hkl.symm
  have hP := parts_one (c := c) 116 hB hc (fun e => by cases e)
  have hb2 := hb1.alloc hb1.size (.cells #[.slice (some ⟨g, 0, none⟩) k c] 116)
  have hS := dsum_any _ 1 1 [key] _ (hK.below hb2) hP (by omega) (by rw [List.flatten_singleton]; omega)
  rw [List.flatten_singleton] at hS
  have HS := Lib.hid hS
  have HR := Lib.hid hrun
  have HX := Lib.hid (show Lk.lockOf key = Dg.top (Dg.sum key) 8 from rfl)
  clear hrow hrun hv hB hkl hW1 hS hP hK
  go_enter Tryz.func24, Tryz.ntmps24
  go_wp2_with (first
    | (go_at_call 56; refine (word_any (Dg.sum key) (Dg.sum_len key) w3).mono ?_; rintro e w4 ⟨rfl, hb4⟩)
    | (go_at_call 57; refine HS.out.mono ?_; rintro e w3 ⟨rfl, hb3⟩)
    | (refine wpList_convert_run rfl 9 116 (.tmp 3) rfl _ _ rfl HR.out ?_))
  go_ret
  exact ⟨by rw [HX.out]; rfl, hb2.trans ((hb3.trans (hb4.mono hb3.size)).mono hb2.size)⟩
set_option maxRecDepth 100000 in
set_option maxHeartbeats 4000000 in
theorem pseal_any (key id : List (BitVec 8)) (w : World) (hK : KDg w) (hk : key.length ≤ 10000) (hid : id.length = 32) :
    Calls Tryz.prog 59 #[.string (strB key), .agg (blist id).toArray] w fun e w' => e = .returned (.int .u64 (nb64 (Lk.sealOf key id))) ∧ Below w.heap.size w w' := by
  obtain ⟨W0, hW0⟩ : ∃ x, x = w.alloc (.cells (blist id).toArray 30) := ⟨_, rfl⟩
  have hb0 : Below w.heap.size w W0 := by rw [hW0]; exact (Below.refl _ w).alloc (Nat.le_refl _) _
  have hX : Has W0 w.heap.size 30 (blist id).toArray := by rw [hW0]; exact Has.fresh _ _ _
  have HW := Lib.hid hW0
  obtain ⟨k, hkl⟩ : ∃ k, k = key.length := ⟨_, rfl⟩
  obtain ⟨W1, hW1⟩ : ∃ x, x = Lib.bytesWorld W0 5 (strB key) := ⟨_, rfl⟩
  have hb1 : Below W0.heap.size W0 W1 := by rw [hW1]; exact conv_below W0 _ _
  have hrow := conv_row W0 5 key (by omega)
  rw [← hW1] at hrow
  have hrun := Lib.run_convert_string_bytes (P := Tryz.prog) W0 9 116 5 (strB key) Tryz.underlying9 Tryz.underlying116 Tryz.underlying5
  rw [← hW1, strB_size] at hrun
  obtain ⟨v, hv⟩ : ∃ v : Value, v = .slice (some ⟨W0.heap.size, 0, none⟩) key.length (grownCap W0 key.length 0 5) := ⟨_, rfl⟩
  rw [← hv] at hrun hrow
  obtain ⟨g, c, rfl, hc, _, hB⟩ := hrow.shape hkl.symm
  have hX1 := hX.under hb1 hX.lt
  have hb01 := hb0.trans (hb1.mono hb0.size)
  have hP := parts_two (c := c) (c2 := 32) 116 hB hc (fun e => by cases e) (bytes_has32 hX1 hid) (Nat.le_refl _) (fun e => by cases e)
  have hb2 := hb01.alloc hb01.size (.cells #[.slice (some ⟨g, 0, none⟩) k c, .slice (some ⟨w.heap.size, 0, none⟩) 32 32] 116)
  have hS := dsum_any _ 2 2 [key, id] _ (hK.below hb2) hP (by omega) (by simp; omega)
  have HF := Lib.hid (show [key, id].flatten = key ++ id by simp)
  rw [HF.out] at hS
  have HS := Lib.hid hS
  have HR := Lib.hid hrun
  have HX := Lib.hid (show Lk.sealOf key id = Dg.top (Dg.sum (key ++ id)) 8 from rfl)
  clear hrow hrun hv hB hkl hW1 hS hP hK hX hX1 hW0
  go_enter Tryz.func59, Tryz.ntmps59
  go_upto_region 1 with fail
  rw [← HW.out]
  go_wp2_with (first
    | (go_at_call 56; refine (word_any (Dg.sum (key ++ id)) (Dg.sum_len _) w3).mono ?_; rintro e w4 ⟨rfl, hb4⟩)
    | (go_at_call 57; refine HS.out.mono ?_; rintro e w3 ⟨rfl, hb3⟩)
    | (refine wpList_convert_run rfl 9 116 (.tmp 5) rfl _ _ rfl HR.out ?_))
  go_ret
  exact ⟨by rw [HX.out]; rfl, hb2.trans ((hb3.trans (hb4.mono hb3.size)).mono hb2.size)⟩
end Go.Proofs.YtagjolbpmhbifaaGreatDoor
