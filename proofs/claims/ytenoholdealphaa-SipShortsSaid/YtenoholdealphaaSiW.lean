/- package sip: the state's calls -/
import Derived.Test.YtenoholdealphaaRows
import Derived.Test.YtenoholdealphaaSiM
import Derived.Test.YtenoholdealphaaV
import Derived.Lib.Hide
import Derived.IntWalk
import Derived.Deep.Cut
import Derived.Deep.RegionLaw
import Derived.BigQuiet
import Derived.StillTailTactics
namespace Go.Proofs.Ytenoholdealphaa
open Go Go.RowKit Go.ChangeShapes Go.WideShapes
theorem grown_put {w w' : World} {g : Nat} (h : w.grownBy w' (some g)) (i : Nat) (v : Value) : w.grownBy (w'.setCell ⟨g, i, none⟩ v) (some g) :=
  ⟨h.os, h.tape, h.output, by rw [World.size_setCell]; exact h.size, fun j hj hne => (Below.heap_setCell _ _ _ _ (fun e => hne (by rw [e]))).trans (h.block j hj hne)⟩
theorem grown_drew {w w' : World} {r : Option Nat} (h : w.grownBy w' r) : w.grownBy w'.drew r := ⟨h.os, h.tape, h.output, h.size, h.block⟩
theorem grown_refl (w : World) (r : Option Nat) : w.grownBy w r := ⟨rfl, rfl, rfl, Nat.le_refl _, fun _ _ _ => rfl⟩
theorem grown_drewN {w w' : World} {r : Option Nat} (h : w.grownBy w' r) (n : Nat) : w.grownBy (w'.drewN n) r := ⟨h.os, h.tape, h.output, h.size, h.block⟩
theorem grown_trans {a b c : World} {r : Option Nat} (h : a.grownBy b r) (k : b.grownBy c r) : a.grownBy c r :=
  ⟨k.os.trans h.os, k.tape.trans h.tape, k.output.trans h.output, Nat.le_trans h.size k.size, fun j hj hne => (k.block j (Nat.lt_of_lt_of_le hj h.size) hne).trans (h.block j hj hne)⟩
theorem rotl_any (x : BitVec 64) (n : Nat) (z : Int) (hz : z = (n : Int)) (hn : n = 13 ∨ n = 16 ∨ n = 17 ∨ n = 21 ∨ n = 32) (w : World) :
    Calls Try.prog 26 #[.int .u64 (nb64 x), .int .i64 z] w fun e w' => e = .returned (.int .u64 (nb64 (Si.turn x n))) ∧ w = w' := by
  subst hz
  rcases hn with rfl | rfl | rfl | rfl | rfl
  case' inl => have hb : bits BinOp.and IntKind.u64 13 63 = 13 := by decide +kernel
  case' inr.inl => have hb : bits BinOp.and IntKind.u64 16 63 = 16 := by decide +kernel
  case' inr.inr.inl => have hb : bits BinOp.and IntKind.u64 17 63 = 17 := by decide +kernel
  case' inr.inr.inr.inl => have hb : bits BinOp.and IntKind.u64 21 63 = 21 := by decide +kernel
  case' inr.inr.inr.inr => have hb : bits BinOp.and IntKind.u64 32 63 = 32 := by decide +kernel
  all_goals
    go_enter Try.func26, Try.ntmps26
    go_wp2
    go_ret
    exact ⟨rfl, rfl⟩
theorem still_tail_drew {P : Program} {id : Nat} {Q : Exit → Act → World → Prop} {a : Act} {w : World} {l : List Oper} (n : Nat) (hm : P.follows .mixedOrders = true) (hB : Region.lexTailB .any l.toArray n = true)
    (h : wpStill P l.toArray w.drew (fun a' => wpList P l.toArray Q (l.drop n) a' w.drew) (l.take n) a) : (Code.region id l.toArray true).wp P Q a w := wp_region_still_tail n hm hB h
set_option maxRecDepth 100000 in
set_option maxHeartbeats 8000000 in
theorem sround_any (v : Si.St) (g n : Nat) (z : Int) (hz : z = (n : Int)) (hn : n ≤ 100) (w : World) (hG0 : Has w g 49 #[.int .u64 (nb64 v.a), .int .u64 (nb64 v.b), .int .u64 (nb64 v.c), .int .u64 (nb64 v.d)]) :
    Calls Try.prog 24 #[.pointer (some ⟨g, 0, none⟩), .int .i64 z] w fun e w' =>
      (∃ v, e = .returned v) ∧ Has w' g 49 #[.int .u64 (nb64 (Si.rounds n v).a), .int .u64 (nb64 (Si.rounds n v).b), .int .u64 (nb64 (Si.rounds n v).c), .int .u64 (nb64 (Si.rounds n v).d)] ∧ w.grownBy w' (some g) := by
  subst hz
  go_enter Try.func24, Try.ntmps24
  go_wp2
  go_loopw [5] (fun iv wr => ∃ i : Nat, i ≤ n ∧ iv = .int .i64 i ∧ (∃ u : Si.St, u = Si.rounds i v ∧ Has wr g 49 #[.int .u64 (nb64 u.a), .int .u64 (nb64 u.b), .int .u64 (nb64 u.c), .int .u64 (nb64 u.d)]) ∧ w.grownBy wr (some g)) (fun iv _ => n - (intOf iv).toNat)
  case atStart => exact ⟨0, Nat.zero_le _, rfl, ⟨v, rfl, hG0⟩, grown_refl _ _⟩
  case round =>
    clear hG0
    obtain ⟨i, hi, rfl, ⟨u, hu, hG⟩, hgr⟩ := hrel
    obtain ⟨a, b, c, d⟩ := u
    have HU := Lib.hid hu
    replace hG : Has wr g 49 #[.int .u64 (nb64 a), .int .u64 (nb64 b), .int .u64 (nb64 c), .int .u64 (nb64 d)] := hG
    clear hu
    by_cases hlt : i < n
    · have hii : (i : Int) < (n : Int) := by omega
      have c0 : wr.cell? ⟨g, 0, none⟩ = some (.int .u64 (nb64 a)) := hG.cell_at rfl
      have c1 : wr.cell? ⟨g, 1, none⟩ = some (.int .u64 (nb64 b)) := hG.cell_at rfl
      have c2 : wr.cell? ⟨g, 2, none⟩ = some (.int .u64 (nb64 c)) := hG.cell_at rfl
      have c3 : wr.cell? ⟨g, 3, none⟩ = some (.int .u64 (nb64 d)) := hG.cell_at rfl
      have f0 := hG.loose 0
      have f1 := hG.loose 1
      have f2 := hG.loose 2
      have f3 := hG.loose 3
      go_upto_region 2 with fail
      refine still_tail_drew 11 rfl (by kernel_rfl) ?_
      simp only [List.take_succ_cons, List.take_zero, List.drop_succ_cons, List.drop_zero]
      obtain ⟨wn, hwn⟩ : ∃ x, x = wr.drew := ⟨_, rfl⟩
      rw [← hwn]
      replace hG : Has wn g 49 #[.int .u64 (nb64 a), .int .u64 (nb64 b), .int .u64 (nb64 c), .int .u64 (nb64 d)] := by rw [hwn]; exact hG.draw
      replace hgr : w.grownBy wn (some g) := by rw [hwn]; exact grown_drew hgr
      clear c0 f0 c1 f1 c2 f2 c3 f3
      clear hwn
      have c0 : wn.cell? ⟨g, 0, none⟩ = some (.int .u64 (nb64 a)) := hG.cell_at rfl
      have c1 : wn.cell? ⟨g, 1, none⟩ = some (.int .u64 (nb64 b)) := hG.cell_at rfl
      have c2 : wn.cell? ⟨g, 2, none⟩ = some (.int .u64 (nb64 c)) := hG.cell_at rfl
      have c3 : wn.cell? ⟨g, 3, none⟩ = some (.int .u64 (nb64 d)) := hG.cell_at rfl
      have f0 := hG.loose 0
      have f1 := hG.loose 1
      have f2 := hG.loose 2
      have f3 := hG.loose 3
      repeat still_step
      refine wpStill_nil ?_
      go_upto_region 3 with fail
      clear c0 f0 c1 f1 c2 f2 c3 f3
      obtain ⟨x0, hx0⟩ : ∃ x, x = a + b := ⟨_, rfl⟩
      rw [← hx0]
      obtain ⟨wr1, hw⟩ : ∃ x, x = wn.setCell ⟨g, 0, none⟩ (.int .u64 (nb64 x0)) := ⟨_, rfl⟩
      rw [← hw]
      replace hG : Has wr1 g 49 #[.int .u64 (nb64 x0), .int .u64 (nb64 b), .int .u64 (nb64 c), .int .u64 (nb64 d)] := by rw [hw]; exact hG.put 0 _
      replace hgr := (show w.grownBy wr1 (some g) by rw [hw]; exact grown_put hgr _ _)
      have Hx0 := Lib.hid hx0
      clear hw hx0
      have c0 : wr1.cell? ⟨g, 0, none⟩ = some (.int .u64 (nb64 x0)) := hG.cell_at rfl
      have c1 : wr1.cell? ⟨g, 1, none⟩ = some (.int .u64 (nb64 b)) := hG.cell_at rfl
      have c2 : wr1.cell? ⟨g, 2, none⟩ = some (.int .u64 (nb64 c)) := hG.cell_at rfl
      have c3 : wr1.cell? ⟨g, 3, none⟩ = some (.int .u64 (nb64 d)) := hG.cell_at rfl
      have f0 := hG.loose 0
      have f1 := hG.loose 1
      have f2 := hG.loose 2
      have f3 := hG.loose 3
      go_upto_region 3 with fail
      refine still_tail_drew 13 rfl (by kernel_rfl) ?_
      simp only [List.take_succ_cons, List.take_zero, List.drop_succ_cons, List.drop_zero]
      obtain ⟨wn, hwn⟩ : ∃ x, x = wr1.drew := ⟨_, rfl⟩
      rw [← hwn]
      replace hG : Has wn g 49 #[.int .u64 (nb64 x0), .int .u64 (nb64 b), .int .u64 (nb64 c), .int .u64 (nb64 d)] := by rw [hwn]; exact hG.draw
      replace hgr : w.grownBy wn (some g) := by rw [hwn]; exact grown_drew hgr
      clear c0 f0 c1 f1 c2 f2 c3 f3
      clear hwn
      have c0 : wn.cell? ⟨g, 0, none⟩ = some (.int .u64 (nb64 x0)) := hG.cell_at rfl
      have c1 : wn.cell? ⟨g, 1, none⟩ = some (.int .u64 (nb64 b)) := hG.cell_at rfl
      have c2 : wn.cell? ⟨g, 2, none⟩ = some (.int .u64 (nb64 c)) := hG.cell_at rfl
      have c3 : wn.cell? ⟨g, 3, none⟩ = some (.int .u64 (nb64 d)) := hG.cell_at rfl
      have f0 := hG.loose 0
      have f1 := hG.loose 1
      have f2 := hG.loose 2
      have f3 := hG.loose 3
      repeat still_step
      still_call ((rotl_any _ 13 13 rfl (by omega) _).mono fun e w' h => ⟨h.1, h.2.symm⟩)
      repeat still_step
      refine wpStill_nil ?_
      go_upto_region 4 with fail
      clear c0 f0 c1 f1 c2 f2 c3 f3
      obtain ⟨x1, hx1⟩ : ∃ x, x = Si.turn b 13 ^^^ x0 := ⟨_, rfl⟩
      rw [← hx1]
      obtain ⟨wr2, hw⟩ : ∃ x, x = wn.setCell ⟨g, 1, none⟩ (.int .u64 (nb64 x1)) := ⟨_, rfl⟩
      rw [← hw]
      replace hG : Has wr2 g 49 #[.int .u64 (nb64 x0), .int .u64 (nb64 x1), .int .u64 (nb64 c), .int .u64 (nb64 d)] := by rw [hw]; exact hG.put 1 _
      replace hgr := (show w.grownBy wr2 (some g) by rw [hw]; exact grown_put hgr _ _)
      have Hx1 := Lib.hid hx1
      clear hw hx1
      have c0 : wr2.cell? ⟨g, 0, none⟩ = some (.int .u64 (nb64 x0)) := hG.cell_at rfl
      have c1 : wr2.cell? ⟨g, 1, none⟩ = some (.int .u64 (nb64 x1)) := hG.cell_at rfl
      have c2 : wr2.cell? ⟨g, 2, none⟩ = some (.int .u64 (nb64 c)) := hG.cell_at rfl
      have c3 : wr2.cell? ⟨g, 3, none⟩ = some (.int .u64 (nb64 d)) := hG.cell_at rfl
      have f0 := hG.loose 0
      have f1 := hG.loose 1
      have f2 := hG.loose 2
      have f3 := hG.loose 3
      go_upto_region 5 with (go_at_call 26; refine (rotl_any _ 32 32 rfl (by omega) _).mono ?_; rintro e wt ⟨rfl, rfl⟩)
      clear c0 f0 c1 f1 c2 f2 c3 f3
      obtain ⟨x2, hx2⟩ : ∃ x, x = Si.turn x0 32 := ⟨_, rfl⟩
      rw [← hx2]
      obtain ⟨wr3, hw⟩ : ∃ x, x = wr2.setCell ⟨g, 0, none⟩ (.int .u64 (nb64 x2)) := ⟨_, rfl⟩
      rw [← hw]
      replace hG : Has wr3 g 49 #[.int .u64 (nb64 x2), .int .u64 (nb64 x1), .int .u64 (nb64 c), .int .u64 (nb64 d)] := by rw [hw]; exact hG.put 0 _
      replace hgr := (show w.grownBy wr3 (some g) by rw [hw]; exact grown_put hgr _ _)
      have Hx2 := Lib.hid hx2
      clear hw hx2
      have c0 : wr3.cell? ⟨g, 0, none⟩ = some (.int .u64 (nb64 x2)) := hG.cell_at rfl
      have c1 : wr3.cell? ⟨g, 1, none⟩ = some (.int .u64 (nb64 x1)) := hG.cell_at rfl
      have c2 : wr3.cell? ⟨g, 2, none⟩ = some (.int .u64 (nb64 c)) := hG.cell_at rfl
      have c3 : wr3.cell? ⟨g, 3, none⟩ = some (.int .u64 (nb64 d)) := hG.cell_at rfl
      have f0 := hG.loose 0
      have f1 := hG.loose 1
      have f2 := hG.loose 2
      have f3 := hG.loose 3
      go_upto_region 5 with fail
      refine still_tail_drew 11 rfl (by kernel_rfl) ?_
      simp only [List.take_succ_cons, List.take_zero, List.drop_succ_cons, List.drop_zero]
      obtain ⟨wn, hwn⟩ : ∃ x, x = wr3.drew := ⟨_, rfl⟩
      rw [← hwn]
      replace hG : Has wn g 49 #[.int .u64 (nb64 x2), .int .u64 (nb64 x1), .int .u64 (nb64 c), .int .u64 (nb64 d)] := by rw [hwn]; exact hG.draw
      replace hgr : w.grownBy wn (some g) := by rw [hwn]; exact grown_drew hgr
      clear c0 f0 c1 f1 c2 f2 c3 f3
      clear hwn
      have c0 : wn.cell? ⟨g, 0, none⟩ = some (.int .u64 (nb64 x2)) := hG.cell_at rfl
      have c1 : wn.cell? ⟨g, 1, none⟩ = some (.int .u64 (nb64 x1)) := hG.cell_at rfl
      have c2 : wn.cell? ⟨g, 2, none⟩ = some (.int .u64 (nb64 c)) := hG.cell_at rfl
      have c3 : wn.cell? ⟨g, 3, none⟩ = some (.int .u64 (nb64 d)) := hG.cell_at rfl
      have f0 := hG.loose 0
      have f1 := hG.loose 1
      have f2 := hG.loose 2
      have f3 := hG.loose 3
      repeat still_step
      refine wpStill_nil ?_
      go_upto_region 6 with fail
      clear c0 f0 c1 f1 c2 f2 c3 f3
      obtain ⟨x3, hx3⟩ : ∃ x, x = c + d := ⟨_, rfl⟩
      rw [← hx3]
      obtain ⟨wr4, hw⟩ : ∃ x, x = wn.setCell ⟨g, 2, none⟩ (.int .u64 (nb64 x3)) := ⟨_, rfl⟩
      rw [← hw]
      replace hG : Has wr4 g 49 #[.int .u64 (nb64 x2), .int .u64 (nb64 x1), .int .u64 (nb64 x3), .int .u64 (nb64 d)] := by rw [hw]; exact hG.put 2 _
      replace hgr := (show w.grownBy wr4 (some g) by rw [hw]; exact grown_put hgr _ _)
      have Hx3 := Lib.hid hx3
      clear hw hx3
      have c0 : wr4.cell? ⟨g, 0, none⟩ = some (.int .u64 (nb64 x2)) := hG.cell_at rfl
      have c1 : wr4.cell? ⟨g, 1, none⟩ = some (.int .u64 (nb64 x1)) := hG.cell_at rfl
      have c2 : wr4.cell? ⟨g, 2, none⟩ = some (.int .u64 (nb64 x3)) := hG.cell_at rfl
      have c3 : wr4.cell? ⟨g, 3, none⟩ = some (.int .u64 (nb64 d)) := hG.cell_at rfl
      have f0 := hG.loose 0
      have f1 := hG.loose 1
      have f2 := hG.loose 2
      have f3 := hG.loose 3
      go_upto_region 6 with fail
      refine still_tail_drew 13 rfl (by kernel_rfl) ?_
      simp only [List.take_succ_cons, List.take_zero, List.drop_succ_cons, List.drop_zero]
      obtain ⟨wn, hwn⟩ : ∃ x, x = wr4.drew := ⟨_, rfl⟩
      rw [← hwn]
      replace hG : Has wn g 49 #[.int .u64 (nb64 x2), .int .u64 (nb64 x1), .int .u64 (nb64 x3), .int .u64 (nb64 d)] := by rw [hwn]; exact hG.draw
      replace hgr : w.grownBy wn (some g) := by rw [hwn]; exact grown_drew hgr
      clear c0 f0 c1 f1 c2 f2 c3 f3
      clear hwn
      have c0 : wn.cell? ⟨g, 0, none⟩ = some (.int .u64 (nb64 x2)) := hG.cell_at rfl
      have c1 : wn.cell? ⟨g, 1, none⟩ = some (.int .u64 (nb64 x1)) := hG.cell_at rfl
      have c2 : wn.cell? ⟨g, 2, none⟩ = some (.int .u64 (nb64 x3)) := hG.cell_at rfl
      have c3 : wn.cell? ⟨g, 3, none⟩ = some (.int .u64 (nb64 d)) := hG.cell_at rfl
      have f0 := hG.loose 0
      have f1 := hG.loose 1
      have f2 := hG.loose 2
      have f3 := hG.loose 3
      repeat still_step
      still_call ((rotl_any _ 16 16 rfl (by omega) _).mono fun e w' h => ⟨h.1, h.2.symm⟩)
      repeat still_step
      refine wpStill_nil ?_
      go_upto_region 7 with fail
      clear c0 f0 c1 f1 c2 f2 c3 f3
      obtain ⟨x4, hx4⟩ : ∃ x, x = Si.turn d 16 ^^^ x3 := ⟨_, rfl⟩
      rw [← hx4]
      obtain ⟨wr5, hw⟩ : ∃ x, x = wn.setCell ⟨g, 3, none⟩ (.int .u64 (nb64 x4)) := ⟨_, rfl⟩
      rw [← hw]
      replace hG : Has wr5 g 49 #[.int .u64 (nb64 x2), .int .u64 (nb64 x1), .int .u64 (nb64 x3), .int .u64 (nb64 x4)] := by rw [hw]; exact hG.put 3 _
      replace hgr := (show w.grownBy wr5 (some g) by rw [hw]; exact grown_put hgr _ _)
      have Hx4 := Lib.hid hx4
      clear hw hx4
      have c0 : wr5.cell? ⟨g, 0, none⟩ = some (.int .u64 (nb64 x2)) := hG.cell_at rfl
      have c1 : wr5.cell? ⟨g, 1, none⟩ = some (.int .u64 (nb64 x1)) := hG.cell_at rfl
      have c2 : wr5.cell? ⟨g, 2, none⟩ = some (.int .u64 (nb64 x3)) := hG.cell_at rfl
      have c3 : wr5.cell? ⟨g, 3, none⟩ = some (.int .u64 (nb64 x4)) := hG.cell_at rfl
      have f0 := hG.loose 0
      have f1 := hG.loose 1
      have f2 := hG.loose 2
      have f3 := hG.loose 3
      go_upto_region 7 with fail
      refine still_tail_drew 11 rfl (by kernel_rfl) ?_
      simp only [List.take_succ_cons, List.take_zero, List.drop_succ_cons, List.drop_zero]
      obtain ⟨wn, hwn⟩ : ∃ x, x = wr5.drew := ⟨_, rfl⟩
      rw [← hwn]
      replace hG : Has wn g 49 #[.int .u64 (nb64 x2), .int .u64 (nb64 x1), .int .u64 (nb64 x3), .int .u64 (nb64 x4)] := by rw [hwn]; exact hG.draw
      replace hgr : w.grownBy wn (some g) := by rw [hwn]; exact grown_drew hgr
      clear c0 f0 c1 f1 c2 f2 c3 f3
      clear hwn
      have c0 : wn.cell? ⟨g, 0, none⟩ = some (.int .u64 (nb64 x2)) := hG.cell_at rfl
      have c1 : wn.cell? ⟨g, 1, none⟩ = some (.int .u64 (nb64 x1)) := hG.cell_at rfl
      have c2 : wn.cell? ⟨g, 2, none⟩ = some (.int .u64 (nb64 x3)) := hG.cell_at rfl
      have c3 : wn.cell? ⟨g, 3, none⟩ = some (.int .u64 (nb64 x4)) := hG.cell_at rfl
      have f0 := hG.loose 0
      have f1 := hG.loose 1
      have f2 := hG.loose 2
      have f3 := hG.loose 3
      repeat still_step
      refine wpStill_nil ?_
      go_upto_region 8 with fail
      clear c0 f0 c1 f1 c2 f2 c3 f3
      obtain ⟨x5, hx5⟩ : ∃ x, x = x2 + x4 := ⟨_, rfl⟩
      rw [← hx5]
      obtain ⟨wr6, hw⟩ : ∃ x, x = wn.setCell ⟨g, 0, none⟩ (.int .u64 (nb64 x5)) := ⟨_, rfl⟩
      rw [← hw]
      replace hG : Has wr6 g 49 #[.int .u64 (nb64 x5), .int .u64 (nb64 x1), .int .u64 (nb64 x3), .int .u64 (nb64 x4)] := by rw [hw]; exact hG.put 0 _
      replace hgr := (show w.grownBy wr6 (some g) by rw [hw]; exact grown_put hgr _ _)
      have Hx5 := Lib.hid hx5
      clear hw hx5
      have c0 : wr6.cell? ⟨g, 0, none⟩ = some (.int .u64 (nb64 x5)) := hG.cell_at rfl
      have c1 : wr6.cell? ⟨g, 1, none⟩ = some (.int .u64 (nb64 x1)) := hG.cell_at rfl
      have c2 : wr6.cell? ⟨g, 2, none⟩ = some (.int .u64 (nb64 x3)) := hG.cell_at rfl
      have c3 : wr6.cell? ⟨g, 3, none⟩ = some (.int .u64 (nb64 x4)) := hG.cell_at rfl
      have f0 := hG.loose 0
      have f1 := hG.loose 1
      have f2 := hG.loose 2
      have f3 := hG.loose 3
      go_upto_region 8 with fail
      refine still_tail_drew 13 rfl (by kernel_rfl) ?_
      simp only [List.take_succ_cons, List.take_zero, List.drop_succ_cons, List.drop_zero]
      obtain ⟨wn, hwn⟩ : ∃ x, x = wr6.drew := ⟨_, rfl⟩
      rw [← hwn]
      replace hG : Has wn g 49 #[.int .u64 (nb64 x5), .int .u64 (nb64 x1), .int .u64 (nb64 x3), .int .u64 (nb64 x4)] := by rw [hwn]; exact hG.draw
      replace hgr : w.grownBy wn (some g) := by rw [hwn]; exact grown_drew hgr
      clear c0 f0 c1 f1 c2 f2 c3 f3
      clear hwn
      have c0 : wn.cell? ⟨g, 0, none⟩ = some (.int .u64 (nb64 x5)) := hG.cell_at rfl
      have c1 : wn.cell? ⟨g, 1, none⟩ = some (.int .u64 (nb64 x1)) := hG.cell_at rfl
      have c2 : wn.cell? ⟨g, 2, none⟩ = some (.int .u64 (nb64 x3)) := hG.cell_at rfl
      have c3 : wn.cell? ⟨g, 3, none⟩ = some (.int .u64 (nb64 x4)) := hG.cell_at rfl
      have f0 := hG.loose 0
      have f1 := hG.loose 1
      have f2 := hG.loose 2
      have f3 := hG.loose 3
      repeat still_step
      still_call ((rotl_any _ 21 21 rfl (by omega) _).mono fun e w' h => ⟨h.1, h.2.symm⟩)
      repeat still_step
      refine wpStill_nil ?_
      go_upto_region 9 with fail
      clear c0 f0 c1 f1 c2 f2 c3 f3
      obtain ⟨x6, hx6⟩ : ∃ x, x = Si.turn x4 21 ^^^ x5 := ⟨_, rfl⟩
      rw [← hx6]
      obtain ⟨wr7, hw⟩ : ∃ x, x = wn.setCell ⟨g, 3, none⟩ (.int .u64 (nb64 x6)) := ⟨_, rfl⟩
      rw [← hw]
      replace hG : Has wr7 g 49 #[.int .u64 (nb64 x5), .int .u64 (nb64 x1), .int .u64 (nb64 x3), .int .u64 (nb64 x6)] := by rw [hw]; exact hG.put 3 _
      replace hgr := (show w.grownBy wr7 (some g) by rw [hw]; exact grown_put hgr _ _)
      have Hx6 := Lib.hid hx6
      clear hw hx6
      have c0 : wr7.cell? ⟨g, 0, none⟩ = some (.int .u64 (nb64 x5)) := hG.cell_at rfl
      have c1 : wr7.cell? ⟨g, 1, none⟩ = some (.int .u64 (nb64 x1)) := hG.cell_at rfl
      have c2 : wr7.cell? ⟨g, 2, none⟩ = some (.int .u64 (nb64 x3)) := hG.cell_at rfl
      have c3 : wr7.cell? ⟨g, 3, none⟩ = some (.int .u64 (nb64 x6)) := hG.cell_at rfl
      have f0 := hG.loose 0
      have f1 := hG.loose 1
      have f2 := hG.loose 2
      have f3 := hG.loose 3
      go_upto_region 9 with fail
      refine still_tail_drew 11 rfl (by kernel_rfl) ?_
      simp only [List.take_succ_cons, List.take_zero, List.drop_succ_cons, List.drop_zero]
      obtain ⟨wn, hwn⟩ : ∃ x, x = wr7.drew := ⟨_, rfl⟩
      rw [← hwn]
      replace hG : Has wn g 49 #[.int .u64 (nb64 x5), .int .u64 (nb64 x1), .int .u64 (nb64 x3), .int .u64 (nb64 x6)] := by rw [hwn]; exact hG.draw
      replace hgr : w.grownBy wn (some g) := by rw [hwn]; exact grown_drew hgr
      clear c0 f0 c1 f1 c2 f2 c3 f3
      clear hwn
      have c0 : wn.cell? ⟨g, 0, none⟩ = some (.int .u64 (nb64 x5)) := hG.cell_at rfl
      have c1 : wn.cell? ⟨g, 1, none⟩ = some (.int .u64 (nb64 x1)) := hG.cell_at rfl
      have c2 : wn.cell? ⟨g, 2, none⟩ = some (.int .u64 (nb64 x3)) := hG.cell_at rfl
      have c3 : wn.cell? ⟨g, 3, none⟩ = some (.int .u64 (nb64 x6)) := hG.cell_at rfl
      have f0 := hG.loose 0
      have f1 := hG.loose 1
      have f2 := hG.loose 2
      have f3 := hG.loose 3
      repeat still_step
      refine wpStill_nil ?_
      go_upto_region 10 with fail
      clear c0 f0 c1 f1 c2 f2 c3 f3
      obtain ⟨x7, hx7⟩ : ∃ x, x = x3 + x1 := ⟨_, rfl⟩
      rw [← hx7]
      obtain ⟨wr8, hw⟩ : ∃ x, x = wn.setCell ⟨g, 2, none⟩ (.int .u64 (nb64 x7)) := ⟨_, rfl⟩
      rw [← hw]
      replace hG : Has wr8 g 49 #[.int .u64 (nb64 x5), .int .u64 (nb64 x1), .int .u64 (nb64 x7), .int .u64 (nb64 x6)] := by rw [hw]; exact hG.put 2 _
      replace hgr := (show w.grownBy wr8 (some g) by rw [hw]; exact grown_put hgr _ _)
      have Hx7 := Lib.hid hx7
      clear hw hx7
      have c0 : wr8.cell? ⟨g, 0, none⟩ = some (.int .u64 (nb64 x5)) := hG.cell_at rfl
      have c1 : wr8.cell? ⟨g, 1, none⟩ = some (.int .u64 (nb64 x1)) := hG.cell_at rfl
      have c2 : wr8.cell? ⟨g, 2, none⟩ = some (.int .u64 (nb64 x7)) := hG.cell_at rfl
      have c3 : wr8.cell? ⟨g, 3, none⟩ = some (.int .u64 (nb64 x6)) := hG.cell_at rfl
      have f0 := hG.loose 0
      have f1 := hG.loose 1
      have f2 := hG.loose 2
      have f3 := hG.loose 3
      go_upto_region 10 with fail
      refine still_tail_drew 13 rfl (by kernel_rfl) ?_
      simp only [List.take_succ_cons, List.take_zero, List.drop_succ_cons, List.drop_zero]
      obtain ⟨wn, hwn⟩ : ∃ x, x = wr8.drew := ⟨_, rfl⟩
      rw [← hwn]
      replace hG : Has wn g 49 #[.int .u64 (nb64 x5), .int .u64 (nb64 x1), .int .u64 (nb64 x7), .int .u64 (nb64 x6)] := by rw [hwn]; exact hG.draw
      replace hgr : w.grownBy wn (some g) := by rw [hwn]; exact grown_drew hgr
      clear c0 f0 c1 f1 c2 f2 c3 f3
      clear hwn
      have c0 : wn.cell? ⟨g, 0, none⟩ = some (.int .u64 (nb64 x5)) := hG.cell_at rfl
      have c1 : wn.cell? ⟨g, 1, none⟩ = some (.int .u64 (nb64 x1)) := hG.cell_at rfl
      have c2 : wn.cell? ⟨g, 2, none⟩ = some (.int .u64 (nb64 x7)) := hG.cell_at rfl
      have c3 : wn.cell? ⟨g, 3, none⟩ = some (.int .u64 (nb64 x6)) := hG.cell_at rfl
      have f0 := hG.loose 0
      have f1 := hG.loose 1
      have f2 := hG.loose 2
      have f3 := hG.loose 3
      repeat still_step
      still_call ((rotl_any _ 17 17 rfl (by omega) _).mono fun e w' h => ⟨h.1, h.2.symm⟩)
      repeat still_step
      refine wpStill_nil ?_
      go_upto_region 11 with fail
      clear c0 f0 c1 f1 c2 f2 c3 f3
      obtain ⟨x8, hx8⟩ : ∃ x, x = Si.turn x1 17 ^^^ x7 := ⟨_, rfl⟩
      rw [← hx8]
      obtain ⟨wr9, hw⟩ : ∃ x, x = wn.setCell ⟨g, 1, none⟩ (.int .u64 (nb64 x8)) := ⟨_, rfl⟩
      rw [← hw]
      replace hG : Has wr9 g 49 #[.int .u64 (nb64 x5), .int .u64 (nb64 x8), .int .u64 (nb64 x7), .int .u64 (nb64 x6)] := by rw [hw]; exact hG.put 1 _
      replace hgr := (show w.grownBy wr9 (some g) by rw [hw]; exact grown_put hgr _ _)
      have Hx8 := Lib.hid hx8
      clear hw hx8
      have c0 : wr9.cell? ⟨g, 0, none⟩ = some (.int .u64 (nb64 x5)) := hG.cell_at rfl
      have c1 : wr9.cell? ⟨g, 1, none⟩ = some (.int .u64 (nb64 x8)) := hG.cell_at rfl
      have c2 : wr9.cell? ⟨g, 2, none⟩ = some (.int .u64 (nb64 x7)) := hG.cell_at rfl
      have c3 : wr9.cell? ⟨g, 3, none⟩ = some (.int .u64 (nb64 x6)) := hG.cell_at rfl
      have f0 := hG.loose 0
      have f1 := hG.loose 1
      have f2 := hG.loose 2
      have f3 := hG.loose 3
      go_upto_region 12 with (go_at_call 26; refine (rotl_any _ 32 32 rfl (by omega) _).mono ?_; rintro e wt ⟨rfl, rfl⟩)
      clear c0 f0 c1 f1 c2 f2 c3 f3
      obtain ⟨x9, hx9⟩ : ∃ x, x = Si.turn x7 32 := ⟨_, rfl⟩
      rw [← hx9]
      obtain ⟨wr10, hw⟩ : ∃ x, x = wr9.setCell ⟨g, 2, none⟩ (.int .u64 (nb64 x9)) := ⟨_, rfl⟩
      rw [← hw]
      replace hG : Has wr10 g 49 #[.int .u64 (nb64 x5), .int .u64 (nb64 x8), .int .u64 (nb64 x9), .int .u64 (nb64 x6)] := by rw [hw]; exact hG.put 2 _
      replace hgr := (show w.grownBy wr10 (some g) by rw [hw]; exact grown_put hgr _ _)
      have Hx9 := Lib.hid hx9
      clear hw hx9
      have c0 : wr10.cell? ⟨g, 0, none⟩ = some (.int .u64 (nb64 x5)) := hG.cell_at rfl
      have c1 : wr10.cell? ⟨g, 1, none⟩ = some (.int .u64 (nb64 x8)) := hG.cell_at rfl
      have c2 : wr10.cell? ⟨g, 2, none⟩ = some (.int .u64 (nb64 x9)) := hG.cell_at rfl
      have c3 : wr10.cell? ⟨g, 3, none⟩ = some (.int .u64 (nb64 x6)) := hG.cell_at rfl
      have f0 := hG.loose 0
      have f1 := hG.loose 1
      have f2 := hG.loose 2
      have f3 := hG.loose 3
      clear c0 f0 c1 f1 c2 f2 c3 f3
      go_wp2_with fail
      go_roundw
      case rel =>
        refine ⟨i + 1, by omega, by go_num, ⟨⟨x5, x8, x9, x6⟩, ?_, hG⟩, hgr⟩
        rw [show Si.rounds (i + 1) v = Si.round (Si.rounds i v) from rfl, ← HU.out, Hx9.out, Hx8.out, Hx7.out, Hx6.out, Hx5.out, Hx4.out, Hx3.out, Hx2.out, Hx1.out, Hx0.out]
        rfl
      case measure => (simp [intOf]; try omega)
    · obtain rfl : i = n := by omega
      have hii : ¬ (i : Int) < (i : Int) := by omega
      go_wp2
      go_end0
      exact ⟨⟨_, rfl⟩, by rw [← HU.out]; exact hG, hgr⟩
end Go.Proofs.Ytenoholdealphaa
