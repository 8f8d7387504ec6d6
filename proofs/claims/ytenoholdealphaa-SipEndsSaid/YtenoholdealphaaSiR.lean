/- the reference's rounds and Hash -/
import Derived.Test.YtenoholdealphaaRows
import Derived.Test.YtenoholdealphaaSiM
import Derived.Lib.Hide
import Derived.IntWalk
import Derived.Deep.Cut
namespace Go.Proofs.Ytenoholdealphaa
open Go Go.RowKit Go.ChangeShapes Go.WideShapes
theorem sturn_any (x : BitVec 64) (n : Nat) (z : Int) (hz : z = (n : Int)) (hn : n ≤ 64) (w : World) :
    Calls Try.prog 25 #[.int .u64 (nb64 x), .int .u64 z] w fun e w' => e = .returned (.int .u64 (nb64 (Si.turn x n))) ∧ w = w' := by
  subst hz
  have h1 : IntKind.u64.wrap (64 - (n : Int)) = ((64 - n : Nat) : Int) := by
    rw [IntKind.wrap_u64]; omega
  go_enter Try.func25, Try.ntmps25
  go_wp2
  go_ret
  exact ⟨rfl, rfl⟩
theorem size_four64 : (Try.prog.info? 58).map (·.size) = some 4 := by kernel_rfl
set_option maxRecDepth 100000 in
set_option maxHeartbeats 4000000 in
theorem srounds_any (v : Si.St) (n : Nat) (z : Int) (hz : z = (n : Int)) (hn : n ≤ 100) (w : World) :
    Calls Try.prog 22 #[.agg #[.int .u64 (nb64 v.a), .int .u64 (nb64 v.b), .int .u64 (nb64 v.c), .int .u64 (nb64 v.d)], .int .i64 z] w fun e w' =>
      e = .returned (.agg #[.int .u64 (nb64 (Si.rounds n v).a), .int .u64 (nb64 (Si.rounds n v).b), .int .u64 (nb64 (Si.rounds n v).c), .int .u64 (nb64 (Si.rounds n v).d)]) ∧ Below w.heap.size w w' := by
  subst hz
  go_enter Try.func22, Try.ntmps22
  go_wp2
  have hG : Has ((w.alloc (.cells #[.int .u64 (nb64 v.a), .int .u64 (nb64 v.b), .int .u64 (nb64 v.c), .int .u64 (nb64 v.d)] 58)).alloc (.cells #[.int .u64 0, .int .u64 0, .int .u64 0, .int .u64 0] 58)) w.heap.size 58 #[.int .u64 (nb64 v.a), .int .u64 (nb64 v.b), .int .u64 (nb64 v.c), .int .u64 (nb64 v.d)] := (Has.fresh w _ _).past _
  have hR : Has ((w.alloc (.cells #[.int .u64 (nb64 v.a), .int .u64 (nb64 v.b), .int .u64 (nb64 v.c), .int .u64 (nb64 v.d)] 58)).alloc (.cells #[.int .u64 0, .int .u64 0, .int .u64 0, .int .u64 0] 58)) (w.heap.size + 1) 58 #[.int .u64 0, .int .u64 0, .int .u64 0, .int .u64 0] := Has.fresh_at _ _ _ (by simp)
  have hB : Below w.heap.size w ((w.alloc (.cells #[.int .u64 (nb64 v.a), .int .u64 (nb64 v.b), .int .u64 (nb64 v.c), .int .u64 (nb64 v.d)] 58)).alloc (.cells #[.int .u64 0, .int .u64 0, .int .u64 0, .int .u64 0] 58)) := ((Below.refl _ _).alloc (Nat.le_refl _) _).alloc (by simp) _
  generalize ((w.alloc (.cells #[.int .u64 (nb64 v.a), .int .u64 (nb64 v.b), .int .u64 (nb64 v.c), .int .u64 (nb64 v.d)] 58)).alloc (.cells #[.int .u64 0, .int .u64 0, .int .u64 0, .int .u64 0] 58)) = w0 at hG hR hB ⊢
  go_loopw [5] (fun iv wr => ∃ i : Nat, i ≤ n ∧ iv = .int .i64 i ∧ (∃ u : Si.St, u = Si.rounds i v ∧ Has wr w.heap.size 58 #[.int .u64 (nb64 u.a), .int .u64 (nb64 u.b), .int .u64 (nb64 u.c), .int .u64 (nb64 u.d)]) ∧ Has wr (w.heap.size + 1) 58 #[.int .u64 0, .int .u64 0, .int .u64 0, .int .u64 0] ∧ Below w.heap.size w wr) (fun iv _ => n - (intOf iv).toNat)
  case atStart => exact ⟨0, Nat.zero_le _, rfl, ⟨v, rfl, hG⟩, hR, hB⟩
  case round =>
    clear hG hR hB
    obtain ⟨i, hi, rfl, ⟨u, hu, hG⟩, hR, hB⟩ := hrel
    obtain ⟨a, b, c, d⟩ := u
    have HU := Lib.hid hu
    replace hG : Has wr w.heap.size 58 #[.int .u64 (nb64 a), .int .u64 (nb64 b), .int .u64 (nb64 c), .int .u64 (nb64 d)] := hG
    clear hu
    by_cases hlt : i < n
    · have hii : (i : Int) < (n : Int) := by omega
      have c0 : wr.cell? ⟨w.heap.size, 0, none⟩ = some (.int .u64 (nb64 a)) := hG.cell_at rfl
      have c1 : wr.cell? ⟨w.heap.size, 1, none⟩ = some (.int .u64 (nb64 b)) := hG.cell_at rfl
      have c2 : wr.cell? ⟨w.heap.size, 2, none⟩ = some (.int .u64 (nb64 c)) := hG.cell_at rfl
      have c3 : wr.cell? ⟨w.heap.size, 3, none⟩ = some (.int .u64 (nb64 d)) := hG.cell_at rfl
      have f0 := hG.loose 0
      have f1 := hG.loose 1
      have f2 := hG.loose 2
      have f3 := hG.loose 3
      go_upto_region 5 with fail
      clear c0 f0 c1 f1 c2 f2 c3 f3
      obtain ⟨x0, hx0⟩ : ∃ x, x = a + b := ⟨_, rfl⟩
      rw [← hx0]
      obtain ⟨wr1, hw⟩ : ∃ x, x = wr.setCell ⟨w.heap.size, 0, none⟩ (.int .u64 (nb64 x0)) := ⟨_, rfl⟩
      rw [← hw]
      replace hG : Has wr1 w.heap.size 58 #[.int .u64 (nb64 x0), .int .u64 (nb64 b), .int .u64 (nb64 c), .int .u64 (nb64 d)] := by rw [hw]; exact hG.put 0 _
      replace hR := (show Has wr1 (w.heap.size + 1) 58 _ by rw [hw]; exact hR.aside (by simp) _)
      replace hB := (show Below w.heap.size w wr1 by rw [hw]; exact hB.setCell (Nat.le_refl _) _)
      have Hx0 := Lib.hid hx0
      clear hw hx0
      have c0 : wr1.cell? ⟨w.heap.size, 0, none⟩ = some (.int .u64 (nb64 x0)) := hG.cell_at rfl
      have c1 : wr1.cell? ⟨w.heap.size, 1, none⟩ = some (.int .u64 (nb64 b)) := hG.cell_at rfl
      have c2 : wr1.cell? ⟨w.heap.size, 2, none⟩ = some (.int .u64 (nb64 c)) := hG.cell_at rfl
      have c3 : wr1.cell? ⟨w.heap.size, 3, none⟩ = some (.int .u64 (nb64 d)) := hG.cell_at rfl
      have f0 := hG.loose 0
      have f1 := hG.loose 1
      have f2 := hG.loose 2
      have f3 := hG.loose 3
      go_upto_region 6 with (go_at_call 25; refine (sturn_any _ 13 13 rfl (by omega) _).mono ?_; rintro e wt ⟨rfl, rfl⟩)
      clear c0 f0 c1 f1 c2 f2 c3 f3
      obtain ⟨x1, hx1⟩ : ∃ x, x = Si.turn b 13 := ⟨_, rfl⟩
      rw [← hx1]
      obtain ⟨wr2, hw⟩ : ∃ x, x = wr1.setCell ⟨w.heap.size, 1, none⟩ (.int .u64 (nb64 x1)) := ⟨_, rfl⟩
      rw [← hw]
      replace hG : Has wr2 w.heap.size 58 #[.int .u64 (nb64 x0), .int .u64 (nb64 x1), .int .u64 (nb64 c), .int .u64 (nb64 d)] := by rw [hw]; exact hG.put 1 _
      replace hR := (show Has wr2 (w.heap.size + 1) 58 _ by rw [hw]; exact hR.aside (by simp) _)
      replace hB := (show Below w.heap.size w wr2 by rw [hw]; exact hB.setCell (Nat.le_refl _) _)
      have Hx1 := Lib.hid hx1
      clear hw hx1
      have c0 : wr2.cell? ⟨w.heap.size, 0, none⟩ = some (.int .u64 (nb64 x0)) := hG.cell_at rfl
      have c1 : wr2.cell? ⟨w.heap.size, 1, none⟩ = some (.int .u64 (nb64 x1)) := hG.cell_at rfl
      have c2 : wr2.cell? ⟨w.heap.size, 2, none⟩ = some (.int .u64 (nb64 c)) := hG.cell_at rfl
      have c3 : wr2.cell? ⟨w.heap.size, 3, none⟩ = some (.int .u64 (nb64 d)) := hG.cell_at rfl
      have f0 := hG.loose 0
      have f1 := hG.loose 1
      have f2 := hG.loose 2
      have f3 := hG.loose 3
      go_upto_region 7 with fail
      clear c0 f0 c1 f1 c2 f2 c3 f3
      obtain ⟨x2, hx2⟩ : ∃ x, x = x1 ^^^ x0 := ⟨_, rfl⟩
      rw [← hx2]
      obtain ⟨wr3, hw⟩ : ∃ x, x = wr2.setCell ⟨w.heap.size, 1, none⟩ (.int .u64 (nb64 x2)) := ⟨_, rfl⟩
      rw [← hw]
      replace hG : Has wr3 w.heap.size 58 #[.int .u64 (nb64 x0), .int .u64 (nb64 x2), .int .u64 (nb64 c), .int .u64 (nb64 d)] := by rw [hw]; exact hG.put 1 _
      replace hR := (show Has wr3 (w.heap.size + 1) 58 _ by rw [hw]; exact hR.aside (by simp) _)
      replace hB := (show Below w.heap.size w wr3 by rw [hw]; exact hB.setCell (Nat.le_refl _) _)
      have Hx2 := Lib.hid hx2
      clear hw hx2
      have c0 : wr3.cell? ⟨w.heap.size, 0, none⟩ = some (.int .u64 (nb64 x0)) := hG.cell_at rfl
      have c1 : wr3.cell? ⟨w.heap.size, 1, none⟩ = some (.int .u64 (nb64 x2)) := hG.cell_at rfl
      have c2 : wr3.cell? ⟨w.heap.size, 2, none⟩ = some (.int .u64 (nb64 c)) := hG.cell_at rfl
      have c3 : wr3.cell? ⟨w.heap.size, 3, none⟩ = some (.int .u64 (nb64 d)) := hG.cell_at rfl
      have f0 := hG.loose 0
      have f1 := hG.loose 1
      have f2 := hG.loose 2
      have f3 := hG.loose 3
      go_upto_region 8 with (go_at_call 25; refine (sturn_any _ 32 32 rfl (by omega) _).mono ?_; rintro e wt ⟨rfl, rfl⟩)
      clear c0 f0 c1 f1 c2 f2 c3 f3
      obtain ⟨x3, hx3⟩ : ∃ x, x = Si.turn x0 32 := ⟨_, rfl⟩
      rw [← hx3]
      obtain ⟨wr4, hw⟩ : ∃ x, x = wr3.setCell ⟨w.heap.size, 0, none⟩ (.int .u64 (nb64 x3)) := ⟨_, rfl⟩
      rw [← hw]
      replace hG : Has wr4 w.heap.size 58 #[.int .u64 (nb64 x3), .int .u64 (nb64 x2), .int .u64 (nb64 c), .int .u64 (nb64 d)] := by rw [hw]; exact hG.put 0 _
      replace hR := (show Has wr4 (w.heap.size + 1) 58 _ by rw [hw]; exact hR.aside (by simp) _)
      replace hB := (show Below w.heap.size w wr4 by rw [hw]; exact hB.setCell (Nat.le_refl _) _)
      have Hx3 := Lib.hid hx3
      clear hw hx3
      have c0 : wr4.cell? ⟨w.heap.size, 0, none⟩ = some (.int .u64 (nb64 x3)) := hG.cell_at rfl
      have c1 : wr4.cell? ⟨w.heap.size, 1, none⟩ = some (.int .u64 (nb64 x2)) := hG.cell_at rfl
      have c2 : wr4.cell? ⟨w.heap.size, 2, none⟩ = some (.int .u64 (nb64 c)) := hG.cell_at rfl
      have c3 : wr4.cell? ⟨w.heap.size, 3, none⟩ = some (.int .u64 (nb64 d)) := hG.cell_at rfl
      have f0 := hG.loose 0
      have f1 := hG.loose 1
      have f2 := hG.loose 2
      have f3 := hG.loose 3
      go_upto_region 9 with fail
      clear c0 f0 c1 f1 c2 f2 c3 f3
      obtain ⟨x4, hx4⟩ : ∃ x, x = c + d := ⟨_, rfl⟩
      rw [← hx4]
      obtain ⟨wr5, hw⟩ : ∃ x, x = wr4.setCell ⟨w.heap.size, 2, none⟩ (.int .u64 (nb64 x4)) := ⟨_, rfl⟩
      rw [← hw]
      replace hG : Has wr5 w.heap.size 58 #[.int .u64 (nb64 x3), .int .u64 (nb64 x2), .int .u64 (nb64 x4), .int .u64 (nb64 d)] := by rw [hw]; exact hG.put 2 _
      replace hR := (show Has wr5 (w.heap.size + 1) 58 _ by rw [hw]; exact hR.aside (by simp) _)
      replace hB := (show Below w.heap.size w wr5 by rw [hw]; exact hB.setCell (Nat.le_refl _) _)
      have Hx4 := Lib.hid hx4
      clear hw hx4
      have c0 : wr5.cell? ⟨w.heap.size, 0, none⟩ = some (.int .u64 (nb64 x3)) := hG.cell_at rfl
      have c1 : wr5.cell? ⟨w.heap.size, 1, none⟩ = some (.int .u64 (nb64 x2)) := hG.cell_at rfl
      have c2 : wr5.cell? ⟨w.heap.size, 2, none⟩ = some (.int .u64 (nb64 x4)) := hG.cell_at rfl
      have c3 : wr5.cell? ⟨w.heap.size, 3, none⟩ = some (.int .u64 (nb64 d)) := hG.cell_at rfl
      have f0 := hG.loose 0
      have f1 := hG.loose 1
      have f2 := hG.loose 2
      have f3 := hG.loose 3
      go_upto_region 10 with (go_at_call 25; refine (sturn_any _ 16 16 rfl (by omega) _).mono ?_; rintro e wt ⟨rfl, rfl⟩)
      clear c0 f0 c1 f1 c2 f2 c3 f3
      obtain ⟨x5, hx5⟩ : ∃ x, x = Si.turn d 16 := ⟨_, rfl⟩
      rw [← hx5]
      obtain ⟨wr6, hw⟩ : ∃ x, x = wr5.setCell ⟨w.heap.size, 3, none⟩ (.int .u64 (nb64 x5)) := ⟨_, rfl⟩
      rw [← hw]
      replace hG : Has wr6 w.heap.size 58 #[.int .u64 (nb64 x3), .int .u64 (nb64 x2), .int .u64 (nb64 x4), .int .u64 (nb64 x5)] := by rw [hw]; exact hG.put 3 _
      replace hR := (show Has wr6 (w.heap.size + 1) 58 _ by rw [hw]; exact hR.aside (by simp) _)
      replace hB := (show Below w.heap.size w wr6 by rw [hw]; exact hB.setCell (Nat.le_refl _) _)
      have Hx5 := Lib.hid hx5
      clear hw hx5
      have c0 : wr6.cell? ⟨w.heap.size, 0, none⟩ = some (.int .u64 (nb64 x3)) := hG.cell_at rfl
      have c1 : wr6.cell? ⟨w.heap.size, 1, none⟩ = some (.int .u64 (nb64 x2)) := hG.cell_at rfl
      have c2 : wr6.cell? ⟨w.heap.size, 2, none⟩ = some (.int .u64 (nb64 x4)) := hG.cell_at rfl
      have c3 : wr6.cell? ⟨w.heap.size, 3, none⟩ = some (.int .u64 (nb64 x5)) := hG.cell_at rfl
      have f0 := hG.loose 0
      have f1 := hG.loose 1
      have f2 := hG.loose 2
      have f3 := hG.loose 3
      go_upto_region 11 with fail
      clear c0 f0 c1 f1 c2 f2 c3 f3
      obtain ⟨x6, hx6⟩ : ∃ x, x = x5 ^^^ x4 := ⟨_, rfl⟩
      rw [← hx6]
      obtain ⟨wr7, hw⟩ : ∃ x, x = wr6.setCell ⟨w.heap.size, 3, none⟩ (.int .u64 (nb64 x6)) := ⟨_, rfl⟩
      rw [← hw]
      replace hG : Has wr7 w.heap.size 58 #[.int .u64 (nb64 x3), .int .u64 (nb64 x2), .int .u64 (nb64 x4), .int .u64 (nb64 x6)] := by rw [hw]; exact hG.put 3 _
      replace hR := (show Has wr7 (w.heap.size + 1) 58 _ by rw [hw]; exact hR.aside (by simp) _)
      replace hB := (show Below w.heap.size w wr7 by rw [hw]; exact hB.setCell (Nat.le_refl _) _)
      have Hx6 := Lib.hid hx6
      clear hw hx6
      have c0 : wr7.cell? ⟨w.heap.size, 0, none⟩ = some (.int .u64 (nb64 x3)) := hG.cell_at rfl
      have c1 : wr7.cell? ⟨w.heap.size, 1, none⟩ = some (.int .u64 (nb64 x2)) := hG.cell_at rfl
      have c2 : wr7.cell? ⟨w.heap.size, 2, none⟩ = some (.int .u64 (nb64 x4)) := hG.cell_at rfl
      have c3 : wr7.cell? ⟨w.heap.size, 3, none⟩ = some (.int .u64 (nb64 x6)) := hG.cell_at rfl
      have f0 := hG.loose 0
      have f1 := hG.loose 1
      have f2 := hG.loose 2
      have f3 := hG.loose 3
      go_upto_region 12 with fail
      clear c0 f0 c1 f1 c2 f2 c3 f3
      obtain ⟨x7, hx7⟩ : ∃ x, x = x3 + x6 := ⟨_, rfl⟩
      rw [← hx7]
      obtain ⟨wr8, hw⟩ : ∃ x, x = wr7.setCell ⟨w.heap.size, 0, none⟩ (.int .u64 (nb64 x7)) := ⟨_, rfl⟩
      rw [← hw]
      replace hG : Has wr8 w.heap.size 58 #[.int .u64 (nb64 x7), .int .u64 (nb64 x2), .int .u64 (nb64 x4), .int .u64 (nb64 x6)] := by rw [hw]; exact hG.put 0 _
      replace hR := (show Has wr8 (w.heap.size + 1) 58 _ by rw [hw]; exact hR.aside (by simp) _)
      replace hB := (show Below w.heap.size w wr8 by rw [hw]; exact hB.setCell (Nat.le_refl _) _)
      have Hx7 := Lib.hid hx7
      clear hw hx7
      have c0 : wr8.cell? ⟨w.heap.size, 0, none⟩ = some (.int .u64 (nb64 x7)) := hG.cell_at rfl
      have c1 : wr8.cell? ⟨w.heap.size, 1, none⟩ = some (.int .u64 (nb64 x2)) := hG.cell_at rfl
      have c2 : wr8.cell? ⟨w.heap.size, 2, none⟩ = some (.int .u64 (nb64 x4)) := hG.cell_at rfl
      have c3 : wr8.cell? ⟨w.heap.size, 3, none⟩ = some (.int .u64 (nb64 x6)) := hG.cell_at rfl
      have f0 := hG.loose 0
      have f1 := hG.loose 1
      have f2 := hG.loose 2
      have f3 := hG.loose 3
      go_upto_region 13 with (go_at_call 25; refine (sturn_any _ 21 21 rfl (by omega) _).mono ?_; rintro e wt ⟨rfl, rfl⟩)
      clear c0 f0 c1 f1 c2 f2 c3 f3
      obtain ⟨x8, hx8⟩ : ∃ x, x = Si.turn x6 21 := ⟨_, rfl⟩
      rw [← hx8]
      obtain ⟨wr9, hw⟩ : ∃ x, x = wr8.setCell ⟨w.heap.size, 3, none⟩ (.int .u64 (nb64 x8)) := ⟨_, rfl⟩
      rw [← hw]
      replace hG : Has wr9 w.heap.size 58 #[.int .u64 (nb64 x7), .int .u64 (nb64 x2), .int .u64 (nb64 x4), .int .u64 (nb64 x8)] := by rw [hw]; exact hG.put 3 _
      replace hR := (show Has wr9 (w.heap.size + 1) 58 _ by rw [hw]; exact hR.aside (by simp) _)
      replace hB := (show Below w.heap.size w wr9 by rw [hw]; exact hB.setCell (Nat.le_refl _) _)
      have Hx8 := Lib.hid hx8
      clear hw hx8
      have c0 : wr9.cell? ⟨w.heap.size, 0, none⟩ = some (.int .u64 (nb64 x7)) := hG.cell_at rfl
      have c1 : wr9.cell? ⟨w.heap.size, 1, none⟩ = some (.int .u64 (nb64 x2)) := hG.cell_at rfl
      have c2 : wr9.cell? ⟨w.heap.size, 2, none⟩ = some (.int .u64 (nb64 x4)) := hG.cell_at rfl
      have c3 : wr9.cell? ⟨w.heap.size, 3, none⟩ = some (.int .u64 (nb64 x8)) := hG.cell_at rfl
      have f0 := hG.loose 0
      have f1 := hG.loose 1
      have f2 := hG.loose 2
      have f3 := hG.loose 3
      go_upto_region 14 with fail
      clear c0 f0 c1 f1 c2 f2 c3 f3
      obtain ⟨x9, hx9⟩ : ∃ x, x = x8 ^^^ x7 := ⟨_, rfl⟩
      rw [← hx9]
      obtain ⟨wr10, hw⟩ : ∃ x, x = wr9.setCell ⟨w.heap.size, 3, none⟩ (.int .u64 (nb64 x9)) := ⟨_, rfl⟩
      rw [← hw]
      replace hG : Has wr10 w.heap.size 58 #[.int .u64 (nb64 x7), .int .u64 (nb64 x2), .int .u64 (nb64 x4), .int .u64 (nb64 x9)] := by rw [hw]; exact hG.put 3 _
      replace hR := (show Has wr10 (w.heap.size + 1) 58 _ by rw [hw]; exact hR.aside (by simp) _)
      replace hB := (show Below w.heap.size w wr10 by rw [hw]; exact hB.setCell (Nat.le_refl _) _)
      have Hx9 := Lib.hid hx9
      clear hw hx9
      have c0 : wr10.cell? ⟨w.heap.size, 0, none⟩ = some (.int .u64 (nb64 x7)) := hG.cell_at rfl
      have c1 : wr10.cell? ⟨w.heap.size, 1, none⟩ = some (.int .u64 (nb64 x2)) := hG.cell_at rfl
      have c2 : wr10.cell? ⟨w.heap.size, 2, none⟩ = some (.int .u64 (nb64 x4)) := hG.cell_at rfl
      have c3 : wr10.cell? ⟨w.heap.size, 3, none⟩ = some (.int .u64 (nb64 x9)) := hG.cell_at rfl
      have f0 := hG.loose 0
      have f1 := hG.loose 1
      have f2 := hG.loose 2
      have f3 := hG.loose 3
      go_upto_region 15 with fail
      clear c0 f0 c1 f1 c2 f2 c3 f3
      obtain ⟨x10, hx10⟩ : ∃ x, x = x4 + x2 := ⟨_, rfl⟩
      rw [← hx10]
      obtain ⟨wr11, hw⟩ : ∃ x, x = wr10.setCell ⟨w.heap.size, 2, none⟩ (.int .u64 (nb64 x10)) := ⟨_, rfl⟩
      rw [← hw]
      replace hG : Has wr11 w.heap.size 58 #[.int .u64 (nb64 x7), .int .u64 (nb64 x2), .int .u64 (nb64 x10), .int .u64 (nb64 x9)] := by rw [hw]; exact hG.put 2 _
      replace hR := (show Has wr11 (w.heap.size + 1) 58 _ by rw [hw]; exact hR.aside (by simp) _)
      replace hB := (show Below w.heap.size w wr11 by rw [hw]; exact hB.setCell (Nat.le_refl _) _)
      have Hx10 := Lib.hid hx10
      clear hw hx10
      have c0 : wr11.cell? ⟨w.heap.size, 0, none⟩ = some (.int .u64 (nb64 x7)) := hG.cell_at rfl
      have c1 : wr11.cell? ⟨w.heap.size, 1, none⟩ = some (.int .u64 (nb64 x2)) := hG.cell_at rfl
      have c2 : wr11.cell? ⟨w.heap.size, 2, none⟩ = some (.int .u64 (nb64 x10)) := hG.cell_at rfl
      have c3 : wr11.cell? ⟨w.heap.size, 3, none⟩ = some (.int .u64 (nb64 x9)) := hG.cell_at rfl
      have f0 := hG.loose 0
      have f1 := hG.loose 1
      have f2 := hG.loose 2
      have f3 := hG.loose 3
      go_upto_region 16 with (go_at_call 25; refine (sturn_any _ 17 17 rfl (by omega) _).mono ?_; rintro e wt ⟨rfl, rfl⟩)
      clear c0 f0 c1 f1 c2 f2 c3 f3
      obtain ⟨x11, hx11⟩ : ∃ x, x = Si.turn x2 17 := ⟨_, rfl⟩
      rw [← hx11]
      obtain ⟨wr12, hw⟩ : ∃ x, x = wr11.setCell ⟨w.heap.size, 1, none⟩ (.int .u64 (nb64 x11)) := ⟨_, rfl⟩
      rw [← hw]
      replace hG : Has wr12 w.heap.size 58 #[.int .u64 (nb64 x7), .int .u64 (nb64 x11), .int .u64 (nb64 x10), .int .u64 (nb64 x9)] := by rw [hw]; exact hG.put 1 _
      replace hR := (show Has wr12 (w.heap.size + 1) 58 _ by rw [hw]; exact hR.aside (by simp) _)
      replace hB := (show Below w.heap.size w wr12 by rw [hw]; exact hB.setCell (Nat.le_refl _) _)
      have Hx11 := Lib.hid hx11
      clear hw hx11
      have c0 : wr12.cell? ⟨w.heap.size, 0, none⟩ = some (.int .u64 (nb64 x7)) := hG.cell_at rfl
      have c1 : wr12.cell? ⟨w.heap.size, 1, none⟩ = some (.int .u64 (nb64 x11)) := hG.cell_at rfl
      have c2 : wr12.cell? ⟨w.heap.size, 2, none⟩ = some (.int .u64 (nb64 x10)) := hG.cell_at rfl
      have c3 : wr12.cell? ⟨w.heap.size, 3, none⟩ = some (.int .u64 (nb64 x9)) := hG.cell_at rfl
      have f0 := hG.loose 0
      have f1 := hG.loose 1
      have f2 := hG.loose 2
      have f3 := hG.loose 3
      go_upto_region 17 with fail
      clear c0 f0 c1 f1 c2 f2 c3 f3
      obtain ⟨x12, hx12⟩ : ∃ x, x = x11 ^^^ x10 := ⟨_, rfl⟩
      rw [← hx12]
      obtain ⟨wr13, hw⟩ : ∃ x, x = wr12.setCell ⟨w.heap.size, 1, none⟩ (.int .u64 (nb64 x12)) := ⟨_, rfl⟩
      rw [← hw]
      replace hG : Has wr13 w.heap.size 58 #[.int .u64 (nb64 x7), .int .u64 (nb64 x12), .int .u64 (nb64 x10), .int .u64 (nb64 x9)] := by rw [hw]; exact hG.put 1 _
      replace hR := (show Has wr13 (w.heap.size + 1) 58 _ by rw [hw]; exact hR.aside (by simp) _)
      replace hB := (show Below w.heap.size w wr13 by rw [hw]; exact hB.setCell (Nat.le_refl _) _)
      have Hx12 := Lib.hid hx12
      clear hw hx12
      have c0 : wr13.cell? ⟨w.heap.size, 0, none⟩ = some (.int .u64 (nb64 x7)) := hG.cell_at rfl
      have c1 : wr13.cell? ⟨w.heap.size, 1, none⟩ = some (.int .u64 (nb64 x12)) := hG.cell_at rfl
      have c2 : wr13.cell? ⟨w.heap.size, 2, none⟩ = some (.int .u64 (nb64 x10)) := hG.cell_at rfl
      have c3 : wr13.cell? ⟨w.heap.size, 3, none⟩ = some (.int .u64 (nb64 x9)) := hG.cell_at rfl
      have f0 := hG.loose 0
      have f1 := hG.loose 1
      have f2 := hG.loose 2
      have f3 := hG.loose 3
      go_upto_region 3 with (go_at_call 25; refine (sturn_any _ 32 32 rfl (by omega) _).mono ?_; rintro e wt ⟨rfl, rfl⟩)
      clear c0 f0 c1 f1 c2 f2 c3 f3
      obtain ⟨x13, hx13⟩ : ∃ x, x = Si.turn x10 32 := ⟨_, rfl⟩
      rw [← hx13]
      obtain ⟨wr14, hw⟩ : ∃ x, x = wr13.setCell ⟨w.heap.size, 2, none⟩ (.int .u64 (nb64 x13)) := ⟨_, rfl⟩
      rw [← hw]
      replace hG : Has wr14 w.heap.size 58 #[.int .u64 (nb64 x7), .int .u64 (nb64 x12), .int .u64 (nb64 x13), .int .u64 (nb64 x9)] := by rw [hw]; exact hG.put 2 _
      replace hR := (show Has wr14 (w.heap.size + 1) 58 _ by rw [hw]; exact hR.aside (by simp) _)
      replace hB := (show Below w.heap.size w wr14 by rw [hw]; exact hB.setCell (Nat.le_refl _) _)
      have Hx13 := Lib.hid hx13
      clear hw hx13
      have c0 : wr14.cell? ⟨w.heap.size, 0, none⟩ = some (.int .u64 (nb64 x7)) := hG.cell_at rfl
      have c1 : wr14.cell? ⟨w.heap.size, 1, none⟩ = some (.int .u64 (nb64 x12)) := hG.cell_at rfl
      have c2 : wr14.cell? ⟨w.heap.size, 2, none⟩ = some (.int .u64 (nb64 x13)) := hG.cell_at rfl
      have c3 : wr14.cell? ⟨w.heap.size, 3, none⟩ = some (.int .u64 (nb64 x9)) := hG.cell_at rfl
      have f0 := hG.loose 0
      have f1 := hG.loose 1
      have f2 := hG.loose 2
      have f3 := hG.loose 3
      clear c0 f0 c1 f1 c2 f2 c3 f3
      go_wp2_with fail
      go_roundw
      case rel =>
        refine ⟨i + 1, by omega, by go_num, ⟨⟨x7, x12, x13, x9⟩, ?_, hG⟩, hR, hB⟩
        rw [show Si.rounds (i + 1) v = Si.round (Si.rounds i v) from rfl, ← HU.out, Hx13.out, Hx12.out, Hx11.out, Hx10.out, Hx9.out, Hx8.out, Hx7.out, Hx6.out, Hx5.out, Hx4.out, Hx3.out, Hx2.out, Hx1.out, Hx0.out]
        rfl
      case measure => (simp [intOf]; try omega)
    · have hin : i = n := by omega
      have c0 : wr.cell? ⟨w.heap.size, 0, none⟩ = some (.int .u64 (nb64 a)) := hG.cell_at rfl
      have c1 : wr.cell? ⟨w.heap.size, 1, none⟩ = some (.int .u64 (nb64 b)) := hG.cell_at rfl
      have c2 : wr.cell? ⟨w.heap.size, 2, none⟩ = some (.int .u64 (nb64 c)) := hG.cell_at rfl
      have c3 : wr.cell? ⟨w.heap.size, 3, none⟩ = some (.int .u64 (nb64 d)) := hG.cell_at rfl
      have hii : ¬ (i : Int) < (n : Int) := by omega
      have r0 := hR.loose 0
      have r1 := hR.loose 1
      have r2 := hR.loose 2
      have r3 := hR.loose 3
      have q0 : wr.cell? ⟨w.heap.size + 1, 0, none⟩ = some (.int .u64 0) := hR.cell_at rfl
      have q1 : wr.cell? ⟨w.heap.size + 1, 1, none⟩ = some (.int .u64 0) := hR.cell_at rfl
      have q2 : wr.cell? ⟨w.heap.size + 1, 2, none⟩ = some (.int .u64 0) := hR.cell_at rfl
      have q3 : wr.cell? ⟨w.heap.size + 1, 3, none⟩ = some (.int .u64 0) := hR.cell_at rfl
      have HI := Lib.hid hin
      clear hin
      go_wp2_with fail
      have hE := (((hR.put 0 (.int .u64 (nb64 a))).put 1 (.int .u64 (nb64 b))).put 2 (.int .u64 (nb64 c))).put 3 (.int .u64 (nb64 d))
      refine bodyPost_ret (v := .agg #[.int .u64 (nb64 a), .int .u64 (nb64 b), .int .u64 (nb64 c), .int .u64 (nb64 d)]) (results_one_cell rfl _ _ (w.heap.size + 1) rfl _ (run_loadVar_mid _ _ 0 58 _ _ hE.range Try.underlying58 rfl size_four64)) rfl ⟨by rw [show Si.rounds n v = ⟨a, b, c, d⟩ by rw [HU.out, HI.out]], ?_⟩
      repeat (refine Below.setCell ?_ (Nat.le_succ _) _)
      exact hB
end Go.Proofs.Ytenoholdealphaa
