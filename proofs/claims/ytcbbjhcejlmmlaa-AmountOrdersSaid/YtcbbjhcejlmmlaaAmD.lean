/- the product of two words in two words: math/bits.Mul64; cmp.Compare, cmp.Or -/
import Derived.Test.YtcbbjhcejlmmlaaV
import Derived.Test.YtcbbjhcejlmmlaaAmC
import Derived.Test.YtcbbjhcejlmmlaaRows
import Derived.Test.YtcbbjhcejlmmlaaB
import Derived.Lib.Hide
import Derived.IntWalk
import Derived.OpenShut
import Derived.ProofKit
namespace Go.Proofs.Ytcbbjhcejlmmlaa
open Go Go.RowKit Go.ChangeShapes Go.WideShapes
namespace Am
/-- the upper word, as math/bits makes it -/
def mulHi (x y : BitVec 64) : BitVec 64 :=
  let w0 := (x &&& 4294967295#64) * (y &&& 4294967295#64)
  let t := (x >>> 32) * (y &&& 4294967295#64) + (w0 >>> 32)
  let w1 := (t &&& 4294967295#64) + (x &&& 4294967295#64) * (y >>> 32)
  (x >>> 32) * (y >>> 32) + (t >>> 32) + (w1 >>> 32)
theorem low_toNat (x : BitVec 64) : (x &&& 4294967295#64).toNat = x.toNat % 4294967296 := by
  rw [BitVec.toNat_and]
  exact Nat.and_two_pow_sub_one_eq_mod x.toNat 32
theorem high_toNat (x : BitVec 64) : (x >>> 32).toNat = x.toNat / 4294967296 := by
  rw [BitVec.toNat_ushiftRight, Nat.shiftRight_eq_div_pow]
theorem mul_part {a b : Nat} (ha : a < 4294967296) (hb : b < 4294967296) : a * b ≤ 18446744065119617025 := by
  have := Nat.mul_le_mul (show a ≤ 4294967295 by omega) (show b ≤ 4294967295 by omega)
  omega
theorem mul64 (x y : BitVec 64) : (mulHi x y).toNat * 18446744073709551616 + (x * y).toNat = x.toNat * y.toNat := by
  have hx := x.isLt
  have hy := y.isLt
  obtain ⟨a, ha⟩ : ∃ a, a = x.toNat / 4294967296 := ⟨_, rfl⟩
  obtain ⟨b, hb⟩ : ∃ b, b = x.toNat % 4294967296 := ⟨_, rfl⟩
  obtain ⟨c, hc⟩ : ∃ c, c = y.toNat / 4294967296 := ⟨_, rfl⟩
  obtain ⟨d, hd⟩ : ∃ d, d = y.toNat % 4294967296 := ⟨_, rfl⟩
  have la : a < 4294967296 := by omega
  have lb : b < 4294967296 := by omega
  have lc : c < 4294967296 := by omega
  have ld : d < 4294967296 := by omega
  have bd := mul_part lb ld
  have ad := mul_part la ld
  have bc := mul_part lb lc
  have ac := mul_part la lc
  have hxy : x.toNat * y.toNat = a * c * 18446744073709551616 + (a * d + b * c) * 4294967296 + b * d := by
    have e1 : x.toNat = a * 4294967296 + b := by omega
    have e2 : y.toNat = c * 4294967296 + d := by omega
    rw [e1, e2]
    have := Nat.mul_comm
    simp only [Nat.add_mul, Nat.mul_add]
    have f1 : a * 4294967296 * (c * 4294967296) = a * c * 18446744073709551616 := by
      rw [Nat.mul_mul_mul_comm]
    have f2 : a * 4294967296 * d = a * d * 4294967296 := Nat.mul_right_comm _ _ _
    have f3 : b * (c * 4294967296) = b * c * 4294967296 := (Nat.mul_assoc _ _ _).symm
    omega
  have hm : (mulHi x y).toNat = (a * c + ((a * d + b * d / 4294967296) / 4294967296) + (((a * d + b * d / 4294967296) % 4294967296 + b * c) / 4294967296)) := by
    unfold mulHi
    simp only [BitVec.toNat_add, BitVec.toNat_mul, high_toNat, low_toNat]
    rw [← ha, ← hb, ← hc, ← hd]
    generalize b * d = p at *
    generalize a * d = q at *
    generalize b * c = r at *
    generalize a * c = s at *
    omega
  rw [hm, BitVec.toNat_mul, hxy]
  generalize b * d = p at *
  generalize a * d = q at *
  generalize b * c = r at *
  generalize a * c = s at *
  omega
end Am
section
variable (t : TypeId)
@[go_sem high] theorem u64_mul_v (x y : BitVec 64) : binOp .mul t (.int .u64 (nb64 x)) (.int .u64 (nb64 y)) = pure (.int .u64 (nb64 (x * y))) := by
  rw [binOp_mul]; show pure (Value.int .u64 (IntKind.u64.wrap (nb64 x * nb64 y))) = _
  congr 2
end
set_option maxRecDepth 100000 in
set_option maxHeartbeats 2000000 in
theorem mul64_any (x y : BitVec 64) (w : World) :
    Calls Try.prog 26 #[.int .u64 (nb64 x), .int .u64 (nb64 y)] w fun e w' => e = .returned (.tuple #[.int .u64 (nb64 (Am.mulHi x y)), .int .u64 (nb64 (x * y))]) ∧ w = w' := by
  go_enter Try.func26, Try.ntmps26
  go_wp2
  go_ret2
  exact ⟨rfl, rfl⟩
theorem nan_no (x : BitVec 64) (w : World) : Calls Try.prog 29 #[.int .u64 (nb64 x)] w fun e w' => e = .returned (.bool false) ∧ w = w' := by
  have hb : (x != x) = false := by simp
  go_enter Try.func29, Try.ntmps29
  go_wp2
  go_ret
  exact ⟨rfl, rfl⟩
/-- how two words compare -/
def Am.cmpB (x y : BitVec 64) : Int := if x.toNat < y.toNat then -1 else if y.toNat < x.toNat then 1 else 0
set_option maxRecDepth 100000 in
set_option maxHeartbeats 2000000 in
theorem cmp_any (x y : BitVec 64) (w : World) :
    Calls Try.prog 28 #[.int .u64 (nb64 x), .int .u64 (nb64 y)] w fun e w' => e = .returned (.int .i64 (Am.cmpB x y)) ∧ w = w' := by
  by_cases h : nb64 x < nb64 y
  · have e := Lib.hid (show Am.cmpB x y = -1 by unfold Am.cmpB; rw [if_pos (by simp only [nb64] at h; omega)])
    go_enter Try.func28, Try.ntmps28
    go_wp2_with (first
      | (go_at_call 29; (with_reducible refine (nan_no y _).mono ?_); rintro e wk ⟨rfl, rfl⟩)
      | (go_at_call 29; (with_reducible refine (nan_no x _).mono ?_); rintro e wk ⟨rfl, rfl⟩))
    go_ret
    exact ⟨by rw [e.out]; rfl, rfl⟩
  · by_cases g : nb64 y < nb64 x
    · have e := Lib.hid (show Am.cmpB x y = 1 by unfold Am.cmpB; rw [if_neg (by simp only [nb64] at h; omega), if_pos (by simp only [nb64] at g; omega)])
      go_enter Try.func28, Try.ntmps28
      go_wp2_with (first
        | (go_at_call 29; (with_reducible refine (nan_no y _).mono ?_); rintro e wk ⟨rfl, rfl⟩)
        | (go_at_call 29; (with_reducible refine (nan_no x _).mono ?_); rintro e wk ⟨rfl, rfl⟩))
      go_ret
      exact ⟨by rw [e.out]; rfl, rfl⟩
    · have e := Lib.hid (show Am.cmpB x y = 0 by unfold Am.cmpB; rw [if_neg (by simp only [nb64] at h; omega), if_neg (by simp only [nb64] at g; omega)])
      go_enter Try.func28, Try.ntmps28
      go_wp2_with (first
        | (go_at_call 29; (with_reducible refine (nan_no y _).mono ?_); rintro e wk ⟨rfl, rfl⟩)
        | (go_at_call 29; (with_reducible refine (nan_no x _).mono ?_); rintro e wk ⟨rfl, rfl⟩))
      go_ret
      exact ⟨by rw [e.out]; rfl, rfl⟩
set_option maxRecDepth 100000 in
set_option maxHeartbeats 2000000 in
/-- cmp.Or of two numbers that lie in a block of their own -/
theorem or_two (a b : Int) (g : Nat) (c : Nat) (w : World) (hH : Has w g 3 #[.int .i64 a, .int .i64 b]) :
    Calls Try.prog 27 #[.slice (some ⟨g, 0, none⟩) 2 c] w fun e w' => e = .returned (.int .i64 (if a = 0 then b else a)) ∧ w = w' := by
  have c0 : w.cell? ⟨g, 0, none⟩ = some (.int .i64 a) := hH.cell_at rfl
  have c1 : w.cell? ⟨g, 1, none⟩ = some (.int .i64 b) := hH.cell_at rfl
  go_enter Try.func27, Try.ntmps27
  go_wp2
  go_loop [8] (fun iv => ∃ i : Nat, i ≤ 2 ∧ iv = .int .i64 i ∧ Hid (0 < i → a = 0) ∧ Hid (1 < i → b = 0)) (fun iv => 2 - (intOf iv).toNat)
  case atStart => exact ⟨0, by omega, rfl, Lib.hid (fun e => absurd e (by omega)), Lib.hid (fun e => absurd e (by omega))⟩
  case round =>
    obtain ⟨i, hi, rfl, HA, HB⟩ := hrel
    by_cases h0 : i = 0
    · subst h0
      by_cases ha : a = 0
      · have hb : (a != 0) = false := by simp [ha]
        have HC := Lib.hid ha
        clear ha
        go_wp2
        go_round
        case rel => exact ⟨1, by omega, by go_num, Lib.hid (fun _ => HC.out), Lib.hid (fun e => absurd e (by omega))⟩
        case measure => (simp [intOf]; try omega)
      · have hb : (a != 0) = true := by simp [ha]
        have HC := Lib.hid ha
        clear ha
        go_wp2
        go_ret
        exact ⟨rfl, rfl⟩
    · by_cases h1 : i = 1
      · subst h1
        have HC := Lib.hid (HA.out (by omega))
        by_cases ha : b = 0
        · have hb : (b != 0) = false := by simp [ha]
          have HD := Lib.hid ha
          clear ha
          go_wp2
          go_round
          case rel => exact ⟨2, by omega, by go_num, Lib.hid (fun _ => HC.out), Lib.hid (fun _ => HD.out)⟩
          case measure => (simp [intOf]; try omega)
        · have hb : (b != 0) = true := by simp [ha]
          have HD := Lib.hid ha
          clear ha
          go_wp2
          go_ret
          exact ⟨rfl, rfl⟩
      · have hii : ¬ (i : Int) < 2 := by omega
        have HC := Lib.hid (And.intro (HA.out (by omega)) (HB.out (by omega)))
        obtain rfl : a = 0 := HC.out.1
        go_wp2
        go_ret
        exact ⟨by rw [HC.out.2]; rfl, rfl⟩
namespace Am
/-- the products of four numbers, compared by their words -/
theorem cmp_words (x y u v : Nat) (hx : x < 18446744073709551616) (hy : y < 18446744073709551616) (hu : u < 18446744073709551616) (hv : v < 18446744073709551616) :
    (if cmpB (mulHi (BitVec.ofNat 64 x) (BitVec.ofNat 64 v)) (mulHi (BitVec.ofNat 64 u) (BitVec.ofNat 64 y)) = 0 then cmpB (BitVec.ofNat 64 x * BitVec.ofNat 64 v) (BitVec.ofNat 64 u * BitVec.ofNat 64 y)
      else cmpB (mulHi (BitVec.ofNat 64 x) (BitVec.ofNat 64 v)) (mulHi (BitVec.ofNat 64 u) (BitVec.ofNat 64 y))) = cmpN x y u v := by
  have e1 := mul64 (BitVec.ofNat 64 x) (BitVec.ofNat 64 v)
  have e2 := mul64 (BitVec.ofNat 64 u) (BitVec.ofNat 64 y)
  have l1 := (BitVec.ofNat 64 x * BitVec.ofNat 64 v).isLt
  have l2 := (BitVec.ofNat 64 u * BitVec.ofNat 64 y).isLt
  simp only [BitVec.toNat_ofNat, Nat.reducePow, Nat.mod_eq_of_lt hx, Nat.mod_eq_of_lt hy, Nat.mod_eq_of_lt hu, Nat.mod_eq_of_lt hv] at e1 e2
  unfold cmpB cmpN
  rw [← e1, ← e2]
  generalize (mulHi (BitVec.ofNat 64 x) (BitVec.ofNat 64 v)).toNat = a at *
  generalize (mulHi (BitVec.ofNat 64 u) (BitVec.ofNat 64 y)).toNat = b at *
  generalize (BitVec.ofNat 64 x * BitVec.ofNat 64 v).toNat = c at *
  generalize (BitVec.ofNat 64 u * BitVec.ofNat 64 y).toNat = d at *
  by_cases h : a < b
  · rw [if_pos h, if_neg (by omega), if_pos (by omega)]
  · rw [if_neg h]
    by_cases g : b < a
    · rw [if_pos g, if_neg (by omega), if_neg (by omega), if_pos (by omega)]
    · rw [if_neg g, if_pos rfl]
      obtain rfl : a = b := by omega
      by_cases h2 : c < d
      · rw [if_pos h2, if_pos (by omega)]
      · rw [if_neg h2]
        by_cases h3 : d < c
        · rw [if_pos h3, if_neg (by omega), if_pos (by omega)]
        · rw [if_neg h3, if_neg (by omega), if_neg (by omega)]
end Am
theorem word_of {f : Int} (h0 : 0 ≤ f) (h1 : f ≤ 2100000000000000) : IntKind.u64.wrap f = nb64 (BitVec.ofNat 64 f.toNat) := by
  rw [IntKind.wrap_u64]; simp only [nb64, BitVec.toNat_ofNat]; omega
set_option maxRecDepth 100000 in
set_option maxHeartbeats 2000000 in
theorem pcompare_no (f v g u : Int) (h : ¬ (Am.Right f v ∧ Am.Right g u)) (w : World) :
    Calls Try.prog 20 #[.agg #[.int .i64 f, .int .i64 v], .agg #[.int .i64 g, .int .i64 u]] w fun e w' => e = .returned (.int .i64 0) ∧ Below w.heap.size w w' := by
  obtain ⟨W2, hW2⟩ : ∃ x, x = (w.alloc (.cells #[.int .i64 f, .int .i64 v] 39)).alloc (.cells #[.int .i64 g, .int .i64 u] 39) := ⟨_, rfl⟩
  have hB2 : Below w.heap.size w W2 := by
    rw [hW2]
    exact ((Below.refl _ w).alloc (Nat.le_refl _) _).alloc (by simp) _
  have hh0 : Has W2 w.heap.size 39 #[.int .i64 f, .int .i64 v] := by rw [hW2]; exact (Has.fresh w _ _).past _
  have hh1 : Has W2 (w.heap.size + 1) 39 #[.int .i64 g, .int .i64 u] := by rw [hW2]; exact Has.fresh_at _ _ _ (by simp)
  have q0 : W2.cell? ⟨w.heap.size, 0, none⟩ = some (.int .i64 f) := hh0.cell_at rfl
  have q1 : W2.cell? ⟨w.heap.size, 1, none⟩ = some (.int .i64 v) := hh0.cell_at rfl
  have HW := Lib.hid hW2
  clear hW2
  by_cases h1 : Am.Right f v
  · have h2 : ¬ Am.Right g u := fun q => h ⟨h1, q⟩
    have H := Lib.hid (And.intro h1 h2)
    clear h h1 h2
    go_enter Try.func20, Try.ntmps20
    go_upto_region 1 with fail
    rw [← HW.out]
    go_wp2_with (first
      | (go_at_call 18; (with_reducible refine (pright_any g u false ⟨fun e => absurd e Bool.false_ne_true, fun e => absurd e H.out.2⟩ _).mono ?_); rintro e w4 ⟨rfl, hb4⟩)
      | (go_at_call 18; (with_reducible refine (pright_any f v true ⟨fun _ => H.out.1, fun _ => rfl⟩ _).mono ?_); rintro e w3 ⟨rfl, hb3⟩; have k0 : w3.cell? ⟨w.heap.size + 1, 0, none⟩ = some (.int .i64 g) := (hh1.under hb3 hh1.lt).cell_at rfl; have k1 : w3.cell? ⟨w.heap.size + 1, 1, none⟩ = some (.int .i64 u) := (hh1.under hb3 hh1.lt).cell_at rfl))
    go_ret
    exact ⟨rfl, hB2.trans ((hb3.trans (hb4.mono hb3.size)).mono hB2.size)⟩
  · have H := Lib.hid h1
    clear h h1
    go_enter Try.func20, Try.ntmps20
    go_upto_region 1 with fail
    rw [← HW.out]
    go_wp2_with (first
      | (go_at_call 18; (with_reducible refine (pright_any f v false ⟨fun e => absurd e Bool.false_ne_true, fun e => absurd e H.out⟩ _).mono ?_); rintro e w3 ⟨rfl, hb3⟩))
    go_ret
    exact ⟨rfl, hB2.trans (hb3.mono hB2.size)⟩
set_option maxRecDepth 100000 in
set_option maxHeartbeats 2000000 in
theorem pcompare_ok (f v g u : Int) (h : Am.Right f v ∧ Am.Right g u) (w : World) :
    Calls Try.prog 20 #[.agg #[.int .i64 f, .int .i64 v], .agg #[.int .i64 g, .int .i64 u]] w fun e w' => e = .returned (.int .i64 (Am.cmpN f.toNat v.toNat g.toNat u.toNat)) ∧ Below w.heap.size w w' := by
  obtain ⟨W2, hW2⟩ : ∃ x, x = (w.alloc (.cells #[.int .i64 f, .int .i64 v] 39)).alloc (.cells #[.int .i64 g, .int .i64 u] 39) := ⟨_, rfl⟩
  have hB2 : Below w.heap.size w W2 := by
    rw [hW2]
    exact ((Below.refl _ w).alloc (Nat.le_refl _) _).alloc (by simp) _
  have hh0 : Has W2 w.heap.size 39 #[.int .i64 f, .int .i64 v] := by rw [hW2]; exact (Has.fresh w _ _).past _
  have hh1 : Has W2 (w.heap.size + 1) 39 #[.int .i64 g, .int .i64 u] := by rw [hW2]; exact Has.fresh_at _ _ _ (by simp)
  have q0 : W2.cell? ⟨w.heap.size, 0, none⟩ = some (.int .i64 f) := hh0.cell_at rfl
  have q1 : W2.cell? ⟨w.heap.size, 1, none⟩ = some (.int .i64 v) := hh0.cell_at rfl
  have HW := Lib.hid hW2
  clear hW2
  have r1 := word_of h.1.1.1 h.1.1.2
  have r2 := word_of (show 0 ≤ v by have := h.1.2.1; omega) (show v ≤ 2100000000000000 by have := h.1.2.2; omega)
  have r3 := word_of h.2.1.1 h.2.1.2
  have r4 := word_of (show 0 ≤ u by have := h.2.2.1; omega) (show u ≤ 2100000000000000 by have := h.2.2.2; omega)
  have HC := Lib.hid (Am.cmp_words f.toNat v.toNat g.toNat u.toNat (by have := h.1.1.2; omega) (by have := h.1.2.2; omega) (by have := h.2.1.2; omega) (by have := h.2.2.2; omega))
  obtain ⟨xf, hxf⟩ : ∃ x, x = BitVec.ofNat 64 f.toNat := ⟨_, rfl⟩
  obtain ⟨xv, hxv⟩ : ∃ x, x = BitVec.ofNat 64 v.toNat := ⟨_, rfl⟩
  obtain ⟨xg, hxg⟩ : ∃ x, x = BitVec.ofNat 64 g.toNat := ⟨_, rfl⟩
  obtain ⟨xu, hxu⟩ : ∃ x, x = BitVec.ofNat 64 u.toNat := ⟨_, rfl⟩
  rw [← hxf] at r1 HC
  rw [← hxv] at r2 HC
  rw [← hxg] at r3 HC
  rw [← hxu] at r4 HC
  have H := Lib.hid h
  clear h hxf hxv hxg hxu
  go_enter Try.func20, Try.ntmps20
  go_upto_region 1 with fail
  rw [← HW.out]
  go_upto_region 3 with (first
    | (go_at_call 18; (with_reducible refine (pright_any g u true ⟨fun _ => H.out.2, fun _ => rfl⟩ _).mono ?_); rintro e w4 ⟨rfl, hb4⟩)
    | (go_at_call 18; (with_reducible refine (pright_any f v true ⟨fun _ => H.out.1, fun _ => rfl⟩ _).mono ?_); rintro e w3 ⟨rfl, hb3⟩; have k0 : w3.cell? ⟨w.heap.size + 1, 0, none⟩ = some (.int .i64 g) := (hh1.under hb3 hh1.lt).cell_at rfl; have k1 : w3.cell? ⟨w.heap.size + 1, 1, none⟩ = some (.int .i64 u) := (hh1.under hb3 hh1.lt).cell_at rfl))
  have hb24 := hb3.trans (hb4.mono hb3.size)
  have m0 : w4.cell? ⟨w.heap.size, 0, none⟩ = some (.int .i64 f) := (hh0.under hb24 hh0.lt).cell_at rfl
  have m1 : w4.cell? ⟨w.heap.size, 1, none⟩ = some (.int .i64 v) := (hh0.under hb24 hh0.lt).cell_at rfl
  have m2 : w4.cell? ⟨w.heap.size + 1, 0, none⟩ = some (.int .i64 g) := (hh1.under hb24 hh1.lt).cell_at rfl
  have m3 : w4.cell? ⟨w.heap.size + 1, 1, none⟩ = some (.int .i64 u) := (hh1.under hb24 hh1.lt).cell_at rfl
  go_upto_region 5 with (first
    | (go_at_call 26; (with_reducible refine (mul64_any xg xv _).mono ?_); rintro e wk ⟨rfl, rfl⟩)
    | (go_at_call 26; (with_reducible refine (mul64_any xf xu _).mono ?_); rintro e wk ⟨rfl, rfl⟩))
  obtain ⟨ca, hca⟩ : ∃ x, x = Am.cmpB (Am.mulHi xf xu) (Am.mulHi xg xv) := ⟨_, rfl⟩
  obtain ⟨cb, hcb⟩ : ∃ x, x = Am.cmpB (xf * xu) (xg * xv) := ⟨_, rfl⟩
  rw [← hca, ← hcb] at HC
  have HA := Lib.hid (And.intro hca hcb)
  clear hca hcb
  go_wp2_with (first
    | (go_at_call 27; (with_reducible refine (or_two ca cb w4.heap.size 2 _ (Has.fresh _ _ _)).mono ?_); rw [HC.out]; rintro e wk ⟨rfl, rfl⟩)
    | (go_at_call 28; (with_reducible refine (cmp_any (xf * xu) (xg * xv) _).mono ?_); rw [← HA.out.2]; rintro e wk ⟨rfl, rfl⟩)
    | (go_at_call 28; (with_reducible refine (cmp_any (Am.mulHi xf xu) (Am.mulHi xg xv) _).mono ?_); rw [← HA.out.1]; rintro e wk ⟨rfl, rfl⟩))
  go_ret
  exact ⟨rfl, hB2.trans ((hb24.alloc hb24.size _).mono hB2.size)⟩
end Go.Proofs.Ytcbbjhcejlmmlaa
