/- the product of two words in two words: math/bits.Mul64; cmp.Compare, cmp.Or · package coins: the library's sort of points by a function, its copy of a map, laid (mklay.py) · package coins: the order of points; compare (mkctn.py) -/
import Derived.Test.YtagjolbpmhbifaaGreatDoorLz
import Derived.Test.YtagjolbpmhbifaaGreatDoorAmz
import Derived.Test.YtagjolbpmhbifaaGreatDoorRows
import Derived.Lib.Hide
import Derived.IntWalk
import Derived.OpenShut
import Derived.ProofKit
import Derived.Test.YtagjolbpmhbifaaGreatDoorCta
import Derived.Shelf.SlSortCmp.WholeK
import Derived.Shelf.SlMaps.Clone
import Derived.Test.YtagjolbpmhbifaaGreatDoorCtC
import Derived.Test.YtagjolbpmhbifaaGreatDoorDgw
/-! the product of two words in two words: math/bits.Mul64; cmp.Compare, cmp.Or -/
namespace Go.Proofs.YtagjolbpmhbifaaGreatDoor
open Go Go.RowKit Go.ChangeShapes Go.WideShapes
namespace Am
/-- the upper word, as math/bits makes it -/
def mulHi (x y : BitVec 64) : BitVec 64 :=
  let w0 := (x &&& 4294967295#64) * (y &&& 4294967295#64)
  let t := (x >>> 32) * (y &&& 4294967295#64) + (w0 >>> 32)
  let w1 := (t &&& 4294967295#64) + (x &&& 4294967295#64) * (y >>> 32)
  (x >>> 32) * (y >>> 32) + (t >>> 32) + (w1 >>> 32)
theorem low_toNat (x : BitVec 64) : (x &&& 4294967295#64).toNat = x.toNat % 4294967296 := by
  rw [BitVec.toNat_and]
  exact Nat.and_two_pow_sub_one_eq_mod x.toNat 32
theorem high_toNat (x : BitVec 64) : (x >>> 32).toNat = x.toNat / 4294967296 := by
  rw [BitVec.toNat_ushiftRight, Nat.shiftRight_eq_div_pow]
theorem mul_part {a b : Nat} (ha : a < 4294967296) (hb : b < 4294967296) : a * b ≤ 18446744065119617025 := by
  have := Nat.mul_le_mul (show a ≤ 4294967295 by omega) (show b ≤ 4294967295 by omega)
  omega
theorem mul64 (x y : BitVec 64) : (mulHi x y).toNat * 18446744073709551616 + (x * y).toNat = x.toNat * y.toNat := by
  have hx := x.isLt
  have hy := y.isLt
  obtain ⟨a, ha⟩ : ∃ a, a = x.toNat / 4294967296 := ⟨_, rfl⟩
  obtain ⟨b, hb⟩ : ∃ b, b = x.toNat % 4294967296 := ⟨_, rfl⟩
  obtain ⟨c, hc⟩ : ∃ c, c = y.toNat / 4294967296 := ⟨_, rfl⟩
  obtain ⟨d, hd⟩ : ∃ d, d = y.toNat % 4294967296 := ⟨_, rfl⟩
  have la : a < 4294967296 := by omega
  have lb : b < 4294967296 := by omega
  have lc : c < 4294967296 := by omega
  have ld : d < 4294967296 := by omega
  have bd := mul_part lb ld
  have ad := mul_part la ld
  have bc := mul_part lb lc
  have ac := mul_part la lc
  have hxy : x.toNat * y.toNat = a * c * 18446744073709551616 + (a * d + b * c) * 4294967296 + b * d := by
    have e1 : x.toNat = a * 4294967296 + b := by omega
    have e2 : y.toNat = c * 4294967296 + d := by omega
    rw [e1, e2]
    have := Nat.mul_comm
    simp only [Nat.add_mul, Nat.mul_add]
    have f1 : a * 4294967296 * (c * 4294967296) = a * c * 18446744073709551616 := by
      rw [Nat.mul_mul_mul_comm]
    have f2 : a * 4294967296 * d = a * d * 4294967296 := Nat.mul_right_comm _ _ _
    have f3 : b * (c * 4294967296) = b * c * 4294967296 := (Nat.mul_assoc _ _ _).symm
    omega
  have hm : (mulHi x y).toNat = (a * c + ((a * d + b * d / 4294967296) / 4294967296) + (((a * d + b * d / 4294967296) % 4294967296 + b * c) / 4294967296)) := by
    unfold mulHi
    simp only [BitVec.toNat_add, BitVec.toNat_mul, high_toNat, low_toNat]
    rw [← ha, ← hb, ← hc, ← hd]
    generalize b * d = p at *
    generalize a * d = q at *
    generalize b * c = r at *
    generalize a * c = s at *
    omega
  rw [hm, BitVec.toNat_mul, hxy]
  generalize b * d = p at *
  generalize a * d = q at *
  generalize b * c = r at *
  generalize a * c = s at *
  omega
end Am
section
variable (t : TypeId)
@[go_sem high] theorem u64_mul_v (x y : BitVec 64) : binOp .mul t (.int .u64 (nb64 x)) (.int .u64 (nb64 y)) = pure (.int .u64 (nb64 (x * y))) := by
  rw [binOp_mul]; show pure (Value.int .u64 (IntKind.u64.wrap (nb64 x * nb64 y))) = _
  congr 2
end
/-- how two words compare -/
def Am.cmpB (x y : BitVec 64) : Int := if x.toNat < y.toNat then -1 else if y.toNat < x.toNat then 1 else 0
set_option maxRecDepth 100000 in
set_option maxHeartbeats 2000000 in
/-- cmp.Or of two numbers that lie in a block of their own -/
theorem or_two (a b : Int) (g : Nat) (c : Nat) (w : World) (hH : Has w g 3 #[.int .i64 a, .int .i64 b]) :
    Calls Tryz.prog 72 #[.slice (some ⟨g, 0, none⟩) 2 c] w fun e w' => e = .returned (.int .i64 (if a = 0 then b else a)) ∧ w = w' := by
  have c0 : w.cell? ⟨g, 0, none⟩ = some (.int .i64 a) := hH.cell_at rfl
  have c1 : w.cell? ⟨g, 1, none⟩ = some (.int .i64 b) := hH.cell_at rfl
  go_enter Tryz.func72, Tryz.ntmps72
  go_wp2
  go_loop [8] (fun iv => ∃ i : Nat, i ≤ 2 ∧ iv = .int .i64 i ∧ Hid (0 < i → a = 0) ∧ Hid (1 < i → b = 0)) (fun iv => 2 - (intOf iv).toNat)
  case atStart => exact ⟨0, by omega, rfl, Lib.hid (fun e => absurd e (by omega)), Lib.hid (fun e => absurd e (by omega))⟩
  case round =>
    obtain ⟨i, hi, rfl, HA, HB⟩ := hrel
    by_cases h0 : i = 0
    · subst h0
      by_cases ha : a = 0
      · have hb : (a != 0) = false := by simp [ha]
        have HC := Lib.hid ha
        clear ha
        go_wp2
        go_round
        case rel => exact ⟨1, by omega, by go_num, Lib.hid (fun _ => HC.out), Lib.hid (fun e => absurd e (by omega))⟩
        case measure => (simp [intOf]; try omega)
      · have hb : (a != 0) = true := by simp [ha]
        have HC := Lib.hid ha
        clear ha
        go_wp2
        go_ret
        exact ⟨rfl, rfl⟩
    · by_cases h1 : i = 1
      · subst h1
        have HC := Lib.hid (HA.out (by omega))
        by_cases ha : b = 0
        · have hb : (b != 0) = false := by simp [ha]
          have HD := Lib.hid ha
          clear ha
          go_wp2
          go_round
          case rel => exact ⟨2, by omega, by go_num, Lib.hid (fun _ => HC.out), Lib.hid (fun _ => HD.out)⟩
          case measure => (simp [intOf]; try omega)
        · have hb : (b != 0) = true := by simp [ha]
          have HD := Lib.hid ha
          clear ha
          go_wp2
          go_ret
          exact ⟨rfl, rfl⟩
      · have hii : ¬ (i : Int) < 2 := by omega
        have HC := Lib.hid (And.intro (HA.out (by omega)) (HB.out (by omega)))
        obtain rfl : a = 0 := HC.out.1
        go_wp2
        go_ret
        exact ⟨by rw [HC.out.2]; rfl, rfl⟩
namespace Am
/-- the products of four numbers, compared by their words -/
theorem cmp_words (x y u v : Nat) (hx : x < 18446744073709551616) (hy : y < 18446744073709551616) (hu : u < 18446744073709551616) (hv : v < 18446744073709551616) :
    (if cmpB (mulHi (BitVec.ofNat 64 x) (BitVec.ofNat 64 v)) (mulHi (BitVec.ofNat 64 u) (BitVec.ofNat 64 y)) = 0 then cmpB (BitVec.ofNat 64 x * BitVec.ofNat 64 v) (BitVec.ofNat 64 u * BitVec.ofNat 64 y)
      else cmpB (mulHi (BitVec.ofNat 64 x) (BitVec.ofNat 64 v)) (mulHi (BitVec.ofNat 64 u) (BitVec.ofNat 64 y))) = cmpN x y u v := by
  have e1 := mul64 (BitVec.ofNat 64 x) (BitVec.ofNat 64 v)
  have e2 := mul64 (BitVec.ofNat 64 u) (BitVec.ofNat 64 y)
  have l1 := (BitVec.ofNat 64 x * BitVec.ofNat 64 v).isLt
  have l2 := (BitVec.ofNat 64 u * BitVec.ofNat 64 y).isLt
  simp only [BitVec.toNat_ofNat, Nat.reducePow, Nat.mod_eq_of_lt hx, Nat.mod_eq_of_lt hy, Nat.mod_eq_of_lt hu, Nat.mod_eq_of_lt hv] at e1 e2
  unfold cmpB cmpN
  rw [← e1, ← e2]
  generalize (mulHi (BitVec.ofNat 64 x) (BitVec.ofNat 64 v)).toNat = a at *
  generalize (mulHi (BitVec.ofNat 64 u) (BitVec.ofNat 64 y)).toNat = b at *
  generalize (BitVec.ofNat 64 x * BitVec.ofNat 64 v).toNat = c at *
  generalize (BitVec.ofNat 64 u * BitVec.ofNat 64 y).toNat = d at *
  by_cases h : a < b
  · rw [if_pos h, if_neg (by omega), if_pos (by omega)]
  · rw [if_neg h]
    by_cases g : b < a
    · rw [if_pos g, if_neg (by omega), if_neg (by omega), if_pos (by omega)]
    · rw [if_neg g, if_pos rfl]
      obtain rfl : a = b := by omega
      by_cases h2 : c < d
      · rw [if_pos h2, if_pos (by omega)]
      · rw [if_neg h2]
        by_cases h3 : d < c
        · rw [if_pos h3, if_neg (by omega), if_pos (by omega)]
        · rw [if_neg h3, if_neg (by omega), if_neg (by omega)]
end Am
theorem word_of {f : Int} (h0 : 0 ≤ f) (h1 : f ≤ 2100000000000000) : IntKind.u64.wrap f = nb64 (BitVec.ofNat 64 f.toNat) := by
  rw [IntKind.wrap_u64]; simp only [nb64, BitVec.toNat_ofNat]; omega
end Go.Proofs.YtagjolbpmhbifaaGreatDoor

/-! package coins: the library's sort of points by a function, its copy of a map, laid (mklay.py) -/
namespace Go.Proofs.YtagjolbpmhbifaaGreatDoor
open Go Go.RowKit
def sortPt_ren : Go.Shelf.Ren := ⟨fun | 6 => 70 | 15 => 94 | 14 => 93 | 28 => 117 | 29 => 118 | 20 => 109 | 21 => 110 | 22 => 111 | 23 => 112 | 24 => 113 | 25 => 114 | 26 => 115 | 27 => 116 | 46 => 135 | 47 => 136 | 48 => 137 | 49 => 138 | 50 => 139 | 57 => 143 | n => n, fun | 22 => 54 | 24 => 32 | 25 => 99 | 3 => 3 | 39 => 141 | 0 => 0 | 53 => 143 | 55 => 33 | 4 => 4 | 46 => 173 | 45 => 172 | 50 => 177 | 5 => 5 | 9 => 9 | 66 => 194 | 70 => 198 | 76 => 201 | 77 => 102 | n => n, fun | n => n⟩
theorem sortPt : Go.Proofs.SlLaysF0.n6 Tryz.prog sortPt_ren where
  mixed := by kernel_rfl
  f6 := ⟨ "slices.SortFunc[[]gossamer/api.Point,gossamer/api.Point]", by decide, Tryz.func70.trans (congrArg some (by kernel_rfl))⟩
  f14 := ⟨ "slices.pdqsortCmpFunc[gossamer/api.Point]", by decide, Tryz.func93.trans (congrArg some (by kernel_rfl))⟩
  f15 := Tryz.func94.trans (congrArg some (by kernel_rfl))
  f20 := ⟨ "slices.insertionSortCmpFunc[gossamer/api.Point]", by decide, Tryz.func109.trans (congrArg some (by kernel_rfl))⟩
  f21 := ⟨ "slices.heapSortCmpFunc[gossamer/api.Point]", by decide, Tryz.func110.trans (congrArg some (by kernel_rfl))⟩
  f22 := ⟨ "slices.breakPatternsCmpFunc[gossamer/api.Point]", by decide, Tryz.func111.trans (congrArg some (by kernel_rfl))⟩
  f23 := ⟨ "slices.choosePivotCmpFunc[gossamer/api.Point]", by decide, Tryz.func112.trans (congrArg some (by kernel_rfl))⟩
  f24 := ⟨ "slices.reverseRangeCmpFunc[gossamer/api.Point]", by decide, Tryz.func113.trans (congrArg some (by kernel_rfl))⟩
  f25 := ⟨ "slices.partialInsertionSortCmpFunc[gossamer/api.Point]", by decide, Tryz.func114.trans (congrArg some (by kernel_rfl))⟩
  f26 := ⟨ "slices.partitionEqualCmpFunc[gossamer/api.Point]", by decide, Tryz.func115.trans (congrArg some (by kernel_rfl))⟩
  f27 := ⟨ "slices.partitionCmpFunc[gossamer/api.Point]", by decide, Tryz.func116.trans (congrArg some (by kernel_rfl))⟩
  f28 := Tryz.func117.trans (congrArg some (by kernel_rfl))
  f29 := Tryz.func118.trans (congrArg some (by kernel_rfl))
  f46 := ⟨ "slices.siftDownCmpFunc[gossamer/api.Point]", by decide, Tryz.func135.trans (congrArg some (by kernel_rfl))⟩
  f47 := Tryz.func136.trans (congrArg some (by kernel_rfl))
  f48 := Tryz.func137.trans (congrArg some (by kernel_rfl))
  f49 := ⟨ "slices.medianAdjacentCmpFunc[gossamer/api.Point]", by decide, Tryz.func138.trans (congrArg some (by kernel_rfl))⟩
  f50 := ⟨ "slices.medianCmpFunc[gossamer/api.Point]", by decide, Tryz.func139.trans (congrArg some (by kernel_rfl))⟩
  f57 := ⟨ "slices.order2CmpFunc[gossamer/api.Point]", by decide, Tryz.func143.trans (congrArg some (by kernel_rfl))⟩
  t0 := Tryz.underlying0
  a0 := Tryz.isAgg0
  z0 := Tryz.sizeOf0
  v0 := Tryz.zeroValue0
  t3 := Tryz.underlying3
  a3 := Tryz.isAgg3
  z3 := Tryz.sizeOf3
  v3 := Tryz.zeroValue3
  t4 := Tryz.underlying4
  a4 := Tryz.isAgg4
  z4 := Tryz.sizeOf4
  v4 := Tryz.zeroValue4
  t5 := Tryz.underlying5
  a5 := Tryz.isAgg5
  z5 := Tryz.sizeOf5
  v5 := Tryz.zeroValue5
  t9 := Tryz.underlying9
  a9 := Tryz.isAgg9
  z9 := Tryz.sizeOf9
  v9 := Tryz.zeroValue9
  t22 := Tryz.underlying54
  a22 := Tryz.isAgg54
  z22 := Tryz.sizeOf54
  v22 := Tryz.zeroValue54
  t25 := Tryz.underlying99
  a25 := Tryz.isAgg99
  z25 := Tryz.sizeOf99
  v25 := Tryz.zeroValue99
  t39 := Tryz.underlying141
  a39 := Tryz.isAgg141
  z39 := Tryz.sizeOf141
  v39 := Tryz.zeroValue141
  t45 := Tryz.underlying172
  a45 := Tryz.isAgg172
  z45 := Tryz.sizeOf172
  v45 := Tryz.zeroValue172
  t46 := Tryz.underlying173
  a46 := Tryz.isAgg173
  z46 := Tryz.sizeOf173
  v46 := Tryz.zeroValue173
  t50 := Tryz.underlying177
  a50 := Tryz.isAgg177
  z50 := Tryz.sizeOf177
  v50 := Tryz.zeroValue177
  t53 := Tryz.underlying143
  a53 := Tryz.isAgg143
  z53 := Tryz.sizeOf143
  v53 := Tryz.zeroValue143
  t55 := Tryz.underlying33
  a55 := Tryz.isAgg33
  z55 := Tryz.sizeOf33
  v55 := Tryz.zeroValue33
  t66 := Tryz.underlying194
  a66 := Tryz.isAgg194
  z66 := Tryz.sizeOf194
  v66 := Tryz.zeroValue194
  t70 := Tryz.underlying198
  a70 := Tryz.isAgg198
  z70 := Tryz.sizeOf198
  v70 := Tryz.zeroValue198
  t76 := Tryz.underlying201
  a76 := Tryz.isAgg201
  z76 := Tryz.sizeOf201
  v76 := Tryz.zeroValue201
  t77 := Tryz.underlying102
  a77 := Tryz.isAgg102
  z77 := Tryz.sizeOf102
  v77 := Tryz.zeroValue102
def mapsClone_ren : Go.Shelf.Ren := ⟨fun | 5 => 31 | 7 => 62 | n => n, fun | 23 => 76 | 25 => 32 | 3 => 35 | 4 => 4 | 20 => 20 | n => n, fun | n => n⟩
theorem mapsClone : Go.Proofs.SlLaysW.n5 Tryz.prog mapsClone_ren where
  mixed := by kernel_rfl
  f5 := ⟨ "maps.Clone[map[gossamer/api.Point]gossamer/api.Coin,gossamer/api.Point,gossamer/api.Coin]", by decide, Tryz.func31.trans (congrArg some (by kernel_rfl))⟩
  f7 := Tryz.func62.trans (congrArg some (by kernel_rfl))
  t4 := Tryz.underlying4
  a4 := Tryz.isAgg4
  z4 := Tryz.sizeOf4
  v4 := Tryz.zeroValue4
  t20 := Tryz.underlying20
  a20 := Tryz.isAgg20
  z20 := Tryz.sizeOf20
  v20 := Tryz.zeroValue20
  t23 := Tryz.underlying76
  a23 := Tryz.isAgg76
  z23 := Tryz.sizeOf76
  v23 := Tryz.zeroValue76
end Go.Proofs.YtagjolbpmhbifaaGreatDoor

/-! package coins: the order of points; compare (mkctn.py) -/
namespace Go.Proofs.YtagjolbpmhbifaaGreatDoor
open Go Go.RowKit Go.ChangeShapes Go.WideShapes
open Go.Sort (grow grow_empty alloc_eq_grow SWO)
namespace Cs
theorem cmp_same : ∀ a : List (BitVec 8), Dg.cmp a a = 0
  | [] => rfl
  | x :: a => by unfold Dg.cmp; rw [if_pos rfl]; exact cmp_same a
theorem cmp_eq : ∀ {a b : List (BitVec 8)}, a.length = b.length → Dg.cmp a b = 0 → a = b
  | [], [], _, _ => rfl
  | x :: a, y :: b, hl, h => by
    unfold Dg.cmp at h
    by_cases e : x = y
    · rw [if_pos e] at h
      rw [e, cmp_eq (by simpa using hl) h]
    · rw [if_neg e] at h
      split at h <;> cases h
theorem cmp_neg : ∀ {a b : List (BitVec 8)}, Dg.cmp a b < 0 ↔ Dg.cmp a b = -1
  | [], _ => by simp [Dg.cmp]
  | _ :: _, [] => by simp [Dg.cmp]
  | x :: a, y :: b => by
    unfold Dg.cmp
    by_cases e : x = y
    · rw [if_pos e]; exact cmp_neg
    · rw [if_neg e]
      split <;> simp
theorem cmp_lt_trans : ∀ {a b c : List (BitVec 8)}, Dg.cmp a b = -1 → Dg.cmp b c = -1 → Dg.cmp a c = -1
  | [], _, _, h, _ => by simp [Dg.cmp] at h
  | _ :: _, [], _, h, _ => by simp [Dg.cmp] at h
  | _ :: _, _ :: _, [], _, h => by simp [Dg.cmp] at h
  | x :: a, y :: b, z :: c, h1, h2 => by
    unfold Dg.cmp at h1 h2 ⊢
    by_cases e1 : x = y
    · subst e1
      rw [if_pos rfl] at h1
      by_cases e2 : x = z
      · rw [if_pos e2] at h2 ⊢
        exact cmp_lt_trans h1 h2
      · rw [if_neg e2] at h2 ⊢
        exact h2
    · rw [if_neg e1] at h1
      have l1 : x < y := by
        by_cases h : x < y
        · exact h
        · rw [if_neg h] at h1; cases h1
      by_cases e2 : y = z
      · subst e2
        rw [if_neg e1, if_pos l1]
      · rw [if_neg e2] at h2
        have l2 : y < z := by
          by_cases h : y < z
          · exact h
          · rw [if_neg h] at h2; cases h2
        have l3 : x < z := by rw [BitVec.lt_def] at l1 l2 ⊢; omega
        have e3 : ¬ x = z := fun e => by subst e; rw [BitVec.lt_def] at l3; omega
        rw [if_neg e3, if_pos l3]
def cmpI (x y : Int) : Int := if x < y then -1 else if y < x then 1 else 0
def cmpPt (p q : Pt) : Int := if Dg.cmp p.1 q.1 = 0 then cmpI p.2 q.2 else Dg.cmp p.1 q.1
theorem cmpPt_lt {p q : Pt} (hp : p.1.length = 32) (hq : q.1.length = 32) : cmpPt p q < 0 ↔ Ahead p q := by
  unfold cmpPt Ahead
  by_cases h : Dg.cmp p.1 q.1 = 0
  · rw [if_pos h]
    have e := cmp_eq (by rw [hp, hq]) h
    unfold cmpI
    constructor
    · intro h1
      refine .inr ⟨e, ?_⟩
      split at h1
      · assumption
      · split at h1 <;> omega
    · rintro (h1 | ⟨_, h1⟩)
      · rw [h] at h1; cases h1
      · rw [if_pos h1]; decide
  · rw [if_neg h, cmp_neg]
    constructor
    · exact .inl
    · rintro (h1 | ⟨h1, _⟩)
      · exact h1
      · exact absurd (by rw [h1]; exact cmp_same _) h
theorem ahead_trans {p q r : Pt} (h1 : Ahead p q) (h2 : Ahead q r) : Ahead p r := by
  rcases h1 with h1 | ⟨e1, h1⟩ <;> rcases h2 with h2 | ⟨e2, h2⟩
  · exact .inl (cmp_lt_trans h1 h2)
  · exact .inl (e2 ▸ h1)
  · exact .inl (e1 ▸ h2)
  · exact .inr ⟨e1.trans e2, by omega⟩
theorem ahead_irrefl (p : Pt) : ¬ Ahead p p := by
  rintro (h | ⟨_, h⟩)
  · rw [cmp_same] at h; cases h
  · omega
theorem ahead_total {p q : Pt} (hp : p.1.length = 32) (hq : q.1.length = 32) : Ahead p q ∨ p = q ∨ Ahead q p := by
  unfold Ahead
  by_cases h : Dg.cmp p.1 q.1 = 0
  · have e := cmp_eq (by rw [hp, hq]) h
    rcases Int.lt_trichotomy p.2 q.2 with h1 | h1 | h1
    · exact .inl (.inr ⟨e, h1⟩)
    · exact .inr (.inl (by cases p; cases q; simp_all))
    · exact .inr (.inr (.inr ⟨e.symm, h1⟩))
  · by_cases h1 : Dg.cmp p.1 q.1 < 0
    · exact .inl (.inl (cmp_neg.1 h1))
    · refine .inr (.inr (.inl (cmp_neg.1 ?_)))
      rw [Dg.cmp_swap]
      omega
/-- a point whose digest has its 32 bytes -/
def P32 := { p : Pt // p.1.length = 32 }
def z32P : P32 := ⟨(List.replicate 32 0#8, 0), by rw [List.length_replicate]⟩
instance : Inhabited P32 := ⟨z32P⟩
def cf32 (x y : P32) : Int := cmpPt x.1 y.1
theorem lt32 (x y : P32) : ltOf cf32 x y = true ↔ Ahead x.1 y.1 := by
  unfold ltOf cf32
  rw [decide_eq_true_eq]
  exact cmpPt_lt x.2 y.2
theorem lt32f (x y : P32) : ltOf cf32 x y = false ↔ ¬ Ahead x.1 y.1 := by
  rw [← lt32, Bool.not_eq_true]
theorem swo32 : SWO (ltOf cf32) where
  irrefl x := (lt32f x x).2 (ahead_irrefl _)
  trans x y z h1 h2 := (lt32 x z).2 (ahead_trans ((lt32 x y).1 h1) ((lt32 y z).1 h2))
  ntrans x y z h1 h2 := (lt32f x z).2 fun h => by
    have n1 := (lt32f x y).1 h1
    have n2 := (lt32f y z).1 h2
    rcases ahead_total x.2 y.2 with h3 | h3 | h3
    · exact n1 h3
    · exact n2 (h3 ▸ h)
    · exact n2 (ahead_trans h3 h)
def enc32 (x : P32) : List Value := ptCells x.1.1 x.1.2
end Cs
/-- a world that has grown: some draws, some new blocks -/
def Gr (W W' : World) : Prop := ∃ n os, W' = grow (W.drewN n) os
theorem Gr.refl (W : World) : Gr W W := ⟨0, #[], by rw [grow_empty]; rfl⟩
theorem Gr.trans {A B C : World} (h : Gr A B) (k : Gr B C) : Gr A C := by
  obtain ⟨n, os, rfl⟩ := h
  obtain ⟨m, os', rfl⟩ := k
  exact ⟨n + m, os ++ os', by simp [grow, World.drewN, Array.append_assoc, Nat.add_assoc]⟩
theorem Gr.alloc (W : World) (o : Obj) : Gr W (W.alloc o) := ⟨0, #[o], by rw [alloc_eq_grow]; rfl⟩
theorem Gr.drew (W : World) : Gr W W.drew := ⟨1, #[], by rw [grow_empty]; rfl⟩
theorem Gr.below {W W' : World} (h : Gr W W') : Below W.heap.size W W' := by
  obtain ⟨n, os, rfl⟩ := h
  exact ⟨rfl, rfl, rfl, by simp [grow, World.drewN], fun k hk => by
    show (W.heap ++ os)[k]? = W.heap[k]?
    rw [Array.getElem?_append_left hk]⟩
set_option maxRecDepth 100000 in
set_option maxHeartbeats 4000000 in
theorem dcompare_gr (a b : List (BitVec 8)) (w : World) (ha : a.length = 32) (hb : b.length = 32) :
    Calls Tryz.prog 73 #[.agg (blist a).toArray, .agg (blist b).toArray] w fun e w' => e = .returned (.int .i64 (Dg.cmp a b)) ∧ Gr w w' := by
  have HL := Lib.hid (And.intro ha hb)
  clear ha hb
  go_enter Tryz.func73, Tryz.ntmps73
  go_upto_region 1 with fail
  have hG : Has ((w.alloc (.cells (blist a).toArray 30 )).alloc (.cells (blist b).toArray 30 )) w.heap.size 30 (blist a).toArray := (Has.fresh _ _ _).past _
  have hH : Has ((w.alloc (.cells (blist a).toArray 30 )).alloc (.cells (blist b).toArray 30 )) (w.heap.size + 1) 30 (blist b).toArray := Has.fresh_at _ _ _ (by simp)
  have hB : Gr w ((w.alloc (.cells (blist a).toArray 30 )).alloc (.cells (blist b).toArray 30 )) := (Gr.alloc _ _).trans (Gr.alloc _ _)
  generalize ((w.alloc (.cells (blist a).toArray 30 )).alloc (.cells (blist b).toArray 30 )) = w0 at hG hH hB ⊢
  have hP : Bytes8 w0.drew (some ⟨w.heap.size, 0, none⟩) 32 a := bytes_has32 hG.draw HL.out.1
  have hQ : Bytes8 w0.drew (some ⟨w.heap.size + 1, 0, none⟩) 32 b := bytes_has32 hH.draw HL.out.2
  have HP := Lib.hid (And.intro hP hQ)
  clear hP hQ
  refine still_all_drew8 rfl (by kernel_rfl) ?_
  repeat still_step
  still_call ((bcompare_any _ _ 32 32 32 32 a b _ HP.out.1 HP.out.2 (by rw [HL.out.1, HL.out.2])).mono fun e w' h => ⟨h.1, h.2.symm⟩)
  repeat still_step
  refine wpStill_nil ?_
  go_wp2
  go_ret
  exact ⟨rfl, hB.trans (Gr.drew _)⟩
set_option maxHeartbeats 2000000 in
theorem nani_no (x : Int) (w : World) : Calls Tryz.prog 96 #[.int .i64 x] w fun e w' => e = .returned (.bool false) ∧ w = w' := by
  go_enter Tryz.func96, Tryz.ntmps96
  go_wp2
  go_ret
  exact ⟨by simp, rfl⟩
set_option maxHeartbeats 2000000 in
theorem cmpi_any (x y : Int) (w : World) : Calls Tryz.prog 74 #[.int .i64 x, .int .i64 y] w fun e w' => e = .returned (.int .i64 (Cs.cmpI x y)) ∧ w = w' := by
  obtain ⟨r, hr⟩ : ∃ r, r = Cs.cmpI x y := ⟨_, rfl⟩
  rw [← hr]
  rcases Int.lt_trichotomy x y with h | h | h
  · have HE := Lib.hid (show r = -1 by rw [hr, Cs.cmpI, if_pos h])
    clear hr
    go_enter Tryz.func74, Tryz.ntmps74
    go_wp2_with (first
      | (go_at_call 96; (with_reducible refine (nani_no y _).mono ?_); rintro e wk ⟨rfl, rfl⟩)
      | (go_at_call 96; (with_reducible refine (nani_no x _).mono ?_); rintro e wk ⟨rfl, rfl⟩))
    go_ret
    exact ⟨by rw [HE.out]; rfl, rfl⟩
  · have HE := Lib.hid (show r = 0 by rw [hr, Cs.cmpI, if_neg (by omega), if_neg (by omega)])
    have h1 : ¬ x < y := by omega
    have h2 : ¬ y < x := by omega
    clear hr
    go_enter Tryz.func74, Tryz.ntmps74
    go_wp2_with (first
      | (go_at_call 96; (with_reducible refine (nani_no y _).mono ?_); rintro e wk ⟨rfl, rfl⟩)
      | (go_at_call 96; (with_reducible refine (nani_no x _).mono ?_); rintro e wk ⟨rfl, rfl⟩))
    go_ret
    exact ⟨by rw [HE.out]; rfl, rfl⟩
  · have HE := Lib.hid (show r = 1 by rw [hr, Cs.cmpI, if_neg (by omega), if_pos h])
    have h1 : ¬ x < y := by omega
    clear hr
    go_enter Tryz.func74, Tryz.ntmps74
    go_wp2_with (first
      | (go_at_call 96; (with_reducible refine (nani_no y _).mono ?_); rintro e wk ⟨rfl, rfl⟩)
      | (go_at_call 96; (with_reducible refine (nani_no x _).mono ?_); rintro e wk ⟨rfl, rfl⟩))
    go_ret
    exact ⟨by rw [HE.out]; rfl, rfl⟩
theorem pt_hash {l : List (BitVec 8)} {z : Int} (j : Nat) (v : Value) (h : (blist l)[j]? = some v) : (ptCells l z).toArray[0 + j]? = some v := by
  rw [List.getElem?_toArray, Nat.zero_add]
  unfold ptCells
  rw [List.getElem?_append_left (List.getElem?_eq_some_iff.1 h).1]
  exact h
set_option maxRecDepth 100000 in
set_option maxHeartbeats 8000000 in
theorem pcompare_any (p q : Cs.Pt) (hp : p.1.length = 32) (hq : q.1.length = 32) (w : World) :
    Calls Tryz.prog 45 #[.agg (ptCells p.1 p.2).toArray, .agg (ptCells q.1 q.2).toArray] w fun e w' => e = .returned (.int .i64 (Cs.cmpPt p q)) ∧ Gr w w' := by
  obtain ⟨W1, hW1⟩ : ∃ ww, ww = (w.alloc (.cells (ptCells p.1 p.2).toArray 32 )).alloc (.cells (ptCells q.1 q.2).toArray 32 ) := ⟨_, rfl⟩
  have hG1 : Gr w W1 := by rw [hW1]; exact (Gr.alloc _ _).trans (Gr.alloc _ _)
  obtain ⟨g1, hg1⟩ : ∃ x, x = w.heap.size := ⟨_, rfl⟩
  have hP1 : Has W1 g1 32 (ptCells p.1 p.2).toArray := by rw [hW1, hg1]; exact (Has.fresh _ _ _).past _
  have hQ1 : Has W1 (g1 + 1) 32 (ptCells q.1 q.2).toArray := by rw [hW1, hg1]; exact Has.fresh_at _ _ _ (by simp)
  obtain ⟨d, hd⟩ : ∃ d, d = Dg.cmp p.1 q.1 := ⟨_, rfl⟩
  obtain ⟨ci, hci⟩ : ∃ c, c = Cs.cmpI p.2 q.2 := ⟨_, rfl⟩
  have hr : Cs.cmpPt p q = if d = 0 then ci else d := by rw [hd, hci]; rfl
  rw [hr]
  have HP := Lib.hid (And.intro hp hq)
  have HD := Lib.hid hd
  have HI := Lib.hid hci
  have HW1 := Lib.hid hW1
  have HG1 := Lib.hid hg1
  clear hW1 hd hci hr hp hq hg1
  go_enter Tryz.func45, Tryz.ntmps45
  go_upto_region 1 with fail
  rw [← HW1.out, ← HG1.out]
  obtain ⟨ws, hws⟩ : ∃ ww, ww = W1.drew := ⟨_, rfl⟩
  have hGs : Gr w ws := by rw [hws]; exact hG1.trans (Gr.drew _)
  have hPs : Has ws g1 32 (ptCells p.1 p.2).toArray := by rw [hws]; exact hP1.draw
  have hQs : Has ws (g1 + 1) 32 (ptCells q.1 q.2).toArray := by rw [hws]; exact hQ1.draw
  have lP := fun (wq : World) (hSw : Held ws wq) => has_mid (t := 30 ) (hPs.under hSw.below hPs.lt) 0 (blist p.1) pt_hash Tryz.underlying30 rfl (by rw [blist_length, HP.out.1]; kernel_rfl)
  have lQ := fun (wq : World) (hSw : Held ws wq) => has_mid (t := 30 ) (hQs.under hSw.below hQs.lt) 0 (blist q.1) pt_hash Tryz.underlying30 rfl (by rw [blist_length, HP.out.2]; kernel_rfl)
  have lPn := fun (wq : World) (hSw : Held ws wq) => (show wq.cell? ⟨g1, 32, none⟩ = some (.int .i64 p.2) from (hPs.under hSw.below hPs.lt).cell_at (ptCells_last HP.out.1))
  have lQn := fun (wq : World) (hSw : Held ws wq) => (show wq.cell? ⟨g1 + 1, 32, none⟩ = some (.int .i64 q.2) from (hQs.under hSw.below hQs.lt).cell_at (ptCells_last HP.out.2))
  refine wp_region_held_drew (S := Held ws) (by kernel_rfl) (by rw [hws]; exact Held.refl _) (fun hHeld => ?_)
  rw [← hws] at hHeld ⊢
  clear hws
  refine take_at (v := ?_) 0 5 rfl rfl (by kernel_rfl) (by kernel_rfl) (by kernel_rfl) (fun _ _ _ h => h) hHeld (Or.inl ⟨by rfl, ?_⟩) rfl ?_
  rotate_left
  · intro wq hSw
    go_simp
    try with_reducible rfl
  simp only [List.set_cons_zero, List.set_cons_succ]
  refine take_at 1 6 rfl rfl (by kernel_rfl) (by kernel_rfl) (by kernel_rfl) (fun _ _ _ h => h) hHeld (yieldsIf_load_agg (by rfl) 30 (.tmp 5) rfl _ _ (by rfl) (fun wq hSw => lP wq hSw)) rfl ?_
  simp only [List.set_cons_zero, List.set_cons_succ]
  refine take_at (v := ?_) 2 7 rfl rfl (by kernel_rfl) (by kernel_rfl) (by kernel_rfl) (fun _ _ _ h => h) hHeld (Or.inl ⟨by rfl, ?_⟩) rfl ?_
  rotate_left
  · intro wq hSw
    go_simp
    try with_reducible rfl
  simp only [List.set_cons_zero, List.set_cons_succ]
  refine take_at 3 8 rfl rfl (by kernel_rfl) (by kernel_rfl) (by kernel_rfl) (fun _ _ _ h => h) hHeld (yieldsIf_load_agg (by rfl) 30 (.tmp 7) rfl _ _ (by rfl) (fun wq hSw => lQ wq hSw)) rfl ?_
  simp only [List.set_cons_zero, List.set_cons_succ]
  refine take_at (v := ?_) 5 10 rfl rfl (by kernel_rfl) (by kernel_rfl) (by kernel_rfl) (fun _ _ _ h => h) hHeld (Or.inl ⟨by rfl, ?_⟩) rfl ?_
  rotate_left
  · intro wq hSw
    go_simp
    try with_reducible rfl
  simp only [List.set_cons_zero, List.set_cons_succ]
  refine take_at (v := ?_) 6 11 rfl rfl (by kernel_rfl) (by kernel_rfl) (by kernel_rfl) (fun _ _ _ h => h) hHeld (Or.inl ⟨by rfl, ?_⟩) rfl ?_
  rotate_left
  · intro wq hSw
    have hst := lPn wq hSw
    go_simp
    try with_reducible rfl
  simp only [List.set_cons_zero, List.set_cons_succ]
  refine take_at (v := ?_) 7 12 rfl rfl (by kernel_rfl) (by kernel_rfl) (by kernel_rfl) (fun _ _ _ h => h) hHeld (Or.inl ⟨by rfl, ?_⟩) rfl ?_
  rotate_left
  · intro wq hSw
    go_simp
    try with_reducible rfl
  simp only [List.set_cons_zero, List.set_cons_succ]
  refine take_at (v := ?_) 8 13 rfl rfl (by kernel_rfl) (by kernel_rfl) (by kernel_rfl) (fun _ _ _ h => h) hHeld (Or.inl ⟨by rfl, ?_⟩) rfl ?_
  rotate_left
  · intro wq hSw
    have hst := lQn wq hSw
    go_simp
    try with_reducible rfl
  simp only [List.set_cons_zero, List.set_cons_succ]
  refine wpAnyH_ready (rs := [4]) (by kernel_rfl) (by simp) ?_
  refine AllReadyH.cons rfl (fun K hK => ?_) AllReadyH.nil
  go_simp
  go_at_call 73
  refine (dcompare_gr p.1 q.1 ws HP.out.1 HP.out.2).mono ?_
  rintro e w2 ⟨rfl, hG2⟩
  rw [← HD.out]
  refine hK.out _ _ (Held.of hG2.below) (fun _ => ?_)
  clear hK K
  try simp only [Act.put, List.setIfInBounds_toArray, List.set_cons_zero, List.set_cons_succ]
  replace hHeld := Held.of hG2.below
  refine wpAnyH_ready (rs := [9]) (by kernel_rfl) (by simp) ?_
  refine AllReadyH.cons rfl (fun K hK => ?_) AllReadyH.nil
  go_simp
  go_at_call 74
  refine (cmpi_any p.2 q.2 w2).mono ?_
  rintro e w3 ⟨rfl, rfl⟩
  rw [← HI.out]
  refine hK.out _ _ hHeld (fun _ => ?_)
  clear hK K
  try simp only [Act.put, List.setIfInBounds_toArray, List.set_cons_zero, List.set_cons_succ]
  refine wpAnyH_ready (rs := [10]) (by kernel_rfl) (by simp) ?_
  refine AllReadyH.cons rfl (fun K hK => ?_) AllReadyH.nil
  go_simp
  obtain ⟨w4, hw4⟩ : ∃ ww, ww = w2.alloc (.cells #[.int .i64 d, .int .i64 ci] 3) := ⟨_, rfl⟩
  rw [← hw4]
  have hX4 : Has w4 w2.heap.size 3 #[.int .i64 d, .int .i64 ci] := by rw [hw4]; exact Has.fresh _ _ _
  have hG4 : Gr w2 w4 := by rw [hw4]; exact Gr.alloc _ _
  have hH4 : Held ws w4 := hHeld.trans (Held.of hG4.below)
  clear hw4
  refine hK.out _ _ hH4 (fun _ => ?_)
  clear hK K
  try simp only [Act.put, List.setIfInBounds_toArray, List.set_cons_zero, List.set_cons_succ]
  replace hHeld := hH4
  refine wpAnyH_ready (rs := [11]) (by kernel_rfl) (by simp) ?_
  refine AllReadyH.cons rfl (fun K hK => ?_) AllReadyH.nil
  go_simp
  go_at_call 72
  refine (or_two d ci w2.heap.size 2 w4 hX4).mono ?_
  rintro e w5 ⟨rfl, rfl⟩
  refine hK.out _ _ hHeld (fun _ => ?_)
  clear hK K
  try simp only [Act.put, List.setIfInBounds_toArray, List.set_cons_zero, List.set_cons_succ]
  refine take_at (v := ?_) 12 4 rfl rfl (by kernel_rfl) (by kernel_rfl) (by kernel_rfl) (fun _ _ _ h => h) hHeld (Or.inl ⟨by rfl, ?_⟩) rfl ?_
  rotate_left
  · intro wq hSw
    go_simp
    try with_reducible rfl
  simp only [List.set_cons_zero, List.set_cons_succ]
  refine wpAnyH_done (by kernel_rfl) ?_ _
  go_wp2
  all_goals (go_ret; exact ⟨rfl, hGs.trans (hG2.trans hG4)⟩)
theorem cmpLaysPt (blk off size : Nat) (w : World) : CmpLays Tryz.prog 45 #[] Cs.enc32 33 Cs.cf32 blk off size w :=
  fun _ _ _ _ x y => (pcompare_any x.1 y.1 x.2 y.2 _).mono fun _ _ h => ⟨h.1, h.2⟩
end Go.Proofs.YtagjolbpmhbifaaGreatDoor
