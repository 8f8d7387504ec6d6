/- The field of 2^32 elements: products, squares, powers, inverses, traces, by linear maps. Nothing of the program. -/
import Derived.Test.YtlackhjlnoefcaaGfM
namespace Go.Proofs.Ytlackhjlnoefcaa.Gf

/-! ### linear maps -/
def Lin {n m : Nat} (f : BitVec n → BitVec m) : Prop := ∀ x y, f (x ^^^ y) = f x ^^^ f y
section
variable {n m k : Nat} {f g : BitVec n → BitVec m}
theorem Lin.zero (h : Lin f) : f 0 = 0 := by
  have := h 0 0
  simpa using this
theorem lin_ext (hf : Lin f) (hg : Lin g) (h : ∀ i, i < n → f (BitVec.twoPow n i) = g (BitVec.twoPow n i)) (x : BitVec n) : f x = g x := by
  have key : ∀ k, k ≤ n → ∀ x : BitVec n, (∀ i, k ≤ i → x.getLsbD i = false) → f x = g x := by
    intro k
    induction k with
    | zero =>
      intro _ x hx
      have : x = 0 := by
        apply BitVec.eq_of_getLsbD_eq
        intro i _
        simpa using hx i (Nat.zero_le _)
      rw [this, hf.zero, hg.zero]
    | succ k ih =>
      intro hk x hx
      cases hb : x.getLsbD k with
      | false =>
        refine ih (by omega) x (fun i hi => ?_)
        rcases Nat.lt_or_ge k i with h' | h'
        · exact hx i h'
        · obtain rfl : i = k := by omega
          exact hb
      | true =>
        have e : x = (x ^^^ BitVec.twoPow n k) ^^^ BitVec.twoPow n k := by rw [BitVec.xor_assoc, BitVec.xor_self, BitVec.xor_zero]
        rw [e, hf, hg, h k (by omega)]
        congr 1
        refine ih (by omega) _ (fun i hi => ?_)
        rw [BitVec.getLsbD_xor, BitVec.getLsbD_twoPow]
        rcases Nat.lt_or_ge k i with h' | h'
        · rw [hx i h']
          have : ¬ k = i := by omega
          simp [this]
        · obtain rfl : i = k := by omega
          have : i < n := by omega
          simp [hb, this]
  exact key n (Nat.le_refl _) x (fun i hi => BitVec.getLsbD_of_ge x i hi)
theorem Lin.comp {l : Nat} {g : BitVec m → BitVec l} (hg : Lin g) (hf : Lin f) : Lin (fun x => g (f x)) := fun x y => by
  show g (f (x ^^^ y)) = _
  rw [hf, hg]
theorem Lin.add (hf : Lin f) (hg : Lin g) : Lin (fun x => f x ^^^ g x) := fun x y => by
  show f (x ^^^ y) ^^^ g (x ^^^ y) = (f x ^^^ g x) ^^^ (f y ^^^ g y)
  rw [hf, hg]; ac_rfl
theorem Lin.id : Lin (fun x : BitVec n => x) := fun _ _ => rfl
theorem Lin.const0 : Lin (fun _ : BitVec n => (0 : BitVec m)) := fun _ _ => by simp
theorem lin_and (c : BitVec n) : Lin (fun x : BitVec n => x &&& c) := fun x y => by
  apply BitVec.eq_of_getLsbD_eq; intro i _; simp [Bool.and_xor_distrib_right]
theorem lin_shl (k : Nat) : Lin (fun x : BitVec n => x <<< k) := fun x y => BitVec.shiftLeft_xor_distrib x y k
theorem lin_shr (k : Nat) : Lin (fun x : BitVec n => x >>> k) := fun x y => BitVec.ushiftRight_xor_distrib x y k
theorem lin_setWidth (k : Nat) : Lin (fun x : BitVec n => x.setWidth k) := fun _ _ => BitVec.setWidth_xor
end

theorem xor_self_cancel (a b : BitVec 32) : a ^^^ b ^^^ b = a := by rw [BitVec.xor_assoc, BitVec.xor_self, BitVec.xor_zero]

/-! ### the modulus -/
theorem lin_fold : Lin fold :=
  ((((lin_and _).add (lin_shr 32)).add ((lin_shl 2).comp (lin_shr 32))).add ((lin_shl 3).comp (lin_shr 32))).add ((lin_shl 7).comp (lin_shr 32))
theorem lin_reduce : Lin reduce := (lin_setWidth 32).comp (lin_fold.comp lin_fold)
theorem lin_double : Lin double := lin_reduce.comp ((lin_shl 1).comp (lin_setWidth 64))
theorem reduce_shift (y : BitVec 64) (h : y &&& 0x7fffffffffffffff#64 = y) : reduce (y <<< 1) = double (reduce y) := by
  have e := lin_ext (f := fun y => reduce ((y &&& 0x7fffffffffffffff#64) <<< 1)) (g := fun y => double (reduce (y &&& 0x7fffffffffffffff#64)))
    (lin_reduce.comp ((lin_shl 1).comp (lin_and _))) (lin_double.comp (lin_reduce.comp (lin_and _))) (by decide +kernel) y
  simpa only [h] using e
/-- doubled k times -/
def dbl (a : BitVec 32) : Nat → BitVec 32
  | 0 => a
  | k + 1 => double (dbl a k)
theorem lin_dbl (k : Nat) : Lin (fun a => dbl a k) := by
  induction k with
  | zero => exact Lin.id
  | succ k ih => exact lin_double.comp ih
theorem dbl_double (a : BitVec 32) (k : Nat) : dbl (double a) k = double (dbl a k) := by
  induction k with
  | zero => rfl
  | succ k ih => simp only [dbl, ih]
theorem dbl_add (a : BitVec 32) (j k : Nat) : dbl (dbl a j) k = dbl a (j + k) := by
  induction k with
  | zero => rfl
  | succ k ih => rw [dbl, ih]; rfl
theorem reduce_at (a : BitVec 32) : ∀ k, k < 32 → reduce (a.setWidth 64 <<< k) = dbl a k
  | 0, _ => by
    have e := lin_ext (f := fun a : BitVec 32 => reduce (a.setWidth 64 <<< 0)) (g := fun a => a)
      (lin_reduce.comp ((lin_shl 0).comp (lin_setWidth 64))) Lin.id (by decide +kernel) a
    exact e
  | k + 1, h => by
    rw [BitVec.shiftLeft_add, dbl, ← reduce_at a k (by omega)]
    refine reduce_shift _ ?_
    apply BitVec.eq_of_getLsbD_eq
    intro i hi
    rw [BitVec.getLsbD_and]
    rcases Nat.lt_or_ge i 63 with h' | h'
    · have : (0x7fffffffffffffff#64).getLsbD i = true := by
        have : ∀ i, i < 63 → (0x7fffffffffffffff#64).getLsbD i = true := by decide +kernel
        exact this i h'
      rw [this, Bool.and_true]
    · have : (a.setWidth 64 <<< k).getLsbD i = false := by
        rw [BitVec.getLsbD_shiftLeft]
        have : ¬ i - k < 32 := by omega
        simp only [BitVec.getLsbD_setWidth]
        rw [BitVec.getLsbD_of_ge a (i - k) (by omega)]
        simp
      rw [this, Bool.false_and]

/-! ### the product -/
/-- what one bit gives -/
def part (c : Bool) (x : BitVec 32) : BitVec 32 := if c then x else 0
/-- the product by the first k bits -/
def mulS (a b : BitVec 32) : Nat → BitVec 32
  | 0 => 0
  | k + 1 => mulS a b k ^^^ part (b.getLsbD k) (dbl a k)
theorem mask_eq (b : BitVec 32) (k : Nat) : mask b k = if b.getLsbD k then BitVec.allOnes 32 else 0 := by
  have e : b >>> k &&& 1#32 = if b.getLsbD k then 1#32 else 0#32 := by
    apply BitVec.eq_of_getLsbD_eq
    intro i hi
    rw [BitVec.getLsbD_and, BitVec.getLsbD_ushiftRight]
    rcases Nat.eq_zero_or_pos i with rfl | h0
    · cases b.getLsbD k <;> simp
    · have : (1#32).getLsbD i = false := by
        rw [BitVec.getLsbD_one]
        have : ¬ i = 0 := by omega
        simp [this]
      rw [this, Bool.and_false]
      cases b.getLsbD k <;> simp [this]
  unfold mask
  rw [e]
  cases b.getLsbD k <;> simp
theorem reduce_clm (a b : BitVec 32) : ∀ k, k ≤ 32 → reduce (clm a b k) = mulS a b k
  | 0, _ => lin_reduce.zero
  | k + 1, h => by
    rw [clm, lin_reduce, reduce_clm a b k (by omega), mulS]
    congr 1
    rw [mask_eq, part]
    cases b.getLsbD k with
    | false =>
      have : (a &&& (if false = true then BitVec.allOnes 32 else 0)).setWidth 64 <<< k = (0 : BitVec 64) := by simp
      rw [this]; exact lin_reduce.zero
    | true =>
      have : a &&& (if true = true then BitVec.allOnes 32 else 0) = a := by rw [if_pos rfl, BitVec.and_allOnes]
      rw [this, reduce_at a k (by omega)]; rfl
theorem mul_eq (a b : BitVec 32) : mul a b = mulS a b 32 := reduce_clm a b 32 (Nat.le_refl _)
theorem part_xor (c : Bool) (x y : BitVec 32) : part c (x ^^^ y) = part c x ^^^ part c y := by cases c <;> simp [part]
theorem part_xor' (c d : Bool) (x : BitVec 32) : part (c ^^ d) x = part c x ^^^ part d x := by cases c <;> cases d <;> simp [part]
theorem lin_mulS_left (b : BitVec 32) : ∀ k, Lin (fun a => mulS a b k)
  | 0 => Lin.const0
  | k + 1 => (lin_mulS_left b k).add fun x y => by
    show part _ (dbl (x ^^^ y) k) = _
    rw [show dbl (x ^^^ y) k = dbl x k ^^^ dbl y k from lin_dbl k x y, part_xor]
theorem lin_mulS_right (a : BitVec 32) : ∀ k, Lin (fun b => mulS a b k)
  | 0 => Lin.const0
  | k + 1 => (lin_mulS_right a k).add fun x y => by
    show part ((x ^^^ y).getLsbD k) _ = _
    rw [BitVec.getLsbD_xor, part_xor']
theorem lin_mul_left (b : BitVec 32) : Lin (fun a => mul a b) := fun x y => by simp only [mul_eq]; exact lin_mulS_left b 32 x y
theorem lin_mul_right (a : BitVec 32) : Lin (fun b => mul a b) := fun x y => by simp only [mul_eq]; exact lin_mulS_right a 32 x y
theorem part_zero (c : Bool) : part c 0 = 0 := by cases c <;> rfl
theorem double_part (c : Bool) (x : BitVec 32) : double (part c x) = part c (double x) := by
  cases c
  · exact lin_double.zero
  · rfl
theorem mulS_double (a b : BitVec 32) : ∀ k, mulS (double a) b k = double (mulS a b k)
  | 0 => lin_double.zero.symm
  | k + 1 => by rw [mulS, mulS, mulS_double a b k, lin_double, double_part, dbl_double]
theorem mul_double (a b : BitVec 32) : mul (double a) b = double (mul a b) := by rw [mul_eq, mul_eq, mulS_double]
theorem mulS_twoPow (a : BitVec 32) (j : Nat) (hj : j < 32) : ∀ k, mulS a (BitVec.twoPow 32 j) k = if j < k then dbl a j else 0
  | 0 => by simp [mulS]
  | k + 1 => by
    rw [mulS, mulS_twoPow a j hj k, BitVec.getLsbD_twoPow]
    rcases Nat.lt_trichotomy j k with h | h | h
    · have h1 : j < k + 1 := by omega
      have h2 : ¬ j = k := by omega
      simp [h, h1, h2, part]
    · subst h
      simp [hj, part]
    · have h1 : ¬ j < k + 1 := by omega
      have h2 : ¬ j = k := by omega
      have h3 : ¬ j < k := by omega
      simp [h1, h2, h3, part]
theorem mul_twoPow (a : BitVec 32) (j : Nat) (hj : j < 32) : mul a (BitVec.twoPow 32 j) = dbl a j := by
  rw [mul_eq, mulS_twoPow a j hj, if_pos hj]
theorem mul_one (a : BitVec 32) : mul a 1 = a := mul_twoPow a 0 (by omega)
theorem twoPow_dbl : ∀ j, j < 32 → BitVec.twoPow 32 j = dbl 1 j := by decide +kernel
theorem one_mul (b : BitVec 32) : mul 1 b = b :=
  lin_ext (lin_mul_right 1) Lin.id (fun j hj => by rw [mul_twoPow 1 j hj, twoPow_dbl j hj]) b
theorem mul_8d (a : BitVec 32) : mul a 0x8d#32 = dbl a 32 :=
  lin_ext (lin_mul_left _) (lin_dbl 32) (by decide +kernel) a
theorem mul_double' (a b : BitVec 32) : mul a (double b) = double (mul a b) := by
  refine lin_ext (f := fun b => mul a (double b)) (g := fun b => double (mul a b)) ((lin_mul_right a).comp lin_double) (lin_double.comp (lin_mul_right a)) (fun j hj => ?_) b
  show mul a (double (BitVec.twoPow 32 j)) = double (mul a (BitVec.twoPow 32 j))
  rw [mul_twoPow a j hj]
  rcases Nat.lt_or_ge j 31 with h | h
  · have e : ∀ j, j < 31 → double (BitVec.twoPow 32 j) = BitVec.twoPow 32 (j + 1) := by decide +kernel
    rw [e j h, mul_twoPow a (j + 1) (by omega)]; rfl
  · obtain rfl : j = 31 := by omega
    have e : double (BitVec.twoPow 32 31) = 0x8d#32 := by decide +kernel
    rw [e, mul_8d]; rfl
theorem mul_dbl (a b : BitVec 32) (k : Nat) : mul a (dbl b k) = dbl (mul a b) k := by
  induction k with
  | zero => rfl
  | succ k ih => rw [dbl, mul_double', ih]; rfl
theorem dbl_mul (a b : BitVec 32) (k : Nat) : mul (dbl a k) b = dbl (mul a b) k := by
  induction k with
  | zero => rfl
  | succ k ih => rw [dbl, mul_double, ih]; rfl
theorem mul_comm (a b : BitVec 32) : mul a b = mul b a :=
  lin_ext (f := fun a => mul a b) (g := fun a => mul b a) (lin_mul_left b) (lin_mul_right b) (fun j hj => by
    show mul (BitVec.twoPow 32 j) b = mul b (BitVec.twoPow 32 j)
    rw [twoPow_dbl j hj, dbl_mul, one_mul, mul_dbl, mul_one]) a
theorem mul_assoc (a b c : BitVec 32) : mul (mul a b) c = mul a (mul b c) :=
  lin_ext (f := fun c => mul (mul a b) c) (g := fun c => mul a (mul b c)) (lin_mul_right _) ((lin_mul_right a).comp (lin_mul_right b)) (fun j hj => by
    show mul (mul a b) (BitVec.twoPow 32 j) = mul a (mul b (BitVec.twoPow 32 j))
    rw [mul_twoPow _ j hj, mul_twoPow _ j hj, mul_dbl]) c
theorem mul_zero (a : BitVec 32) : mul a 0 = 0 := (lin_mul_right a).zero
theorem zero_mul (a : BitVec 32) : mul 0 a = 0 := (lin_mul_left a).zero
theorem mul_xor (a b c : BitVec 32) : mul a (b ^^^ c) = mul a b ^^^ mul a c := lin_mul_right a b c
theorem xor_mul (a b c : BitVec 32) : mul (a ^^^ b) c = mul a c ^^^ mul b c := lin_mul_left c a b

/-! ### squares -/
theorem or_step {p m m' : BitVec 64} (s : Nat) (hp : p &&& m = p) (hm : m &&& (m <<< s) &&& m' = 0) : (p ||| p <<< s) &&& m' = (p ^^^ p <<< s) &&& m' := by
  apply BitVec.eq_of_getLsbD_eq
  intro i hi
  have h1 : (p &&& m).getLsbD i = p.getLsbD i := by rw [hp]
  have h2 : (m &&& (m <<< s) &&& m').getLsbD i = false := by rw [hm]; simp
  have h3 : ((p &&& m) <<< s).getLsbD i = (p <<< s).getLsbD i := by rw [hp]
  simp only [BitVec.getLsbD_and, BitVec.getLsbD_shiftLeft, BitVec.getLsbD_or, BitVec.getLsbD_xor] at h1 h2 h3 ⊢
  revert h1 h2 h3
  cases p.getLsbD i <;> cases m.getLsbD i <;> cases m'.getLsbD i <;> cases p.getLsbD (i - s) <;> cases m.getLsbD (i - s) <;> cases decide (i < 64) <;> cases decide (i < s) <;> simp
theorem and_and_self (x m : BitVec 64) : x &&& m &&& m = x &&& m := by rw [BitVec.and_assoc, BitVec.and_self]
/-- the spreading with xor -/
def spread' (a : BitVec 32) : BitVec 64 :=
  let p0 := a.setWidth 64
  let p1 := (p0 ^^^ p0 <<< 16) &&& 0x0000ffff0000ffff#64
  let p2 := (p1 ^^^ p1 <<< 8) &&& 0x00ff00ff00ff00ff#64
  let p3 := (p2 ^^^ p2 <<< 4) &&& 0x0f0f0f0f0f0f0f0f#64
  let p4 := (p3 ^^^ p3 <<< 2) &&& 0x3333333333333333#64
  (p4 ^^^ p4 <<< 1) &&& 0x5555555555555555#64
theorem low_self (a : BitVec 32) : a.setWidth 64 &&& 0xffffffff#64 = a.setWidth 64 :=
  lin_ext (f := fun a : BitVec 32 => a.setWidth 64 &&& 0xffffffff#64) (g := fun a : BitVec 32 => a.setWidth 64) ((lin_and _).comp (lin_setWidth 64)) (lin_setWidth 64) (by decide +kernel) a
theorem spread_eq (a : BitVec 32) : spread a = spread' a := by
  unfold spread spread'
  simp only
  rw [or_step (m := 0xffffffff#64) 16 (low_self a) (by decide +kernel), or_step 8 (and_and_self _ _) (by decide +kernel), or_step 4 (and_and_self _ _) (by decide +kernel),
    or_step 2 (and_and_self _ _) (by decide +kernel), or_step 1 (and_and_self _ _) (by decide +kernel)]
theorem lin_step (s : Nat) (m : BitVec 64) : Lin (fun p : BitVec 64 => (p ^^^ p <<< s) &&& m) := (lin_and m).comp (Lin.id.add (lin_shl s))
theorem lin_spread' : Lin spread' :=
  (lin_step 1 _).comp ((lin_step 2 _).comp ((lin_step 4 _).comp ((lin_step 8 _).comp ((lin_step 16 _).comp (lin_setWidth 64)))))
theorem lin_square : Lin square := by
  intro x y
  unfold square
  rw [spread_eq, spread_eq, spread_eq, lin_spread', lin_reduce]
theorem square_eq (a : BitVec 32) : square a = mul a a := by
  refine lin_ext (f := square) (g := fun a => mul a a) lin_square (fun x y => ?_) (by decide +kernel) a
  show mul (x ^^^ y) (x ^^^ y) = mul x x ^^^ mul y y
  rw [xor_mul, mul_xor, mul_xor, mul_comm y x, BitVec.xor_assoc, ← BitVec.xor_assoc (mul x y), BitVec.xor_self, BitVec.zero_xor]
theorem lin_squares : ∀ k, Lin (fun a => squares a k)
  | 0 => Lin.id
  | k + 1 => lin_square.comp (lin_squares k)
theorem squares_succ (a : BitVec 32) (k : Nat) : squares (square a) k = squares a (k + 1) := by
  induction k with
  | zero => rfl
  | succ k ih => rw [squares, ih]; rfl
theorem squares_32 (a : BitVec 32) : squares a 32 = a := lin_ext (lin_squares 32) Lin.id (by decide +kernel) a
theorem square_mul (a b : BitVec 32) : square (mul a b) = mul (square a) (square b) := by
  rw [square_eq, square_eq, square_eq, mul_assoc, mul_assoc, ← mul_assoc b a b, mul_comm b a, mul_assoc a b b]

/-! ### powers -/
/-- n factors -/
def pow (a : BitVec 32) : Nat → BitVec 32
  | 0 => 1
  | n + 1 => mul (pow a n) a
theorem pow_add (a : BitVec 32) (n m : Nat) : pow a (n + m) = mul (pow a n) (pow a m) := by
  induction m with
  | zero => exact (mul_one _).symm
  | succ m ih => rw [Nat.add_succ, pow, ih, pow, mul_assoc]
theorem pow_square (a : BitVec 32) (n : Nat) : pow (square a) n = pow a (2 * n) := by
  induction n with
  | zero => rfl
  | succ n ih => rw [pow, ih, show 2 * (n + 1) = 2 * n + 1 + 1 from rfl, pow, pow, mul_assoc, square_eq]
theorem pow_one (a : BitVec 32) : pow a 1 = a := one_mul a
theorem squares_pow (a : BitVec 32) (k : Nat) : squares a k = pow a (2 ^ k) := by
  induction k with
  | zero => exact (pow_one a).symm
  | succ k ih => rw [squares, ih, square_eq, ← pow_add]; congr 1; omega
theorem pow_32 (a : BitVec 32) : pow a 4294967296 = a := by rw [show 4294967296 = 2 ^ 32 from rfl, ← squares_pow, squares_32]

/-! ### traces -/
def trace (a : BitVec 32) : Nat → BitVec 32
  | 0 => 0
  | k + 1 => trace a k ^^^ squares a k
theorem lin_trace : ∀ k, Lin (fun a => trace a k)
  | 0 => Lin.const0
  | k + 1 => (lin_trace k).add (lin_squares k)
theorem bit_of_and {x : BitVec 32} (h : x &&& 0xfffffffe#32 = 0) : x = 0 ∨ x = 1 := by
  have e : x.toNat &&& 0xfffffffe = 0 := by
    have := congrArg BitVec.toNat h
    simpa using this
  have e1 : x.toNat < 2 := by
    rcases Nat.lt_or_ge x.toNat 2 with h | h
    · exact h
    · exfalso
      have hx := x.isLt
      have h2 : x.toNat / 2 = 0 := by
        apply Nat.eq_of_testBit_eq
        intro i
        rw [Nat.testBit_div_two, Nat.zero_testBit]
        rcases Nat.lt_or_ge i 31 with hi | hi
        · have := congrArg (fun n => n.testBit (i + 1)) e
          simp only [Nat.testBit_and, Nat.zero_testBit] at this
          have hb : ∀ i, i < 31 → Nat.testBit 0xfffffffe (i + 1) = true := by decide +kernel
          rw [hb i hi, Bool.and_true] at this
          exact this
        · exact Nat.testBit_lt_two_pow (Nat.lt_of_lt_of_le hx (Nat.pow_le_pow_right (by omega) (by omega)))
      omega
  rcases Nat.lt_or_ge x.toNat 1 with h | h
  · left; apply BitVec.eq_of_toNat_eq; show _ = 0; omega
  · right; apply BitVec.eq_of_toNat_eq; show _ = 1; omega
theorem trace_bit (a : BitVec 32) : trace a 32 = 0 ∨ trace a 32 = 1 :=
  bit_of_and (lin_ext (f := fun a => trace a 32 &&& 0xfffffffe#32) (g := fun _ => 0) ((lin_and _).comp (lin_trace 32)) Lin.const0 (by decide +kernel) a)
theorem trace_square (a : BitVec 32) : trace (square a) 32 = trace a 32 :=
  lin_ext (f := fun a => trace (square a) 32) (g := fun a => trace a 32) ((lin_trace 32).comp lin_square) (lin_trace 32) (by decide +kernel) a

/-! ### the equation y^2 + y = c -/
def traced : BitVec 32 := 33554432#32
/-- halve's three variables behind k rounds: y and t -/
def tsum : Nat → BitVec 32
  | 0 => 0
  | k + 1 => tsum k ^^^ squares traced k
def half (c : BitVec 32) : Nat → BitVec 32
  | 0 => 0
  | k + 1 => half c k ^^^ mul (tsum (k + 1)) (squares c k)
theorem lin_half : ∀ k, Lin (fun c => half c k)
  | 0 => Lin.const0
  | k + 1 => (lin_half k).add ((lin_mul_right _).comp (lin_squares k))
theorem half_solves (c : BitVec 32) : square (half c 32) ^^^ half c 32 = c ^^^ mul traced (trace c 32) :=
  lin_ext (f := fun c => square (half c 32) ^^^ half c 32) (g := fun c => c ^^^ mul traced (trace c 32))
    ((lin_square.comp (lin_half 32)).add (lin_half 32)) (Lin.id.add ((lin_mul_right _).comp (lin_trace 32))) (by decide +kernel) c
theorem half_back (y : BitVec 32) : half (square y ^^^ y) 32 = y ^^^ trace (mul traced y) 32 :=
  lin_ext (f := fun y => half (square y ^^^ y) 32) (g := fun y => y ^^^ trace (mul traced y) 32)
    ((lin_half 32).comp (lin_square.add Lin.id)) (Lin.id.add ((lin_trace 32).comp (lin_mul_right _))) (by decide +kernel) y
theorem zero_or_one {y : BitVec 32} (h : square y = y) : y = 0 ∨ y = 1 := by
  have e := half_back y
  rw [h, BitVec.xor_self, show half (0#32) 32 = 0 from (lin_half 32).zero] at e
  have e2 : y = trace (mul traced y) 32 := by
    have := congrArg (fun x => x ^^^ trace (mul traced y) 32) e
    simp only [BitVec.xor_assoc, BitVec.xor_self, BitVec.xor_zero] at this
    simpa using this.symm
  rw [e2]
  exact trace_bit _

/-! ### inverses -/
def inv (a : BitVec 32) : BitVec 32 := pow a 4294967294
theorem inv_zero : inv 0 = 0 := by
  show mul (pow 0 4294967293) 0 = 0
  exact mul_zero _
theorem mul_inv {a : BitVec 32} (h : a ≠ 0) : mul a (inv a) = 1 := by
  have e0 : mul a (inv a) = pow a 4294967295 := by
    rw [mul_comm]; rfl
  have e1 : mul (pow a 4294967295) a = a := by
    have : pow a 4294967296 = mul (pow a 4294967295) a := rfl
    rw [← this, pow_32]
  have e2 : square (pow a 4294967295) = pow a 4294967295 := by
    rw [square_eq, ← pow_add, show 4294967295 + 4294967295 = 4294967296 + 4294967294 from rfl, pow_add, pow_32, ← e0]; rfl
  rw [e0]
  rcases zero_or_one e2 with h0 | h1
  · rw [h0, zero_mul] at e1
    exact absurd e1.symm h
  · exact h1
theorem no_divisors {a b : BitVec 32} (h : mul a b = 0) : a = 0 ∨ b = 0 := by
  by_cases ha : a = 0
  · exact .inl ha
  · right
    rw [← one_mul b, ← mul_inv ha, mul_comm a, mul_assoc, h, mul_zero]
end Go.Proofs.Ytlackhjlnoefcaa.Gf
