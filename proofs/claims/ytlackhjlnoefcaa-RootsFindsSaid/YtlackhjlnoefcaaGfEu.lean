/- Euclid's way to an inverse: what it keeps. Nothing of the program but the reference's rest as a function. -/
import Derived.Test.YtlackhjlnoefcaaGfRef
namespace Go.Proofs.Ytlackhjlnoefcaa.Gf

/-- the rest of a polynomial of up to 64 bits -/
def rst (p : BitVec 64) : BitVec 32 := (restDown p 32).setWidth 32
theorem lin_rst : Lin rst := (lin_setWidth 32).comp (lin_restDown 32)
theorem rst_low (a : BitVec 32) : rst (a.setWidth 64) = a :=
  lin_ext (f := fun a : BitVec 32 => rst (a.setWidth 64)) (g := fun a => a) (lin_rst.comp (lin_setWidth 64)) Lin.id (by decide +kernel) a
theorem rst_shift (y : BitVec 64) (h : y &&& 0x7fffffffffffffff#64 = y) : rst (y <<< 1) = double (rst y) := by
  have e := lin_ext (f := fun y => rst ((y &&& 0x7fffffffffffffff#64) <<< 1)) (g := fun y => double (rst (y &&& 0x7fffffffffffffff#64)))
    (lin_rst.comp ((lin_shl 1).comp (lin_and _))) (lin_double.comp (lin_rst.comp (lin_and _))) (by decide +kernel) y
  simpa only [h] using e
theorem top_clear (y : BitVec 64) (h : y.toNat < 9223372036854775808) : y &&& 0x7fffffffffffffff#64 = y := by
  apply BitVec.eq_of_getLsbD_eq
  intro i hi
  rw [BitVec.getLsbD_and]
  rcases Nat.lt_or_ge i 63 with h' | h'
  · have : ∀ i, i < 63 → (0x7fffffffffffffff#64).getLsbD i = true := by decide +kernel
    rw [this i h', Bool.and_true]
  · have : y.getLsbD i = false := Nat.testBit_lt_two_pow (Nat.lt_of_lt_of_le h (Nat.pow_le_pow_right (n := 2) (by omega) h'))
    rw [this, Bool.false_and]
theorem shl_toNat (y : BitVec 64) (k : Nat) (h : y.toNat * 2 ^ k < 18446744073709551616) : (y <<< k).toNat = y.toNat * 2 ^ k := by
  rw [BitVec.toNat_shiftLeft, Nat.shiftLeft_eq]
  exact Nat.mod_eq_of_lt h
theorem rst_shl (y : BitVec 64) : ∀ k, y.toNat * 2 ^ k < 18446744073709551616 → rst (y <<< k) = dbl (rst y) k
  | 0, _ => by rw [BitVec.shiftLeft_zero]; rfl
  | k + 1, h => by
    have h1 : y.toNat * 2 ^ k < 9223372036854775808 := by
      rw [Nat.pow_succ, ← Nat.mul_assoc] at h; omega
    have h2 : y.toNat * 2 ^ k < 18446744073709551616 := by omega
    rw [BitVec.shiftLeft_add, rst_shift _ (top_clear _ (by rw [shl_toNat y k h2]; exact h1)), rst_shl y k h2]
    rfl
def modulus : BitVec 64 := 4294967437#64
theorem rst_modulus : rst modulus = 0 := by decide +kernel

/-! ### products of polynomials, modulo x^64 -/
def pt (c : Bool) (x : BitVec 64) : BitVec 64 := if c then x else 0
def cl (p q : BitVec 64) : Nat → BitVec 64
  | 0 => 0
  | k + 1 => cl p q k ^^^ pt (q.getLsbD k) (p <<< k)
theorem pt_xor (c : Bool) (x y : BitVec 64) : pt c (x ^^^ y) = pt c x ^^^ pt c y := by cases c <;> simp [pt]
theorem pt_xor' (c d : Bool) (x : BitVec 64) : pt (c ^^ d) x = pt c x ^^^ pt d x := by cases c <;> cases d <;> simp [pt]
theorem lin_cl_left (q : BitVec 64) : ∀ k, Lin (fun p => cl p q k)
  | 0 => Lin.const0
  | k + 1 => (lin_cl_left q k).add fun x y => by
    show pt _ ((x ^^^ y) <<< k) = _
    rw [show (x ^^^ y) <<< k = x <<< k ^^^ y <<< k from lin_shl k x y, pt_xor]
theorem lin_cl_right (p : BitVec 64) : ∀ k, Lin (fun q => cl p q k)
  | 0 => Lin.const0
  | k + 1 => (lin_cl_right p k).add fun x y => by
    show pt ((x ^^^ y).getLsbD k) _ = _
    rw [BitVec.getLsbD_xor, pt_xor']
theorem cl_twoPow (p : BitVec 64) (j : Nat) (hj : j < 64) : ∀ k, cl p (BitVec.twoPow 64 j) k = if j < k then p <<< j else 0
  | 0 => by simp [cl]
  | k + 1 => by
    rw [cl, cl_twoPow p j hj k, BitVec.getLsbD_twoPow]
    rcases Nat.lt_trichotomy j k with h | h | h
    · have h1 : j < k + 1 := by omega
      have h2 : ¬ j = k := by omega
      simp [h, h1, h2, pt]
    · subst h
      simp [hj, pt]
    · have h1 : ¬ j < k + 1 := by omega
      have h2 : ¬ j = k := by omega
      have h3 : ¬ j < k := by omega
      simp [h1, h2, h3, pt]
theorem shl_big (x : BitVec 64) (k : Nat) (h : 64 ≤ k) : x <<< k = 0 := by
  apply BitVec.eq_of_toNat_eq
  rw [BitVec.toNat_shiftLeft, Nat.shiftLeft_eq]
  obtain ⟨d, rfl⟩ := Nat.exists_eq_add_of_le h
  rw [Nat.pow_add, ← Nat.mul_assoc, Nat.mul_right_comm]
  exact Nat.mul_mod_left _ _
theorem twoPow_shl (j k : Nat) (h : j + k < 64) : BitVec.twoPow 64 j <<< k = BitVec.twoPow 64 (j + k) := by
  apply BitVec.eq_of_getLsbD_eq
  intro i hi
  rw [BitVec.getLsbD_shiftLeft, BitVec.getLsbD_twoPow, BitVec.getLsbD_twoPow]
  have h1 : j < 64 := by omega
  by_cases hik : i < k
  · have : ¬ j + k = i := by omega
    simp [hik, this]
  · by_cases e : j + k = i
    · subst e
      have h3 : j + k - k = j := by omega
      simp [h3, h1, h]
    · have : ¬ j = i - k := by omega
      simp [e, this]
theorem cl_shl (p q : BitVec 64) (k : Nat) : cl (p <<< k) q 64 = cl p (q <<< k) 64 := by
  refine lin_ext (f := fun q => cl (p <<< k) q 64) (g := fun q => cl p (q <<< k) 64) (lin_cl_right _ 64) ((lin_cl_right p 64).comp (lin_shl k)) (fun j hj => ?_) q
  show cl (p <<< k) (BitVec.twoPow 64 j) 64 = cl p (BitVec.twoPow 64 j <<< k) 64
  rw [cl_twoPow _ j hj, if_pos hj, ← BitVec.shiftLeft_add]
  rcases Nat.lt_or_ge (j + k) 64 with h | h
  · rw [twoPow_shl j k h, cl_twoPow _ (j + k) h, if_pos h, Nat.add_comm]
  · have e : BitVec.twoPow 64 j <<< k = 0 := by
      apply BitVec.eq_of_toNat_eq
      rw [BitVec.toNat_shiftLeft, Nat.shiftLeft_eq, BitVec.toNat_twoPow]
      rw [Nat.mod_eq_of_lt (Nat.pow_lt_pow_right (by omega) hj), ← Nat.pow_add]
      obtain ⟨d, hd⟩ := Nat.exists_eq_add_of_le h
      rw [hd, Nat.pow_add]
      exact Nat.mul_mod_right _ _
    rw [e, shl_big _ _ (by omega)]
    exact ((lin_cl_right p 64).zero).symm
theorem cl_clm (a b : BitVec 32) : ∀ k, cl (a.setWidth 64) (b.setWidth 64) k = clm a b k
  | 0 => rfl
  | k + 1 => by
    rw [cl, cl_clm a b k, clm_bit]
    have : (b.setWidth 64).getLsbD k = b.getLsbD k := by
      rw [BitVec.getLsbD_setWidth]
      rcases Nat.lt_or_ge k 64 with h | h
      · simp [h]
      · rw [BitVec.getLsbD_of_ge b k (by omega), Bool.and_false]
    rw [this]
    cases b.getLsbD k
    · simp [pt]
    · simp [pt]
theorem clm_stop (a b : BitVec 32) : ∀ d, clm a b (32 + d) = clm a b 32
  | 0 => rfl
  | d + 1 => by
    rw [show 32 + (d + 1) = 32 + d + 1 from rfl, clm_bit, BitVec.getLsbD_of_ge b (32 + d) (by omega), clm_stop a b d]
    rfl
theorem rst_cl (a b : BitVec 32) : rst (cl (a.setWidth 64) (b.setWidth 64) 64) = mul a b := by
  rw [cl_clm, show (64 : Nat) = 32 + 32 from rfl, clm_stop a b 32]
  exact rest_reduce _ (clm_low a b 32 (Nat.le_refl _))
theorem back32 (p : BitVec 64) (h : p.toNat < 4294967296) : (p.setWidth 32).setWidth 64 = p := by
  apply BitVec.eq_of_toNat_eq
  rw [BitVec.toNat_setWidth, BitVec.toNat_setWidth]
  omega

/-! ### degrees -/
theorem bits_of {n a : Nat} (h1 : 2 ^ n ≤ a) (h2 : a < 2 ^ (n + 1)) : a.testBit n = true := by
  have e : a / 2 ^ n = 1 := by
    rw [Nat.pow_succ] at h2
    have hp : 0 < 2 ^ n := Nat.pow_pos (by omega)
    apply Nat.le_antisymm
    · exact Nat.le_of_lt_succ ((Nat.div_lt_iff_lt_mul hp).2 (by omega))
    · exact (Nat.le_div_iff_mul_le hp).2 (by omega)
  rw [Nat.testBit, Nat.shiftRight_eq_div_pow, e]
  rfl
theorem xor_top {n a b : Nat} (h1 : 2 ^ n ≤ a) (h2 : a < 2 ^ (n + 1)) (h3 : 2 ^ n ≤ b) (h4 : b < 2 ^ (n + 1)) : a ^^^ b < 2 ^ n := by
  apply Nat.lt_pow_two_of_testBit
  intro i hi
  rw [Nat.testBit_xor]
  rcases Nat.eq_or_lt_of_le hi with e | e
  · rw [← e, bits_of h1 h2, bits_of h3 h4]; rfl
  · rw [Nat.testBit_lt_two_pow (Nat.lt_of_lt_of_le h2 (Nat.pow_le_pow_right (by omega) e)), Nat.testBit_lt_two_pow (Nat.lt_of_lt_of_le h4 (Nat.pow_le_pow_right (by omega) e))]; rfl
theorem log_le {n : Nat} (h : n ≠ 0) : 2 ^ n.log2 ≤ n := Nat.log2_self_le h
theorem lt_log (n : Nat) : n < 2 ^ (n.log2 + 1) := Nat.lt_log2_self
/-- what a round of Euclid's way finds and leaves -/
structure Euc (a : BitVec 32) (u v x y : BitVec 64) : Prop where
  u0 : u ≠ 0
  v1 : 2 ≤ v.toNat
  u33 : u.toNat < 8589934592
  v33 : v.toNat < 8589934592
  one : u.toNat < 4294967296 ∨ v.toNat < 4294967296
  xb : x.toNat * 2 ^ v.toNat.log2 < 8589934592
  yb : y.toNat * 2 ^ u.toNat.log2 < 8589934592
  whole : cl x v 64 ^^^ cl y u 64 = modulus
  ru : rst u = mul a (rst x)
  rv : rst v = mul a (rst y)
theorem Euc.swap {a : BitVec 32} {u v x y : BitVec 64} (h : Euc a u v x y) (hu : 2 ≤ u.toNat) : Euc a v u y x :=
  ⟨fun e => by have := h.v1; rw [e] at this; simp at this, hu, h.v33, h.u33, h.one.symm, h.yb, h.xb, by rw [BitVec.xor_comm]; exact h.whole, h.rv, h.ru⟩
theorem Euc.start {a : BitVec 32} (ha : a ≠ 0) : Euc a (a.setWidth 64) modulus 1 0 := by
  have hlt := a.isLt
  have e : (a.setWidth 64).toNat = a.toNat := by rw [BitVec.toNat_setWidth]; omega
  have e1 : (1 : BitVec 64).toNat = 1 := rfl
  have hm : modulus.toNat = 4294967437 := rfl
  have hl : (4294967437 : Nat).log2 = 32 := by decide +kernel
  refine ⟨fun h => ha ?_, by rw [hm]; omega, by omega, by rw [hm]; omega, .inl (by omega), ?_, ?_, ?_, ?_, ?_⟩
  · apply BitVec.eq_of_toNat_eq
    rw [← e, h]
    rfl
  · rw [hm, hl, e1]; decide
  · show 0 * _ < _
    rw [Nat.zero_mul]; decide
  · have h1 : cl 1 modulus 64 = modulus := by decide +kernel
    have h2 : cl 0 (a.setWidth 64) 64 = 0 := (lin_cl_left (a.setWidth 64) 64).zero
    rw [h1, h2]
    exact BitVec.xor_zero
  · have h1 : rst 1 = 1 := by decide +kernel
    rw [h1, mul_one]
    exact rst_low a
  · rw [lin_rst.zero, mul_zero]
    exact rst_modulus
theorem Euc.step {a : BitVec 32} {u v x y : BitVec 64} (h : Euc a u v x y) (hd : v.toNat.log2 ≤ u.toNat.log2) :
    Euc a (u ^^^ v <<< (u.toNat.log2 - v.toNat.log2)) v (x ^^^ y <<< (u.toNat.log2 - v.toNat.log2)) y ∧ (u ^^^ v <<< (u.toNat.log2 - v.toNat.log2)).toNat < u.toNat := by
  obtain ⟨u0, v1, u33, v33, one, xb, yb, whole, ru, rv⟩ := h
  have hu0 : u.toNat ≠ 0 := fun e => u0 (BitVec.eq_of_toNat_eq e)
  have hv0 : v.toNat ≠ 0 := by omega
  generalize hk : u.toNat.log2 - v.toNat.log2 = k
  generalize hdu : u.toNat.log2 = du at *
  generalize hdv : v.toNat.log2 = dv at *
  have hle : du = dv + k := by omega
  have lu1 := log_le hu0
  have lu2 := lt_log u.toNat
  have lv1 := log_le hv0
  have lv2 := lt_log v.toNat
  rw [hdu] at lu1 lu2
  rw [hdv] at lv1 lv2
  have hdu33 : du < 33 := by
    rcases Nat.lt_or_ge du 33 with h | h
    · exact h
    · have := Nat.pow_le_pow_right (n := 2) (by omega) h
      have e : (2 : Nat) ^ 33 = 8589934592 := by decide
      omega
  have hdv1 : 1 ≤ dv := by
    rcases Nat.eq_zero_or_pos dv with h | h
    · rw [h] at lv2; simp at lv2; omega
    · exact h
  have p33 : 2 ^ (du + 1) ≤ 8589934592 := by
    have := Nat.pow_le_pow_right (n := 2) (by omega) (show du + 1 ≤ 33 by omega)
    have e : (2 : Nat) ^ 33 = 8589934592 := by decide
    omega
  have hvk1 : 2 ^ du ≤ v.toNat * 2 ^ k := by rw [hle, Nat.pow_add]; exact Nat.mul_le_mul_right _ lv1
  have hvk2 : v.toNat * 2 ^ k < 2 ^ (du + 1) := by
    rw [show du + 1 = (dv + 1) + k from by omega, Nat.pow_add]
    exact Nat.mul_lt_mul_of_pos_right lv2 (Nat.pow_pos (by omega))
  have hvs := shl_toNat v k (by omega)
  have hyk : y.toNat * 2 ^ k * 2 ^ dv < 8589934592 := by
    rw [Nat.mul_assoc, ← Nat.pow_add, Nat.add_comm k, ← hle]; exact yb
  have hpd : 0 < 2 ^ dv := Nat.pow_pos (by omega)
  have hyk' : y.toNat * 2 ^ k < 8589934592 := Nat.lt_of_le_of_lt (Nat.le_mul_of_pos_right _ hpd) hyk
  have hys := shl_toNat y k (by omega)
  have hlt : (u ^^^ v <<< k).toNat < 2 ^ du := by
    rw [BitVec.toNat_xor, hvs]
    exact xor_top lu1 lu2 hvk1 hvk2
  have hdv33 : dv ≤ 33 := by omega
  have e33 : ∀ z : Nat, z * 2 ^ dv < 8589934592 ↔ z < 2 ^ (33 - dv) := fun z => by
    have : (8589934592 : Nat) = 2 ^ (33 - dv) * 2 ^ dv := by rw [← Nat.pow_add, show 33 - dv + dv = 33 from by omega]
    rw [this]
    exact Nat.mul_lt_mul_right hpd
  have hxb : (x ^^^ y <<< k).toNat * 2 ^ dv < 8589934592 := by
    rw [e33, BitVec.toNat_xor, hys]
    exact Nat.xor_lt_two_pow ((e33 _).1 xb) ((e33 _).1 hyk)
  have hwhole : cl (x ^^^ y <<< k) v 64 ^^^ cl y (u ^^^ v <<< k) 64 = modulus := by
    have h1 : cl (x ^^^ y <<< k) v 64 = cl x v 64 ^^^ cl (y <<< k) v 64 := lin_cl_left v 64 _ _
    have h2 : cl y (u ^^^ v <<< k) 64 = cl y u 64 ^^^ cl y (v <<< k) 64 := lin_cl_right y 64 _ _
    have e : ∀ p q r : BitVec 64, (p ^^^ q) ^^^ (r ^^^ q) = (p ^^^ r) ^^^ (q ^^^ q) := fun p q r => by ac_rfl
    rw [h1, h2, cl_shl, e, BitVec.xor_self, BitVec.xor_zero, whole]
  have hu1 : u ^^^ v <<< k ≠ 0 := by
    intro e
    rw [e] at hwhole
    have hz : cl y 0 64 = 0 := (lin_cl_right y 64).zero
    rw [hz, show cl (x ^^^ y <<< k) v 64 ^^^ (0 : BitVec 64) = cl (x ^^^ y <<< k) v 64 from BitVec.xor_zero] at hwhole
    have hdv31 : dv ≤ 31 := by
      rcases one with o | o
      · rcases Nat.lt_or_ge du 32 with h | h
        · omega
        · have := Nat.pow_le_pow_right (n := 2) (by omega) h
          have e : (2 : Nat) ^ 32 = 4294967296 := by decide
          omega
      · rcases Nat.lt_or_ge dv 32 with h | h
        · omega
        · have := Nat.pow_le_pow_right (n := 2) (by omega) h
          have e : (2 : Nat) ^ 32 = 4294967296 := by decide
          omega
    have hv32 : v.toNat < 4294967296 := by
      have := Nat.pow_le_pow_right (n := 2) (by omega) (show dv + 1 ≤ 32 by omega)
      have e : (2 : Nat) ^ 32 = 4294967296 := by decide
      omega
    have hx32 : (x ^^^ y <<< k).toNat < 4294967296 := by
      have h2 : 2 ^ 1 ≤ 2 ^ dv := Nat.pow_le_pow_right (by omega) hdv1
      have := Nat.mul_le_mul_left (x ^^^ y <<< k).toNat h2
      omega
    generalize x ^^^ y <<< k = z at hwhole hx32
    have hc := rst_cl (z.setWidth 32) (v.setWidth 32)
    rw [back32 z hx32, back32 v hv32, hwhole, rst_modulus] at hc
    rcases no_divisors hc.symm with h | h
    · have : z = 0 := by rw [← back32 z hx32, h]; rfl
      rw [this, show cl 0 v 64 = 0 from (lin_cl_left v 64).zero] at hwhole
      exact absurd hwhole (by decide +kernel)
    · have : v = 0 := by rw [← back32 v hv32, h]; rfl
      rw [this] at hv0
      exact hv0 rfl
  have hltu : (u ^^^ v <<< k).toNat < u.toNat := Nat.lt_of_lt_of_le hlt lu1
  refine ⟨⟨hu1, v1, by omega, v33, ?_, by rw [hdv]; exact hxb, ?_, hwhole, ?_, rv⟩, hltu⟩
  · rcases one with o | o
    · exact .inl (by omega)
    · exact .inr o
  · have hn0 : (u ^^^ v <<< k).toNat ≠ 0 := fun e => hu1 (BitVec.eq_of_toNat_eq e)
    have : (u ^^^ v <<< k).toNat.log2 ≤ du := by
      have := (Nat.log2_lt hn0).2 hlt
      omega
    exact Nat.lt_of_le_of_lt (Nat.mul_le_mul_left _ (Nat.pow_le_pow_right (by omega) this)) yb
  · rw [lin_rst, lin_rst, ru, rst_shl v k (by omega), rst_shl y k (by omega), mul_xor, mul_dbl, rv]
theorem Euc.ends {a : BitVec 32} {u v x y : BitVec 64} (h : Euc a u v x y) (ha : a ≠ 0) (hu : u.toNat < 2) : rst x = inv a := by
  have e : u = 1 := by
    apply BitVec.eq_of_toNat_eq
    have h0 : u.toNat ≠ 0 := fun e => h.u0 (BitVec.eq_of_toNat_eq e)
    show u.toNat = 1
    omega
  have hr := h.ru
  rw [e, show rst 1 = 1 from by decide +kernel] at hr
  rw [← one_mul (rst x), ← mul_inv ha, mul_comm a, mul_assoc, ← hr, mul_one]
end Go.Proofs.Ytlackhjlnoefcaa.Gf
