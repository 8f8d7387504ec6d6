/- Unsigned machine integers as bit vectors: a wrapper for the value and the walk's rules over it. Nothing of the program. -/
import Derived.WalkKit
namespace Go.Proofs.Ytpbijcchdjppmaa
open Go

/-- the number of a bit vector, closed to the walk -/
def nb8 (x : BitVec 8) : Int := x.toNat
def nb32 (x : BitVec 32) : Int := x.toNat
def nb64 (x : BitVec 64) : Int := x.toNat

theorem u32_wf (x : BitVec 32) : (Lit.int .u32 (nb32 x)).wf = true := by
  have := x.isLt
  simp [Lit.wf, nb32, IntKind.min, IntKind.max, IntKind.bits, IntKind.signed]
  omega

theorem u32_of_bounds {a : Int} (h0 : 0 ≤ a) (h1 : a < 4294967296) : ∃ x : BitVec 32, a = nb32 x := by
  obtain ⟨n, rfl⟩ := Int.eq_ofNat_of_zero_le h0
  exact ⟨BitVec.ofNat 32 n, by simp only [nb32, BitVec.toNat_ofNat]; omega⟩
theorem u64_of_bounds {a : Int} (h0 : 0 ≤ a) (h1 : a < 18446744073709551616) : ∃ x : BitVec 64, a = nb64 x := by
  obtain ⟨n, rfl⟩ := Int.eq_ofNat_of_zero_le h0
  exact ⟨BitVec.ofNat 64 n, by simp only [nb64, BitVec.toNat_ofNat]; omega⟩

@[go_sem] theorem u32_toNat (x : BitVec 32) : (nb32 x).toNat = x.toNat := rfl
@[go_sem] theorem u64_toNat (x : BitVec 64) : (nb64 x).toNat = x.toNat := rfl
theorem u32_nonneg (x : BitVec 32) : 0 ≤ nb32 x := by simp [nb32]
theorem u32_lt (x : BitVec 32) : nb32 x < 4294967296 := by have := x.isLt; simp only [nb32]; omega
theorem u64_nonneg (x : BitVec 64) : 0 ≤ nb64 x := by simp [nb64]
theorem u64_lt (x : BitVec 64) : nb64 x < 18446744073709551616 := by have := x.isLt; simp only [nb64]; omega

theorem u32_inj {x y : BitVec 32} : nb32 x = nb32 y ↔ x = y := by
  simp only [nb32, Int.natCast_inj, BitVec.toNat_inj]
theorem u64_inj {x y : BitVec 64} : nb64 x = nb64 y ↔ x = y := by
  simp only [nb64, Int.natCast_inj, BitVec.toNat_inj]

@[go_sem high] theorem u32_beq (x y : BitVec 32) : (nb32 x == nb32 y) = (x == y) := by
  rw [Bool.eq_iff_iff]; simp [u32_inj]
@[go_sem high] theorem u64_beq (x y : BitVec 64) : (nb64 x == nb64 y) = (x == y) := by
  rw [Bool.eq_iff_iff]; simp [u64_inj]
@[go_sem high] theorem u32_bne (x y : BitVec 32) : (nb32 x != nb32 y) = (x != y) := by simp only [bne, u32_beq]
@[go_sem high] theorem u64_bne (x y : BitVec 64) : (nb64 x != nb64 y) = (x != y) := by simp only [bne, u64_beq]

@[go_sem high] theorem u32_beq_l (x : BitVec 32) (n : Nat) (h : n < 4294967296) : (nb32 x == (no_index (OfNat.ofNat n) : Int)) = (x == BitVec.ofNat 32 n) := by
  have e : ((OfNat.ofNat n : Int)) = nb32 (BitVec.ofNat 32 n) := by simp only [nb32, BitVec.toNat_ofNat]; show (n : Int) = _; omega
  rw [e, u32_beq]
@[go_sem high] theorem u64_beq_l (x : BitVec 64) (n : Nat) (h : n < 18446744073709551616) : (nb64 x == (no_index (OfNat.ofNat n) : Int)) = (x == BitVec.ofNat 64 n) := by
  have e : ((OfNat.ofNat n : Int)) = nb64 (BitVec.ofNat 64 n) := by simp only [nb64, BitVec.toNat_ofNat]; show (n : Int) = _; omega
  rw [e, u64_beq]
@[go_sem high] theorem u32_bne_l (x : BitVec 32) (n : Nat) (h : n < 4294967296) : (nb32 x != (no_index (OfNat.ofNat n) : Int)) = (x != BitVec.ofNat 32 n) := by simp only [bne, u32_beq_l x n h]
@[go_sem high] theorem u64_bne_l (x : BitVec 64) (n : Nat) (h : n < 18446744073709551616) : (nb64 x != (no_index (OfNat.ofNat n) : Int)) = (x != BitVec.ofNat 64 n) := by simp only [bne, u64_beq_l x n h]
@[go_sem high] theorem u32_pos (x : BitVec 32) : (0 < nb32 x) = (x ≠ 0#32) := by
  rw [Ne, ← u32_inj]; simp only [nb32, BitVec.toNat_ofNat, eq_iff_iff]; omega
@[go_sem high] theorem u64_pos (x : BitVec 64) : (0 < nb64 x) = (x ≠ 0#64) := by
  rw [Ne, ← u64_inj]; simp only [nb64, BitVec.toNat_ofNat, eq_iff_iff]; omega
theorem u32_lit (n : Nat) (h : n < 4294967296) : (n : Int) = nb32 (BitVec.ofNat 32 n) := by
  simp only [nb32, BitVec.toNat_ofNat]; omega
theorem u64_lit (n : Nat) (h : n < 18446744073709551616) : (n : Int) = nb64 (BitVec.ofNat 64 n) := by
  simp only [nb64, BitVec.toNat_ofNat]; omega

section
variable (t : TypeId)
theorem ofInt_u32v (x : BitVec 32) : BitVec.ofInt 32 (nb32 x) = x := by
  simp only [nb32, BitVec.ofInt_natCast, BitVec.ofNat_toNat, BitVec.setWidth_eq]
theorem ofInt_u64v (x : BitVec 64) : BitVec.ofInt 64 (nb64 x) = x := by
  simp only [nb64, BitVec.ofInt_natCast, BitVec.ofNat_toNat, BitVec.setWidth_eq]
theorem wrap_u32v (x : BitVec 32) : IntKind.u32.wrap (x.toNat : Int) = nb32 x := by
  have := x.isLt
  rw [IntKind.wrap_u32']; simp only [nb32]; omega
theorem wrap_u64v (x : BitVec 64) : IntKind.u64.wrap (x.toNat : Int) = nb64 x := by
  have := x.isLt
  rw [IntKind.wrap_u64]; simp only [nb64]; omega

@[go_sem high] theorem u32_xor_v (x y : BitVec 32) : binOp .xor t (.int .u32 (nb32 x)) (.int .u32 (nb32 y)) = pure (.int .u32 (nb32 (x ^^^ y))) := by
  rw [binOp_xor, intBits_xor]; show pure (Value.int .u32 (IntKind.u32.wrap (((BitVec.ofInt 32 (nb32 x) ^^^ BitVec.ofInt 32 (nb32 y)).toNat : Nat) : Int))) = _
  rw [ofInt_u32v, ofInt_u32v, wrap_u32v]
@[go_sem high] theorem u32_and_v (x y : BitVec 32) : binOp .and t (.int .u32 (nb32 x)) (.int .u32 (nb32 y)) = pure (.int .u32 (nb32 (x &&& y))) := by
  rw [binOp_and, intBits_and]; show pure (Value.int .u32 (IntKind.u32.wrap (((BitVec.ofInt 32 (nb32 x) &&& BitVec.ofInt 32 (nb32 y)).toNat : Nat) : Int))) = _
  rw [ofInt_u32v, ofInt_u32v, wrap_u32v]
@[go_sem high] theorem u32_or_v (x y : BitVec 32) : binOp .or t (.int .u32 (nb32 x)) (.int .u32 (nb32 y)) = pure (.int .u32 (nb32 (x ||| y))) := by
  rw [binOp_or, intBits_or]; show pure (Value.int .u32 (IntKind.u32.wrap (((BitVec.ofInt 32 (nb32 x) ||| BitVec.ofInt 32 (nb32 y)).toNat : Nat) : Int))) = _
  rw [ofInt_u32v, ofInt_u32v, wrap_u32v]
@[go_sem high] theorem u64_xor_v (x y : BitVec 64) : binOp .xor t (.int .u64 (nb64 x)) (.int .u64 (nb64 y)) = pure (.int .u64 (nb64 (x ^^^ y))) := by
  rw [binOp_xor, intBits_xor]; show pure (Value.int .u64 (IntKind.u64.wrap (((BitVec.ofInt 64 (nb64 x) ^^^ BitVec.ofInt 64 (nb64 y)).toNat : Nat) : Int))) = _
  rw [ofInt_u64v, ofInt_u64v, wrap_u64v]
@[go_sem high] theorem u64_and_v (x y : BitVec 64) : binOp .and t (.int .u64 (nb64 x)) (.int .u64 (nb64 y)) = pure (.int .u64 (nb64 (x &&& y))) := by
  rw [binOp_and, intBits_and]; show pure (Value.int .u64 (IntKind.u64.wrap (((BitVec.ofInt 64 (nb64 x) &&& BitVec.ofInt 64 (nb64 y)).toNat : Nat) : Int))) = _
  rw [ofInt_u64v, ofInt_u64v, wrap_u64v]
@[go_sem high] theorem u64_or_v (x y : BitVec 64) : binOp .or t (.int .u64 (nb64 x)) (.int .u64 (nb64 y)) = pure (.int .u64 (nb64 (x ||| y))) := by
  rw [binOp_or, intBits_or]; show pure (Value.int .u64 (IntKind.u64.wrap (((BitVec.ofInt 64 (nb64 x) ||| BitVec.ofInt 64 (nb64 y)).toNat : Nat) : Int))) = _
  rw [ofInt_u64v, ofInt_u64v, wrap_u64v]
end

section
variable (t : TypeId)
theorem ofInt_nat (k n : Nat) : BitVec.ofInt k (n : Int) = BitVec.ofNat k n := by rw [BitVec.ofInt_natCast]
theorem lit_nat (n : Nat) : (no_index (OfNat.ofNat n) : Int) = (n : Int) := rfl
@[go_sem high] theorem u32_xor_l (x : BitVec 32) (n : Nat) : binOp .xor t (.int .u32 (nb32 x)) (.int .u32 (no_index (OfNat.ofNat n))) = pure (.int .u32 (nb32 (x ^^^ BitVec.ofNat 32 n))) := by
  rw [binOp_xor, intBits_xor]; show pure (Value.int .u32 (IntKind.u32.wrap (((BitVec.ofInt 32 (nb32 x) ^^^ BitVec.ofInt 32 (n : Int)).toNat : Nat) : Int))) = _
  rw [ofInt_u32v, ofInt_nat, wrap_u32v]
@[go_sem high] theorem u32_and_l (x : BitVec 32) (n : Nat) : binOp .and t (.int .u32 (nb32 x)) (.int .u32 (no_index (OfNat.ofNat n))) = pure (.int .u32 (nb32 (x &&& BitVec.ofNat 32 n))) := by
  rw [binOp_and, intBits_and]; show pure (Value.int .u32 (IntKind.u32.wrap (((BitVec.ofInt 32 (nb32 x) &&& BitVec.ofInt 32 (n : Int)).toNat : Nat) : Int))) = _
  rw [ofInt_u32v, ofInt_nat, wrap_u32v]
@[go_sem high] theorem u32_andNot_l (x : BitVec 32) (n : Nat) : binOp .andNot t (.int .u32 (nb32 x)) (.int .u32 (no_index (OfNat.ofNat n))) = pure (.int .u32 (nb32 (x &&& ~~~(BitVec.ofNat 32 n)))) := by
  rw [binOp_andNot]; show pure (Value.int .u32 (IntKind.u32.wrap (((BitVec.ofInt 32 (nb32 x) &&& ~~~(BitVec.ofInt 32 (n : Int))).toNat : Nat) : Int))) = _
  rw [ofInt_u32v, ofInt_nat, wrap_u32v]
@[go_sem high] theorem u64_xor_l (x : BitVec 64) (n : Nat) : binOp .xor t (.int .u64 (nb64 x)) (.int .u64 (no_index (OfNat.ofNat n))) = pure (.int .u64 (nb64 (x ^^^ BitVec.ofNat 64 n))) := by
  rw [binOp_xor, intBits_xor]; show pure (Value.int .u64 (IntKind.u64.wrap (((BitVec.ofInt 64 (nb64 x) ^^^ BitVec.ofInt 64 (n : Int)).toNat : Nat) : Int))) = _
  rw [ofInt_u64v, ofInt_nat, wrap_u64v]
@[go_sem high] theorem u64_and_l (x : BitVec 64) (n : Nat) : binOp .and t (.int .u64 (nb64 x)) (.int .u64 (no_index (OfNat.ofNat n))) = pure (.int .u64 (nb64 (x &&& BitVec.ofNat 64 n))) := by
  rw [binOp_and, intBits_and]; show pure (Value.int .u64 (IntKind.u64.wrap (((BitVec.ofInt 64 (nb64 x) &&& BitVec.ofInt 64 (n : Int)).toNat : Nat) : Int))) = _
  rw [ofInt_u64v, ofInt_nat, wrap_u64v]
end

section
variable (t : TypeId)
@[go_sem high] theorem u64_add_v (x y : BitVec 64) : binOp .add t (.int .u64 (nb64 x)) (.int .u64 (nb64 y)) = pure (.int .u64 (nb64 (x + y))) := by
  rw [binOp_add]; show pure (Value.int .u64 (IntKind.u64.wrap (nb64 x + nb64 y))) = _
  congr 2
@[go_sem high] theorem u32_add_v (x y : BitVec 32) : binOp .add t (.int .u32 (nb32 x)) (.int .u32 (nb32 y)) = pure (.int .u32 (nb32 (x + y))) := by
  rw [binOp_add]; show pure (Value.int .u32 (IntKind.u32.wrap (nb32 x + nb32 y))) = _
  congr 2
@[go_sem high] theorem u64_mul_lv (y : BitVec 64) (n : Nat) : binOp .mul t (.int .u64 (no_index (OfNat.ofNat n))) (.int .u64 (nb64 y)) = pure (.int .u64 (nb64 (BitVec.ofNat 64 n * y))) := by
  rw [binOp_mul]; show pure (Value.int .u64 (IntKind.u64.wrap ((n : Int) * nb64 y))) = _
  congr 2
  have e : (BitVec.ofNat 64 n * y).toNat = (n * y.toNat) % 2 ^ 64 := by rw [BitVec.toNat_mul, BitVec.toNat_ofNat, Nat.mod_mul_mod]
  rw [IntKind.wrap_u64]
  show (n : Int) * ((y.toNat : Nat) : Int) % _ = (((BitVec.ofNat 64 n * y).toNat : Nat) : Int)
  rw [e]
  rfl
@[go_sem high] theorem u32_sub_v (x y : BitVec 32) : binOp .sub t (.int .u32 (nb32 x)) (.int .u32 (nb32 y)) = pure (.int .u32 (nb32 (x - y))) := by
  rw [binOp_sub]; show pure (Value.int .u32 (IntKind.u32.wrap (nb32 x - nb32 y))) = _
  congr 2
  rw [IntKind.wrap_u32']
  simp only [nb32, BitVec.toNat_sub]
  have := x.isLt
  have := y.isLt
  omega
end

/-! shifts -/
theorem shl_nat (k x n : Nat) : (x * 2 ^ (min n k)) % 2 ^ k = (x <<< n) % 2 ^ k := by
  rw [Nat.shiftLeft_eq]
  rcases Nat.le_total n k with h | h
  · rw [Nat.min_eq_left h]
  · rw [Nat.min_eq_right h, Nat.mul_mod_left]
    obtain ⟨d, rfl⟩ := Nat.exists_eq_add_of_le h
    rw [Nat.pow_add, ← Nat.mul_assoc, Nat.mul_right_comm, Nat.mul_mod_left]
theorem shr_nat (k x n : Nat) (hx : x < 2 ^ k) : x / 2 ^ (min n k) = x >>> n := by
  rw [Nat.shiftRight_eq_div_pow]
  rcases Nat.le_total n k with h | h
  · rw [Nat.min_eq_left h]
  · rw [Nat.min_eq_right h, Nat.div_eq_of_lt hx, Nat.div_eq_of_lt (Nat.lt_of_lt_of_le hx (Nat.pow_le_pow_right (by omega) h))]

theorem shl_int (x k m : Nat) : (((x : Nat) : Int) * 2 ^ k) % ((m : Nat) : Int) = ((x * 2 ^ k % m : Nat) : Int) := by norm_cast
theorem shr_int (x k : Nat) : ((x : Nat) : Int).fdiv (2 ^ k) = ((x / 2 ^ k : Nat) : Int) := by
  rw [Int.fdiv_eq_ediv_of_nonneg _ (Int.le_of_lt (Int.pow_pos (by omega)))]
  norm_cast
theorem emod_mul_left (c x m : Int) : (c % m * x) % m = (c * x) % m := by
  rw [Int.mul_emod, Int.emod_emod_of_dvd _ (Int.dvd_refl m), ← Int.mul_emod]
section
variable (t : TypeId) (yk : IntKind)
theorem u32_shl_n (x : BitVec 32) (n : Nat) : binOp .shl t (.int .u32 (nb32 x)) (.int yk (n : Int)) = pure (.int .u32 (nb32 (x <<< n))) := by
  have h := shl_nat 32 x.toNat n
  have hn : ¬ ((n : Int) < 0) := by omega
  rw [binOp_shl]; unfold Op.shift; rw [if_neg hn, Int.toNat_natCast]
  show pure (Value.int .u32 (IntKind.u32.wrap (nb32 x * 2 ^ (min n 32)))) = _
  congr 2
  rw [IntKind.wrap_u32', show nb32 (x <<< n) = ((x.toNat <<< n % 2 ^ 32 : Nat) : Int) from by simp only [nb32, BitVec.toNat_shiftLeft], ← h]
  exact shl_int x.toNat (min n 32) _
theorem u64_shl_n (x : BitVec 64) (n : Nat) : binOp .shl t (.int .u64 (nb64 x)) (.int yk (n : Int)) = pure (.int .u64 (nb64 (x <<< n))) := by
  have h := shl_nat 64 x.toNat n
  have hn : ¬ ((n : Int) < 0) := by omega
  rw [binOp_shl]; unfold Op.shift; rw [if_neg hn, Int.toNat_natCast]
  show pure (Value.int .u64 (IntKind.u64.wrap (nb64 x * 2 ^ (min n 64)))) = _
  congr 2
  rw [IntKind.wrap_u64, show nb64 (x <<< n) = ((x.toNat <<< n % 2 ^ 64 : Nat) : Int) from by simp only [nb64, BitVec.toNat_shiftLeft], ← h]
  exact shl_int x.toNat (min n 64) _
theorem u32_shr_n (x : BitVec 32) (n : Nat) : binOp .shr t (.int .u32 (nb32 x)) (.int yk (n : Int)) = pure (.int .u32 (nb32 (x >>> n))) := by
  have h := shr_nat 32 x.toNat n x.isLt
  have hn : ¬ ((n : Int) < 0) := by omega
  rw [binOp_shr]; unfold Op.shift; rw [if_neg hn, Int.toNat_natCast]
  show pure (Value.int .u32 ((nb32 x).fdiv (2 ^ (min n 32)))) = _
  congr 2
  rw [show nb32 (x >>> n) = ((x.toNat >>> n : Nat) : Int) from by simp only [nb32, BitVec.toNat_ushiftRight], ← h]
  exact shr_int x.toNat (min n 32)
theorem u64_shr_n (x : BitVec 64) (n : Nat) : binOp .shr t (.int .u64 (nb64 x)) (.int yk (n : Int)) = pure (.int .u64 (nb64 (x >>> n))) := by
  have h := shr_nat 64 x.toNat n x.isLt
  have hn : ¬ ((n : Int) < 0) := by omega
  rw [binOp_shr]; unfold Op.shift; rw [if_neg hn, Int.toNat_natCast]
  show pure (Value.int .u64 ((nb64 x).fdiv (2 ^ (min n 64)))) = _
  congr 2
  rw [show nb64 (x >>> n) = ((x.toNat >>> n : Nat) : Int) from by simp only [nb64, BitVec.toNat_ushiftRight], ← h]
  exact shr_int x.toNat (min n 64)
attribute [go_sem high] u32_shl_n u64_shl_n u32_shr_n u64_shr_n
@[go_sem high] theorem u32_shl_l (x : BitVec 32) (n : Nat) : binOp .shl t (.int .u32 (nb32 x)) (.int yk (no_index (OfNat.ofNat n))) = pure (.int .u32 (nb32 (x <<< n))) := u32_shl_n t yk x n
@[go_sem high] theorem u64_shl_l (x : BitVec 64) (n : Nat) : binOp .shl t (.int .u64 (nb64 x)) (.int yk (no_index (OfNat.ofNat n))) = pure (.int .u64 (nb64 (x <<< n))) := u64_shl_n t yk x n
@[go_sem high] theorem u32_shr_l (x : BitVec 32) (n : Nat) : binOp .shr t (.int .u32 (nb32 x)) (.int yk (no_index (OfNat.ofNat n))) = pure (.int .u32 (nb32 (x >>> n))) := u32_shr_n t yk x n
@[go_sem high] theorem u64_shr_l (x : BitVec 64) (n : Nat) : binOp .shr t (.int .u64 (nb64 x)) (.int yk (no_index (OfNat.ofNat n))) = pure (.int .u64 (nb64 (x >>> n))) := u64_shr_n t yk x n

@[go_sem high] theorem u64_shl_cn (c n : Nat) : binOp .shl t (.int .u64 (no_index (OfNat.ofNat c))) (.int yk (n : Int)) = pure (.int .u64 (nb64 (BitVec.ofNat 64 c <<< n))) := by
  have hn : ¬ ((n : Int) < 0) := by omega
  rw [← u64_shl_n t yk (BitVec.ofNat 64 c) n, binOp_shl, binOp_shl]; unfold Op.shift; rw [if_neg hn, if_neg hn]
  show pure (Value.int .u64 (IntKind.u64.wrap (((c : Nat) : Int) * 2 ^ (min (n : Int).toNat 64)))) = pure (Value.int .u64 (IntKind.u64.wrap (nb64 (BitVec.ofNat 64 c) * 2 ^ (min (n : Int).toNat 64))))
  rw [IntKind.wrap_u64, IntKind.wrap_u64]
  simp only [nb64, BitVec.toNat_ofNat]
  congr 2
  rw [Int.natCast_emod]
  exact (emod_mul_left _ _ _).symm
@[go_sem high] theorem u32_shl_cn (c n : Nat) : binOp .shl t (.int .u32 (no_index (OfNat.ofNat c))) (.int yk (n : Int)) = pure (.int .u32 (nb32 (BitVec.ofNat 32 c <<< n))) := by
  have hn : ¬ ((n : Int) < 0) := by omega
  rw [← u32_shl_n t yk (BitVec.ofNat 32 c) n, binOp_shl, binOp_shl]; unfold Op.shift; rw [if_neg hn, if_neg hn]
  show pure (Value.int .u32 (IntKind.u32.wrap (((c : Nat) : Int) * 2 ^ (min (n : Int).toNat 32)))) = pure (Value.int .u32 (IntKind.u32.wrap (nb32 (BitVec.ofNat 32 c) * 2 ^ (min (n : Int).toNat 32))))
  rw [IntKind.wrap_u32', IntKind.wrap_u32']
  simp only [nb32, BitVec.toNat_ofNat]
  congr 2
  rw [Int.natCast_emod]
  exact (emod_mul_left _ _ _).symm
theorem rem_nat (k : IntKind) (a b : Nat) (hb : b ≠ 0) : Op.intDiv .rem k (a : Int) (b : Int) = pure (.int k ((a % b : Nat) : Int)) := by
  unfold Op.intDiv
  rw [if_neg (by omega)]
  rfl
theorem quo_nat (k : IntKind) (a b : Nat) (hb : b ≠ 0) : Op.intDiv .quo k (a : Int) (b : Int) = pure (.int k (k.wrap ((a / b : Nat) : Int))) := by
  unfold Op.intDiv
  rw [if_neg (by omega)]
  rfl
@[go_sem high] theorem u32_rem_l (x : BitVec 32) (n : Nat) (h0 : n ≠ 0) (h : n < 4294967296) : binOp .rem t (.int .u32 (nb32 x)) (.int .u32 (no_index (OfNat.ofNat n))) = pure (.int .u32 (nb32 (x % BitVec.ofNat 32 n))) := by
  rw [binOp_rem]
  refine (rem_nat _ x.toNat n h0).trans ?_
  congr 2
  simp only [nb32, BitVec.toNat_umod, BitVec.toNat_ofNat]
  rw [Nat.mod_eq_of_lt (a := n) (by omega)]
@[go_sem high] theorem u64_rem_l (x : BitVec 64) (n : Nat) (h0 : n ≠ 0) (h : n < 18446744073709551616) : binOp .rem t (.int .u64 (nb64 x)) (.int .u64 (no_index (OfNat.ofNat n))) = pure (.int .u64 (nb64 (x % BitVec.ofNat 64 n))) := by
  rw [binOp_rem]
  refine (rem_nat _ x.toNat n h0).trans ?_
  congr 2
  simp only [nb64, BitVec.toNat_umod, BitVec.toNat_ofNat]
  rw [Nat.mod_eq_of_lt (a := n) (by omega)]
@[go_sem high] theorem u64_quo_l (x : BitVec 64) (n : Nat) (h0 : n ≠ 0) (h : n < 18446744073709551616) : binOp .quo t (.int .u64 (nb64 x)) (.int .u64 (no_index (OfNat.ofNat n))) = pure (.int .u64 (nb64 (x / BitVec.ofNat 64 n))) := by
  have hlt : x.toNat / n < 18446744073709551616 := Nat.lt_of_le_of_lt (Nat.div_le_self _ _) x.isLt
  rw [binOp_quo]
  refine (quo_nat _ x.toNat n h0).trans ?_
  congr 2
  rw [IntKind.wrap_u64]
  simp only [nb64, BitVec.toNat_udiv, BitVec.toNat_ofNat]
  rw [Nat.mod_eq_of_lt (a := n) (by omega)]
  generalize x.toNat / n = q at hlt ⊢
  omega
/-- bit k, as the rest of a shifted number by two -/
theorem u32_bit (x : BitVec 32) (k : Nat) : ((x >>> k) % 2#32 == 1#32) = x.getLsbD k := by
  have e : (x >>> k) % 2#32 = 1#32 ↔ x.toNat.testBit k = true := by
    rw [← BitVec.toNat_inj, BitVec.toNat_umod, BitVec.toNat_ushiftRight, Nat.testBit, Nat.and_comm, Nat.and_one_is_mod, bne_iff_ne]
    simp only [BitVec.toNat_ofNat, Nat.reducePow, Nat.reduceMod]
    omega
  rw [Bool.eq_iff_iff, beq_iff_eq, e]; rfl
theorem u64_bit (x : BitVec 64) (k : Nat) : ((x >>> k) % 2#64 == 1#64) = x.getLsbD k := by
  have e : (x >>> k) % 2#64 = 1#64 ↔ x.toNat.testBit k = true := by
    rw [← BitVec.toNat_inj, BitVec.toNat_umod, BitVec.toNat_ushiftRight, Nat.testBit, Nat.and_comm, Nat.and_one_is_mod, bne_iff_ne]
    simp only [BitVec.toNat_ofNat, Nat.reducePow, Nat.reduceMod]
    omega
  rw [Bool.eq_iff_iff, beq_iff_eq, e]; rfl
@[go_sem high] theorem u32_neg (x : BitVec 32) : Op.unary .neg (.int .u32 (nb32 x)) = pure (.int .u32 (nb32 (-x))) := by
  show pure (Value.int .u32 (IntKind.u32.wrap (0 - nb32 x))) = _
  congr 2
  rw [IntKind.wrap_u32']
  simp only [nb32, BitVec.toNat_neg]
  have := x.isLt
  omega
@[go_sem high] theorem u32_to_u64 (x : BitVec 32) : IntKind.u64.wrap (nb32 x) = nb64 (x.setWidth 64) := by
  rw [IntKind.wrap_u64]; simp only [nb32, nb64, BitVec.toNat_setWidth]; have := x.isLt; omega
@[go_sem high] theorem u64_to_u32 (x : BitVec 64) : IntKind.u32.wrap (nb64 x) = nb32 (x.setWidth 32) := by
  rw [IntKind.wrap_u32']; simp only [nb32, nb64, BitVec.toNat_setWidth]; omega
end
end Go.Proofs.Ytpbijcchdjppmaa
