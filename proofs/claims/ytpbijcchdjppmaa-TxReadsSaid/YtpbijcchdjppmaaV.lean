/- More rules of the walk for unsigned integers. Nothing of the program. -/
import Derived.Test.YtpbijcchdjppmaaU
namespace Go.Proofs.Ytpbijcchdjppmaa
open Go
section
variable (t : TypeId)
@[go_sem high] theorem u64_mul_vl (y : BitVec 64) (n : Nat) : binOp .mul t (.int .u64 (nb64 y)) (.int .u64 (no_index (OfNat.ofNat n))) = pure (.int .u64 (nb64 (y * BitVec.ofNat 64 n))) := by
  rw [binOp_mul]; show pure (Value.int .u64 (IntKind.u64.wrap (nb64 y * (n : Int)))) = _
  congr 2
  have e : (y * BitVec.ofNat 64 n).toNat = (y.toNat * n) % 2 ^ 64 := by rw [BitVec.toNat_mul, BitVec.toNat_ofNat, Nat.mul_mod_mod]
  rw [IntKind.wrap_u64]
  show ((y.toNat : Nat) : Int) * (n : Int) % _ = (((y * BitVec.ofNat 64 n).toNat : Nat) : Int)
  rw [e]
  rfl
@[go_sem high] theorem u32_sub_lv (y : BitVec 32) (n : Nat) : binOp .sub t (.int .u32 (no_index (OfNat.ofNat n))) (.int .u32 (nb32 y)) = pure (.int .u32 (nb32 (BitVec.ofNat 32 n - y))) := by
  rw [binOp_sub]; show pure (Value.int .u32 (IntKind.u32.wrap ((n : Int) - nb32 y))) = _
  congr 2
  rw [IntKind.wrap_u32']
  have e : (BitVec.ofNat 32 n - y).toNat = (2 ^ 32 - y.toNat + n % 2 ^ 32) % 2 ^ 32 := by rw [BitVec.toNat_sub, BitVec.toNat_ofNat]
  have hy := y.isLt
  show ((n : Int) - ((y.toNat : Nat) : Int)) % _ = (((BitVec.ofNat 32 n - y).toNat : Nat) : Int)
  rw [e]
  omega
@[go_sem high] theorem u64_add_l (x : BitVec 64) (n : Nat) : binOp .add t (.int .u64 (nb64 x)) (.int .u64 (no_index (OfNat.ofNat n))) = pure (.int .u64 (nb64 (x + BitVec.ofNat 64 n))) := by
  rw [binOp_add]; show pure (Value.int .u64 (IntKind.u64.wrap (nb64 x + (n : Int)))) = _
  congr 2
  rw [IntKind.wrap_u64]
  have e : (x + BitVec.ofNat 64 n).toNat = (x.toNat + n) % 2 ^ 64 := by rw [BitVec.toNat_add, BitVec.toNat_ofNat, Nat.add_mod_mod]
  show (((x.toNat : Nat) : Int) + (n : Int)) % _ = (((x + BitVec.ofNat 64 n).toNat : Nat) : Int)
  rw [e]
  rfl
end
@[go_sem high] theorem u8_to_u64 (x : BitVec 8) : IntKind.u64.wrap (nb8 x) = nb64 (x.setWidth 64) := by
  rw [IntKind.wrap_u64]; simp only [nb8, nb64, BitVec.toNat_setWidth]; have := x.isLt; omega
@[go_sem high] theorem u64_to_u8 (x : BitVec 64) : IntKind.u8.wrap (nb64 x) = nb8 (x.setWidth 8) := by
  rw [IntKind.wrap_u8]; simp only [nb8, nb64, BitVec.toNat_setWidth]; have := x.isLt; omega
theorem nat_to_u64 (r : Nat) : IntKind.u64.wrap (r : Int) = nb64 (BitVec.ofNat 64 r) := by
  rw [IntKind.wrap_u64]; simp only [nb64, BitVec.toNat_ofNat]; omega
end Go.Proofs.Ytpbijcchdjppmaa
