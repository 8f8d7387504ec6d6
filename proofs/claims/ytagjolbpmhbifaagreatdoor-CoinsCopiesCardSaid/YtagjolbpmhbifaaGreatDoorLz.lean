/- Unsigned machine integers as bit vectors: a wrapper for the value and the walk's rules over it. Nothing of the program. · Blocks of memory that are known whole. Nothing of the program. · Slices of integers that came in. Nothing of the program. · Slices of words that a call has made. Nothing of the program. · Slices of bytes: how they are read, appended to and turned into strings. Nothing of the program's own. · More rules of the walk for unsigned integers. Nothing of the program. · Digests: arrays of 32 bytes, and slices of them, that came in. · A table of words at package level: what a row's condition on it gives a walk. Nothing of the program. · A region that only reads, walked in a context of its own: what it makes of the frame is told first. Nothing of the program. · Arrays whole: read, stored, copied into. Nothing of the program but its types. · a drawn region, taken by hand: what is held may grow on the way · Slices of slices of bytes. Nothing of the program but its types. · A range over a function whose body is told what the iterator has just read. Nothing of the program. · A region that draws its order, within a round of a range over a function: its head only reads, its tail is forced. Nothing of the program. · A range over a function that writes blocks of its own; its body is never left early. Nothing of the program. · What a call may change: a set of blocks; appends that tell where the new slice lies. Nothing of the program. · Records of several cells: slices of them, how they are read, appended to, written. Nothing of the program. · Arrays of bytes compared. Nothing of the program. · Strings as lists of bytes: each is one, and which are the same. Nothing of the program. · A struct of one-cell fields that came in by value: the reading of each field. Nothing of the program. · a drawn region by hand: what is held is all but some blocks; stores of whole rows. Nothing of the program. · Slices of ints: how they are read and appended to, compared. Nothing of the program's own. · errors as numbers: gossamernum's Num and Is · append(own, make([]byte, m)...): zeros behind a slice of bytes that the call has made. Nothing of the program. · Slices of digests that are the call's own: what they hold, appended to; loads in a drawn region · []byte(s) of a string: the row that it answers, and an append to it. Nothing of the program. · A slice literal of one record. Nothing of the program. · A cell of a record written, in a slice of one's own. Nothing of the program. -/
import Derived.WalkKit
import Derived.Below
import Derived.Deep.Draws
import Derived.Deep.MidRow
import Derived.OpenShut
import Derived.ProofKit
import Derived.Deep.OwnRows
import Derived.Laws.CopyOwn
import Derived.Laws.OwnMore
import Derived.Test.YtagjolbpmhbifaaGreatDoorProg
import Derived.Laws.AppendOwnNone
import Derived.Maps.AppendAt
import Derived.Laws.BytesArg
import Derived.Laws.Concat
import Derived.Test.YtagjolbpmhbifaaGreatDoorRows
import Derived.Deep.Slices
import Derived.LaidMore
import Derived.MakeChecks
import Derived.StillTailTactics
import Derived.Deep.RegionHeld3
import Derived.RangeFuncNested
import Derived.RangeFuncBound
import Derived.RangeFuncCalls
import Derived.RangeFuncLeaves
import Derived.OrdersIn
import Derived.TacticsIn
import Derived.Lib.AppendStr
import Derived.Laws.StructEq
import Derived.Deep.Fields
import Derived.BigQuiet
import Derived.Deep.QuietTactic
import Derived.Lib.Hide
import Derived.Laws.AppendOwn
import Derived.Lib.AppendZeros
import Derived.Lib.ConvBytes
import Derived.Lib.FrozenHead
/-! Unsigned machine integers as bit vectors: a wrapper for the value and the walk's rules over it. Nothing of the program. -/
namespace Go.Proofs.YtagjolbpmhbifaaGreatDoor
open Go

/-- the number of a bit vector, closed to the walk -/
def nb8 (x : BitVec 8) : Int := x.toNat
def nb32 (x : BitVec 32) : Int := x.toNat
def nb64 (x : BitVec 64) : Int := x.toNat

theorem u32_wf (x : BitVec 32) : (Lit.int .u32 (nb32 x)).wf = true := by
  have := x.isLt
  simp [Lit.wf, nb32, IntKind.min, IntKind.max, IntKind.bits, IntKind.signed]
  omega

theorem u32_of_bounds {a : Int} (h0 : 0 ≤ a) (h1 : a < 4294967296) : ∃ x : BitVec 32, a = nb32 x := by
  obtain ⟨n, rfl⟩ := Int.eq_ofNat_of_zero_le h0
  exact ⟨BitVec.ofNat 32 n, by simp only [nb32, BitVec.toNat_ofNat]; omega⟩
theorem u64_of_bounds {a : Int} (h0 : 0 ≤ a) (h1 : a < 18446744073709551616) : ∃ x : BitVec 64, a = nb64 x := by
  obtain ⟨n, rfl⟩ := Int.eq_ofNat_of_zero_le h0
  exact ⟨BitVec.ofNat 64 n, by simp only [nb64, BitVec.toNat_ofNat]; omega⟩

@[go_sem] theorem u32_toNat (x : BitVec 32) : (nb32 x).toNat = x.toNat := rfl
@[go_sem] theorem u64_toNat (x : BitVec 64) : (nb64 x).toNat = x.toNat := rfl
theorem u32_nonneg (x : BitVec 32) : 0 ≤ nb32 x := by simp [nb32]
theorem u32_lt (x : BitVec 32) : nb32 x < 4294967296 := by have := x.isLt; simp only [nb32]; omega
theorem u64_nonneg (x : BitVec 64) : 0 ≤ nb64 x := by simp [nb64]
theorem u64_lt (x : BitVec 64) : nb64 x < 18446744073709551616 := by have := x.isLt; simp only [nb64]; omega

theorem u32_inj {x y : BitVec 32} : nb32 x = nb32 y ↔ x = y := by
  simp only [nb32, Int.natCast_inj, BitVec.toNat_inj]
theorem u64_inj {x y : BitVec 64} : nb64 x = nb64 y ↔ x = y := by
  simp only [nb64, Int.natCast_inj, BitVec.toNat_inj]

@[go_sem high] theorem u32_beq (x y : BitVec 32) : (nb32 x == nb32 y) = (x == y) := by
  rw [Bool.eq_iff_iff]; simp [u32_inj]
@[go_sem high] theorem u64_beq (x y : BitVec 64) : (nb64 x == nb64 y) = (x == y) := by
  rw [Bool.eq_iff_iff]; simp [u64_inj]
@[go_sem high] theorem u32_bne (x y : BitVec 32) : (nb32 x != nb32 y) = (x != y) := by simp only [bne, u32_beq]
@[go_sem high] theorem u64_bne (x y : BitVec 64) : (nb64 x != nb64 y) = (x != y) := by simp only [bne, u64_beq]

@[go_sem high] theorem u32_beq_l (x : BitVec 32) (n : Nat) (h : n < 4294967296) : (nb32 x == (no_index (OfNat.ofNat n) : Int)) = (x == BitVec.ofNat 32 n) := by
  have e : ((OfNat.ofNat n : Int)) = nb32 (BitVec.ofNat 32 n) := by simp only [nb32, BitVec.toNat_ofNat]; show (n : Int) = _; omega
  rw [e, u32_beq]
@[go_sem high] theorem u64_beq_l (x : BitVec 64) (n : Nat) (h : n < 18446744073709551616) : (nb64 x == (no_index (OfNat.ofNat n) : Int)) = (x == BitVec.ofNat 64 n) := by
  have e : ((OfNat.ofNat n : Int)) = nb64 (BitVec.ofNat 64 n) := by simp only [nb64, BitVec.toNat_ofNat]; show (n : Int) = _; omega
  rw [e, u64_beq]
@[go_sem high] theorem u32_bne_l (x : BitVec 32) (n : Nat) (h : n < 4294967296) : (nb32 x != (no_index (OfNat.ofNat n) : Int)) = (x != BitVec.ofNat 32 n) := by simp only [bne, u32_beq_l x n h]
@[go_sem high] theorem u64_bne_l (x : BitVec 64) (n : Nat) (h : n < 18446744073709551616) : (nb64 x != (no_index (OfNat.ofNat n) : Int)) = (x != BitVec.ofNat 64 n) := by simp only [bne, u64_beq_l x n h]
@[go_sem high] theorem u32_pos (x : BitVec 32) : (0 < nb32 x) = (x ≠ 0#32) := by
  rw [Ne, ← u32_inj]; simp only [nb32, BitVec.toNat_ofNat, eq_iff_iff]; omega
@[go_sem high] theorem u64_pos (x : BitVec 64) : (0 < nb64 x) = (x ≠ 0#64) := by
  rw [Ne, ← u64_inj]; simp only [nb64, BitVec.toNat_ofNat, eq_iff_iff]; omega
theorem u32_lit (n : Nat) (h : n < 4294967296) : (n : Int) = nb32 (BitVec.ofNat 32 n) := by
  simp only [nb32, BitVec.toNat_ofNat]; omega
theorem u64_lit (n : Nat) (h : n < 18446744073709551616) : (n : Int) = nb64 (BitVec.ofNat 64 n) := by
  simp only [nb64, BitVec.toNat_ofNat]; omega

section
variable (t : TypeId)
theorem ofInt_u32v (x : BitVec 32) : BitVec.ofInt 32 (nb32 x) = x := by
  simp only [nb32, BitVec.ofInt_natCast, BitVec.ofNat_toNat, BitVec.setWidth_eq]
theorem ofInt_u64v (x : BitVec 64) : BitVec.ofInt 64 (nb64 x) = x := by
  simp only [nb64, BitVec.ofInt_natCast, BitVec.ofNat_toNat, BitVec.setWidth_eq]
theorem wrap_u32v (x : BitVec 32) : IntKind.u32.wrap (x.toNat : Int) = nb32 x := by
  have := x.isLt
  rw [IntKind.wrap_u32']; simp only [nb32]; omega
theorem wrap_u64v (x : BitVec 64) : IntKind.u64.wrap (x.toNat : Int) = nb64 x := by
  have := x.isLt
  rw [IntKind.wrap_u64]; simp only [nb64]; omega

@[go_sem high] theorem u32_xor_v (x y : BitVec 32) : binOp .xor t (.int .u32 (nb32 x)) (.int .u32 (nb32 y)) = pure (.int .u32 (nb32 (x ^^^ y))) := by
  rw [binOp_xor, intBits_xor]; show pure (Value.int .u32 (IntKind.u32.wrap (((BitVec.ofInt 32 (nb32 x) ^^^ BitVec.ofInt 32 (nb32 y)).toNat : Nat) : Int))) = _
  rw [ofInt_u32v, ofInt_u32v, wrap_u32v]
@[go_sem high] theorem u32_and_v (x y : BitVec 32) : binOp .and t (.int .u32 (nb32 x)) (.int .u32 (nb32 y)) = pure (.int .u32 (nb32 (x &&& y))) := by
  rw [binOp_and, intBits_and]; show pure (Value.int .u32 (IntKind.u32.wrap (((BitVec.ofInt 32 (nb32 x) &&& BitVec.ofInt 32 (nb32 y)).toNat : Nat) : Int))) = _
  rw [ofInt_u32v, ofInt_u32v, wrap_u32v]
@[go_sem high] theorem u32_or_v (x y : BitVec 32) : binOp .or t (.int .u32 (nb32 x)) (.int .u32 (nb32 y)) = pure (.int .u32 (nb32 (x ||| y))) := by
  rw [binOp_or, intBits_or]; show pure (Value.int .u32 (IntKind.u32.wrap (((BitVec.ofInt 32 (nb32 x) ||| BitVec.ofInt 32 (nb32 y)).toNat : Nat) : Int))) = _
  rw [ofInt_u32v, ofInt_u32v, wrap_u32v]
@[go_sem high] theorem u64_xor_v (x y : BitVec 64) : binOp .xor t (.int .u64 (nb64 x)) (.int .u64 (nb64 y)) = pure (.int .u64 (nb64 (x ^^^ y))) := by
  rw [binOp_xor, intBits_xor]; show pure (Value.int .u64 (IntKind.u64.wrap (((BitVec.ofInt 64 (nb64 x) ^^^ BitVec.ofInt 64 (nb64 y)).toNat : Nat) : Int))) = _
  rw [ofInt_u64v, ofInt_u64v, wrap_u64v]
@[go_sem high] theorem u64_and_v (x y : BitVec 64) : binOp .and t (.int .u64 (nb64 x)) (.int .u64 (nb64 y)) = pure (.int .u64 (nb64 (x &&& y))) := by
  rw [binOp_and, intBits_and]; show pure (Value.int .u64 (IntKind.u64.wrap (((BitVec.ofInt 64 (nb64 x) &&& BitVec.ofInt 64 (nb64 y)).toNat : Nat) : Int))) = _
  rw [ofInt_u64v, ofInt_u64v, wrap_u64v]
@[go_sem high] theorem u64_or_v (x y : BitVec 64) : binOp .or t (.int .u64 (nb64 x)) (.int .u64 (nb64 y)) = pure (.int .u64 (nb64 (x ||| y))) := by
  rw [binOp_or, intBits_or]; show pure (Value.int .u64 (IntKind.u64.wrap (((BitVec.ofInt 64 (nb64 x) ||| BitVec.ofInt 64 (nb64 y)).toNat : Nat) : Int))) = _
  rw [ofInt_u64v, ofInt_u64v, wrap_u64v]
end

section
variable (t : TypeId)
theorem ofInt_nat (k n : Nat) : BitVec.ofInt k (n : Int) = BitVec.ofNat k n := by rw [BitVec.ofInt_natCast]
theorem lit_nat (n : Nat) : (no_index (OfNat.ofNat n) : Int) = (n : Int) := rfl
@[go_sem high] theorem u32_xor_l (x : BitVec 32) (n : Nat) : binOp .xor t (.int .u32 (nb32 x)) (.int .u32 (no_index (OfNat.ofNat n))) = pure (.int .u32 (nb32 (x ^^^ BitVec.ofNat 32 n))) := by
  rw [binOp_xor, intBits_xor]; show pure (Value.int .u32 (IntKind.u32.wrap (((BitVec.ofInt 32 (nb32 x) ^^^ BitVec.ofInt 32 (n : Int)).toNat : Nat) : Int))) = _
  rw [ofInt_u32v, ofInt_nat, wrap_u32v]
@[go_sem high] theorem u32_and_l (x : BitVec 32) (n : Nat) : binOp .and t (.int .u32 (nb32 x)) (.int .u32 (no_index (OfNat.ofNat n))) = pure (.int .u32 (nb32 (x &&& BitVec.ofNat 32 n))) := by
  rw [binOp_and, intBits_and]; show pure (Value.int .u32 (IntKind.u32.wrap (((BitVec.ofInt 32 (nb32 x) &&& BitVec.ofInt 32 (n : Int)).toNat : Nat) : Int))) = _
  rw [ofInt_u32v, ofInt_nat, wrap_u32v]
@[go_sem high] theorem u32_andNot_l (x : BitVec 32) (n : Nat) : binOp .andNot t (.int .u32 (nb32 x)) (.int .u32 (no_index (OfNat.ofNat n))) = pure (.int .u32 (nb32 (x &&& ~~~(BitVec.ofNat 32 n)))) := by
  rw [binOp_andNot]; show pure (Value.int .u32 (IntKind.u32.wrap (((BitVec.ofInt 32 (nb32 x) &&& ~~~(BitVec.ofInt 32 (n : Int))).toNat : Nat) : Int))) = _
  rw [ofInt_u32v, ofInt_nat, wrap_u32v]
@[go_sem high] theorem u64_xor_l (x : BitVec 64) (n : Nat) : binOp .xor t (.int .u64 (nb64 x)) (.int .u64 (no_index (OfNat.ofNat n))) = pure (.int .u64 (nb64 (x ^^^ BitVec.ofNat 64 n))) := by
  rw [binOp_xor, intBits_xor]; show pure (Value.int .u64 (IntKind.u64.wrap (((BitVec.ofInt 64 (nb64 x) ^^^ BitVec.ofInt 64 (n : Int)).toNat : Nat) : Int))) = _
  rw [ofInt_u64v, ofInt_nat, wrap_u64v]
@[go_sem high] theorem u64_and_l (x : BitVec 64) (n : Nat) : binOp .and t (.int .u64 (nb64 x)) (.int .u64 (no_index (OfNat.ofNat n))) = pure (.int .u64 (nb64 (x &&& BitVec.ofNat 64 n))) := by
  rw [binOp_and, intBits_and]; show pure (Value.int .u64 (IntKind.u64.wrap (((BitVec.ofInt 64 (nb64 x) &&& BitVec.ofInt 64 (n : Int)).toNat : Nat) : Int))) = _
  rw [ofInt_u64v, ofInt_nat, wrap_u64v]
end

section
variable (t : TypeId)
@[go_sem high] theorem u64_add_v (x y : BitVec 64) : binOp .add t (.int .u64 (nb64 x)) (.int .u64 (nb64 y)) = pure (.int .u64 (nb64 (x + y))) := by
  rw [binOp_add]; show pure (Value.int .u64 (IntKind.u64.wrap (nb64 x + nb64 y))) = _
  congr 2
@[go_sem high] theorem u32_add_v (x y : BitVec 32) : binOp .add t (.int .u32 (nb32 x)) (.int .u32 (nb32 y)) = pure (.int .u32 (nb32 (x + y))) := by
  rw [binOp_add]; show pure (Value.int .u32 (IntKind.u32.wrap (nb32 x + nb32 y))) = _
  congr 2
@[go_sem high] theorem u64_mul_lv (y : BitVec 64) (n : Nat) : binOp .mul t (.int .u64 (no_index (OfNat.ofNat n))) (.int .u64 (nb64 y)) = pure (.int .u64 (nb64 (BitVec.ofNat 64 n * y))) := by
  rw [binOp_mul]; show pure (Value.int .u64 (IntKind.u64.wrap ((n : Int) * nb64 y))) = _
  congr 2
  have e : (BitVec.ofNat 64 n * y).toNat = (n * y.toNat) % 2 ^ 64 := by rw [BitVec.toNat_mul, BitVec.toNat_ofNat, Nat.mod_mul_mod]
  rw [IntKind.wrap_u64]
  show (n : Int) * ((y.toNat : Nat) : Int) % _ = (((BitVec.ofNat 64 n * y).toNat : Nat) : Int)
  rw [e]
  rfl
@[go_sem high] theorem u32_sub_v (x y : BitVec 32) : binOp .sub t (.int .u32 (nb32 x)) (.int .u32 (nb32 y)) = pure (.int .u32 (nb32 (x - y))) := by
  rw [binOp_sub]; show pure (Value.int .u32 (IntKind.u32.wrap (nb32 x - nb32 y))) = _
  congr 2
  rw [IntKind.wrap_u32']
  simp only [nb32, BitVec.toNat_sub]
  have := x.isLt
  have := y.isLt
  omega
end

/-! shifts -/
theorem shl_nat (k x n : Nat) : (x * 2 ^ (min n k)) % 2 ^ k = (x <<< n) % 2 ^ k := by
  rw [Nat.shiftLeft_eq]
  rcases Nat.le_total n k with h | h
  · rw [Nat.min_eq_left h]
  · rw [Nat.min_eq_right h, Nat.mul_mod_left]
    obtain ⟨d, rfl⟩ := Nat.exists_eq_add_of_le h
    rw [Nat.pow_add, ← Nat.mul_assoc, Nat.mul_right_comm, Nat.mul_mod_left]
theorem shr_nat (k x n : Nat) (hx : x < 2 ^ k) : x / 2 ^ (min n k) = x >>> n := by
  rw [Nat.shiftRight_eq_div_pow]
  rcases Nat.le_total n k with h | h
  · rw [Nat.min_eq_left h]
  · rw [Nat.min_eq_right h, Nat.div_eq_of_lt hx, Nat.div_eq_of_lt (Nat.lt_of_lt_of_le hx (Nat.pow_le_pow_right (by omega) h))]

theorem shl_int (x k m : Nat) : (((x : Nat) : Int) * 2 ^ k) % ((m : Nat) : Int) = ((x * 2 ^ k % m : Nat) : Int) := by norm_cast
theorem shr_int (x k : Nat) : ((x : Nat) : Int).fdiv (2 ^ k) = ((x / 2 ^ k : Nat) : Int) := by
  rw [Int.fdiv_eq_ediv_of_nonneg _ (Int.le_of_lt (Int.pow_pos (by omega)))]
  norm_cast
theorem emod_mul_left (c x m : Int) : (c % m * x) % m = (c * x) % m := by
  rw [Int.mul_emod, Int.emod_emod_of_dvd _ (Int.dvd_refl m), ← Int.mul_emod]
section
variable (t : TypeId) (yk : IntKind)
theorem u32_shl_n (x : BitVec 32) (n : Nat) : binOp .shl t (.int .u32 (nb32 x)) (.int yk (n : Int)) = pure (.int .u32 (nb32 (x <<< n))) := by
  have h := shl_nat 32 x.toNat n
  have hn : ¬ ((n : Int) < 0) := by omega
  rw [binOp_shl]; unfold Op.shift; rw [if_neg hn, Int.toNat_natCast]
  show pure (Value.int .u32 (IntKind.u32.wrap (nb32 x * 2 ^ (min n 32)))) = _
  congr 2
  rw [IntKind.wrap_u32', show nb32 (x <<< n) = ((x.toNat <<< n % 2 ^ 32 : Nat) : Int) from by simp only [nb32, BitVec.toNat_shiftLeft], ← h]
  exact shl_int x.toNat (min n 32) _
theorem u64_shl_n (x : BitVec 64) (n : Nat) : binOp .shl t (.int .u64 (nb64 x)) (.int yk (n : Int)) = pure (.int .u64 (nb64 (x <<< n))) := by
  have h := shl_nat 64 x.toNat n
  have hn : ¬ ((n : Int) < 0) := by omega
  rw [binOp_shl]; unfold Op.shift; rw [if_neg hn, Int.toNat_natCast]
  show pure (Value.int .u64 (IntKind.u64.wrap (nb64 x * 2 ^ (min n 64)))) = _
  congr 2
  rw [IntKind.wrap_u64, show nb64 (x <<< n) = ((x.toNat <<< n % 2 ^ 64 : Nat) : Int) from by simp only [nb64, BitVec.toNat_shiftLeft], ← h]
  exact shl_int x.toNat (min n 64) _
theorem u32_shr_n (x : BitVec 32) (n : Nat) : binOp .shr t (.int .u32 (nb32 x)) (.int yk (n : Int)) = pure (.int .u32 (nb32 (x >>> n))) := by
  have h := shr_nat 32 x.toNat n x.isLt
  have hn : ¬ ((n : Int) < 0) := by omega
  rw [binOp_shr]; unfold Op.shift; rw [if_neg hn, Int.toNat_natCast]
  show pure (Value.int .u32 ((nb32 x).fdiv (2 ^ (min n 32)))) = _
  congr 2
  rw [show nb32 (x >>> n) = ((x.toNat >>> n : Nat) : Int) from by simp only [nb32, BitVec.toNat_ushiftRight], ← h]
  exact shr_int x.toNat (min n 32)
theorem u64_shr_n (x : BitVec 64) (n : Nat) : binOp .shr t (.int .u64 (nb64 x)) (.int yk (n : Int)) = pure (.int .u64 (nb64 (x >>> n))) := by
  have h := shr_nat 64 x.toNat n x.isLt
  have hn : ¬ ((n : Int) < 0) := by omega
  rw [binOp_shr]; unfold Op.shift; rw [if_neg hn, Int.toNat_natCast]
  show pure (Value.int .u64 ((nb64 x).fdiv (2 ^ (min n 64)))) = _
  congr 2
  rw [show nb64 (x >>> n) = ((x.toNat >>> n : Nat) : Int) from by simp only [nb64, BitVec.toNat_ushiftRight], ← h]
  exact shr_int x.toNat (min n 64)
attribute [go_sem high] u32_shl_n u64_shl_n u32_shr_n u64_shr_n
@[go_sem high] theorem u32_shl_l (x : BitVec 32) (n : Nat) : binOp .shl t (.int .u32 (nb32 x)) (.int yk (no_index (OfNat.ofNat n))) = pure (.int .u32 (nb32 (x <<< n))) := u32_shl_n t yk x n
@[go_sem high] theorem u64_shl_l (x : BitVec 64) (n : Nat) : binOp .shl t (.int .u64 (nb64 x)) (.int yk (no_index (OfNat.ofNat n))) = pure (.int .u64 (nb64 (x <<< n))) := u64_shl_n t yk x n
@[go_sem high] theorem u32_shr_l (x : BitVec 32) (n : Nat) : binOp .shr t (.int .u32 (nb32 x)) (.int yk (no_index (OfNat.ofNat n))) = pure (.int .u32 (nb32 (x >>> n))) := u32_shr_n t yk x n
@[go_sem high] theorem u64_shr_l (x : BitVec 64) (n : Nat) : binOp .shr t (.int .u64 (nb64 x)) (.int yk (no_index (OfNat.ofNat n))) = pure (.int .u64 (nb64 (x >>> n))) := u64_shr_n t yk x n

@[go_sem high] theorem u64_shl_cn (c n : Nat) : binOp .shl t (.int .u64 (no_index (OfNat.ofNat c))) (.int yk (n : Int)) = pure (.int .u64 (nb64 (BitVec.ofNat 64 c <<< n))) := by
  have hn : ¬ ((n : Int) < 0) := by omega
  rw [← u64_shl_n t yk (BitVec.ofNat 64 c) n, binOp_shl, binOp_shl]; unfold Op.shift; rw [if_neg hn, if_neg hn]
  show pure (Value.int .u64 (IntKind.u64.wrap (((c : Nat) : Int) * 2 ^ (min (n : Int).toNat 64)))) = pure (Value.int .u64 (IntKind.u64.wrap (nb64 (BitVec.ofNat 64 c) * 2 ^ (min (n : Int).toNat 64))))
  rw [IntKind.wrap_u64, IntKind.wrap_u64]
  simp only [nb64, BitVec.toNat_ofNat]
  congr 2
  rw [Int.natCast_emod]
  exact (emod_mul_left _ _ _).symm
@[go_sem high] theorem u32_shl_cn (c n : Nat) : binOp .shl t (.int .u32 (no_index (OfNat.ofNat c))) (.int yk (n : Int)) = pure (.int .u32 (nb32 (BitVec.ofNat 32 c <<< n))) := by
  have hn : ¬ ((n : Int) < 0) := by omega
  rw [← u32_shl_n t yk (BitVec.ofNat 32 c) n, binOp_shl, binOp_shl]; unfold Op.shift; rw [if_neg hn, if_neg hn]
  show pure (Value.int .u32 (IntKind.u32.wrap (((c : Nat) : Int) * 2 ^ (min (n : Int).toNat 32)))) = pure (Value.int .u32 (IntKind.u32.wrap (nb32 (BitVec.ofNat 32 c) * 2 ^ (min (n : Int).toNat 32))))
  rw [IntKind.wrap_u32', IntKind.wrap_u32']
  simp only [nb32, BitVec.toNat_ofNat]
  congr 2
  rw [Int.natCast_emod]
  exact (emod_mul_left _ _ _).symm
theorem rem_nat (k : IntKind) (a b : Nat) (hb : b ≠ 0) : Op.intDiv .rem k (a : Int) (b : Int) = pure (.int k ((a % b : Nat) : Int)) := by
  unfold Op.intDiv
  rw [if_neg (by omega)]
  rfl
theorem quo_nat (k : IntKind) (a b : Nat) (hb : b ≠ 0) : Op.intDiv .quo k (a : Int) (b : Int) = pure (.int k (k.wrap ((a / b : Nat) : Int))) := by
  unfold Op.intDiv
  rw [if_neg (by omega)]
  rfl
@[go_sem high] theorem u32_rem_l (x : BitVec 32) (n : Nat) (h0 : n ≠ 0) (h : n < 4294967296) : binOp .rem t (.int .u32 (nb32 x)) (.int .u32 (no_index (OfNat.ofNat n))) = pure (.int .u32 (nb32 (x % BitVec.ofNat 32 n))) := by
  rw [binOp_rem]
  refine (rem_nat _ x.toNat n h0).trans ?_
  congr 2
  simp only [nb32, BitVec.toNat_umod, BitVec.toNat_ofNat]
  rw [Nat.mod_eq_of_lt (a := n) (by omega)]
@[go_sem high] theorem u64_rem_l (x : BitVec 64) (n : Nat) (h0 : n ≠ 0) (h : n < 18446744073709551616) : binOp .rem t (.int .u64 (nb64 x)) (.int .u64 (no_index (OfNat.ofNat n))) = pure (.int .u64 (nb64 (x % BitVec.ofNat 64 n))) := by
  rw [binOp_rem]
  refine (rem_nat _ x.toNat n h0).trans ?_
  congr 2
  simp only [nb64, BitVec.toNat_umod, BitVec.toNat_ofNat]
  rw [Nat.mod_eq_of_lt (a := n) (by omega)]
@[go_sem high] theorem u64_quo_l (x : BitVec 64) (n : Nat) (h0 : n ≠ 0) (h : n < 18446744073709551616) : binOp .quo t (.int .u64 (nb64 x)) (.int .u64 (no_index (OfNat.ofNat n))) = pure (.int .u64 (nb64 (x / BitVec.ofNat 64 n))) := by
  have hlt : x.toNat / n < 18446744073709551616 := Nat.lt_of_le_of_lt (Nat.div_le_self _ _) x.isLt
  rw [binOp_quo]
  refine (quo_nat _ x.toNat n h0).trans ?_
  congr 2
  rw [IntKind.wrap_u64]
  simp only [nb64, BitVec.toNat_udiv, BitVec.toNat_ofNat]
  rw [Nat.mod_eq_of_lt (a := n) (by omega)]
  generalize x.toNat / n = q at hlt ⊢
  omega
/-- bit k, as the rest of a shifted number by two -/
theorem u32_bit (x : BitVec 32) (k : Nat) : ((x >>> k) % 2#32 == 1#32) = x.getLsbD k := by
  have e : (x >>> k) % 2#32 = 1#32 ↔ x.toNat.testBit k = true := by
    rw [← BitVec.toNat_inj, BitVec.toNat_umod, BitVec.toNat_ushiftRight, Nat.testBit, Nat.and_comm, Nat.and_one_is_mod, bne_iff_ne]
    simp only [BitVec.toNat_ofNat, Nat.reducePow, Nat.reduceMod]
    omega
  rw [Bool.eq_iff_iff, beq_iff_eq, e]; rfl
theorem u64_bit (x : BitVec 64) (k : Nat) : ((x >>> k) % 2#64 == 1#64) = x.getLsbD k := by
  have e : (x >>> k) % 2#64 = 1#64 ↔ x.toNat.testBit k = true := by
    rw [← BitVec.toNat_inj, BitVec.toNat_umod, BitVec.toNat_ushiftRight, Nat.testBit, Nat.and_comm, Nat.and_one_is_mod, bne_iff_ne]
    simp only [BitVec.toNat_ofNat, Nat.reducePow, Nat.reduceMod]
    omega
  rw [Bool.eq_iff_iff, beq_iff_eq, e]; rfl
@[go_sem high] theorem u32_neg (x : BitVec 32) : Op.unary .neg (.int .u32 (nb32 x)) = pure (.int .u32 (nb32 (-x))) := by
  show pure (Value.int .u32 (IntKind.u32.wrap (0 - nb32 x))) = _
  congr 2
  rw [IntKind.wrap_u32']
  simp only [nb32, BitVec.toNat_neg]
  have := x.isLt
  omega
@[go_sem high] theorem u32_to_u64 (x : BitVec 32) : IntKind.u64.wrap (nb32 x) = nb64 (x.setWidth 64) := by
  rw [IntKind.wrap_u64]; simp only [nb32, nb64, BitVec.toNat_setWidth]; have := x.isLt; omega
@[go_sem high] theorem u64_to_u32 (x : BitVec 64) : IntKind.u32.wrap (nb64 x) = nb32 (x.setWidth 32) := by
  rw [IntKind.wrap_u32']; simp only [nb32, nb64, BitVec.toNat_setWidth]; omega
end
end Go.Proofs.YtagjolbpmhbifaaGreatDoor

/-! Blocks of memory that are known whole. Nothing of the program. -/
namespace Go.Proofs.YtagjolbpmhbifaaGreatDoor
open Go Go.RowKit

/-- block g consists of just these cells, of element type t, none of them frozen -/
def Has (w : World) (g : Nat) (t : TypeId) (cs : Array Value) : Prop := w.heap[g]? = some (.cells cs t (0, 0))
section
variable {w w' : World} {g : Nat} {t : TypeId} {cs : Array Value}
theorem Has.lt (h : Has w g t cs) : g < w.heap.size := (Array.getElem?_eq_some_iff.1 h).1
theorem Has.cell (h : Has w g t cs) (i : Nat) : w.cell? ⟨g, i, none⟩ = cs[i]? := cell_of_row w g i cs t (0, 0) h
theorem Has.cell_at (h : Has w g t cs) {i : Nat} {v : Value} (hv : cs[i]? = some v) : w.cell? ⟨g, i, none⟩ = some v := (h.cell i).trans hv
theorem Has.loose (h : Has w g t cs) (i : Nat) : w.frozen? ⟨g, i, none⟩ = false := by
  unfold Has at h; simp [World.frozen?, h]
theorem Has.fresh (w : World) (t : TypeId) (cs : Array Value) : Has (w.alloc (.cells cs t)) w.heap.size t cs := heap_alloc_new w _
theorem Has.fresh_at {n : Nat} (w : World) (t : TypeId) (cs : Array Value) (hn : n = w.heap.size) : Has (w.alloc (.cells cs t)) n t cs := by subst hn; exact Has.fresh w t cs
theorem Has.draw (h : Has w g t cs) : Has w.drew g t cs := h
theorem Has.draws (h : Has w g t cs) (n : Nat) : Has (w.drewN n) g t cs := h
theorem Has.past (h : Has w g t cs) (o : Obj) : Has (w.alloc o) g t cs := (Below.heap_alloc w o g h.lt).trans h
theorem Has.put (h : Has w g t cs) (i : Nat) (u : Value) : Has (w.setCell ⟨g, i, none⟩ u) g t (cs.setIfInBounds i u) := by
  unfold Has at h ⊢
  simp [World.setCell, Array.getElem?_modify, h]
theorem Has.aside (h : Has w g t cs) {p : Addr} (hp : g ≠ p.block) (u : Value) : Has (w.setCell p u) g t cs := (Below.heap_setCell w p u g hp).trans h
theorem Has.under {B : Nat} (h : Has w g t cs) (hb : Below B w w') (hg : g < B) : Has w' g t cs := (hb.block g hg).trans h
end
theorem below_draws {B : Nat} {a w : World} (h : Below B a w) (n : Nat) : Below B a (w.drewN n) := ⟨h.os, h.tape, h.output, h.size, h.block⟩
theorem below_cells {W w1 : World} (hb : Below W.heap.size W w1) : ∀ b o, b < W.heap.size → w1.cell? ⟨b, o, none⟩ = W.cell? ⟨b, o, none⟩ := fun b o h => hb.cell (p := ⟨b, o, none⟩) h
theorem below_loose {W w1 : World} (hb : Below W.heap.size W w1) : ∀ b o, b < W.heap.size → w1.frozen? ⟨b, o, none⟩ = W.frozen? ⟨b, o, none⟩ := fun b o h => hb.frozen (p := ⟨b, o, none⟩) h

/-- the world but for the draws of an order -/
def Drawn (w w' : World) : Prop := ∃ n, w' = w.drewN n
theorem Drawn.refl (w : World) : Drawn w w := ⟨0, rfl⟩
theorem Drawn.drew {w w' : World} (h : Drawn w w') : Drawn w w'.drew := by
  obtain ⟨n, rfl⟩ := h
  exact ⟨n + 1, (World.drewN_drewN w n 1).symm⟩
theorem Drawn.draws {w w' : World} (h : Drawn w w') (m : Nat) : Drawn w (w'.drewN m) := by
  obtain ⟨n, rfl⟩ := h
  exact ⟨n + m, World.drewN_drewN w n m⟩
theorem Drawn.trans {a b c : World} (h : Drawn a b) (k : Drawn b c) : Drawn a c := by
  obtain ⟨m, rfl⟩ := k
  exact h.draws m
theorem Drawn.below {w w' : World} (h : Drawn w w') (B : Nat) : Below B w w' := by
  obtain ⟨n, rfl⟩ := h
  exact below_draws (Below.refl _ _) n
theorem Has.drawn {w w' : World} {g : Nat} {t : TypeId} {cs : Array Value} (h : Has w g t cs) (hd : Drawn w w') : Has w' g t cs := by
  obtain ⟨n, rfl⟩ := hd
  exact h

/-- n cells, the j-th is f j -/
def cellsOf (n : Nat) (f : Nat → Value) : Array Value := ((List.range n).map f).toArray
theorem cellsOf_size (n : Nat) (f : Nat → Value) : (cellsOf n f).size = n := by simp [cellsOf]
theorem cellsOf_at {n : Nat} (f : Nat → Value) {i : Nat} (h : i < n) : (cellsOf n f)[i]? = some (f i) := by
  simp [cellsOf, h]
theorem cellsOf_put {n : Nat} (f g : Nat → Value) (i : Nat) (v : Value) (hi : g i = v) (hg : ∀ j, j < n → j ≠ i → g j = f j) : (cellsOf n f).setIfInBounds i v = cellsOf n g := by
  apply Array.ext_getElem?
  intro j
  rw [Array.getElem?_setIfInBounds, cellsOf_size]
  rcases Nat.lt_or_ge j n with h | h
  · rw [cellsOf_at f h, cellsOf_at g h]
    by_cases e : i = j
    · subst e
      simp [h, hi]
    · simp [e, hg j h (fun x => e x.symm)]
  · have e1 : (cellsOf n f)[j]? = none := Array.getElem?_eq_none (by rw [cellsOf_size]; exact h)
    have e2 : (cellsOf n g)[j]? = none := Array.getElem?_eq_none (by rw [cellsOf_size]; exact h)
    rw [e1, e2]
    by_cases e : i = j
    · subst e
      simp; omega
    · simp [e]
theorem cellsOf_congr {n : Nat} {f g : Nat → Value} (h : ∀ j, j < n → f j = g j) : cellsOf n f = cellsOf n g := by
  unfold cellsOf
  congr 1
  exact List.map_congr_left fun j hj => h j (List.mem_range.1 hj)
/-! whole arrays in a block -/
def putAll (cs : Array Value) (o : Nat) : List Value → Array Value
  | [] => cs
  | v :: r => putAll (cs.setIfInBounds o v) (o + 1) r
theorem Has.putAll {t : TypeId} {g : Nat} : ∀ (vs : List Value) {w : World} {cs : Array Value} (o : Nat), Has w g t cs → Has (w.setCells g o vs) g t (putAll cs o vs)
  | [], _, _, _, h => h
  | v :: r, _, _, o, h => Has.putAll r (o + 1) (h.put o v)
theorem Has.asideAll {t : TypeId} {g g' : Nat} (hg : g ≠ g') : ∀ (vs : List Value) {w : World} {cs : Array Value} (o : Nat), Has w g t cs → Has (w.setCells g' o vs) g t cs
  | [], _, _, _, h => h
  | v :: r, _, _, o, h => Has.asideAll hg r (o + 1) (h.aside (p := ⟨g', o, none⟩) hg v)
theorem below_setAll {B g : Nat} {a : World} (hg : B ≤ g) : ∀ (vs : List Value) {w : World} (o : Nat), Below B a w → Below B a (w.setCells g o vs)
  | [], _, _, h => h
  | v :: r, _, o, h => below_setAll hg r (o + 1) (h.setCell (p := ⟨g, o, none⟩) hg v)
theorem putAll_cellsOf {n : Nat} (g : Nat → Value) : ∀ (vs : List Value) (o : Nat) (f : Nat → Value), (∀ i v, vs[i]? = some v → g (o + i) = v) → (∀ j, j < n → (j < o ∨ o + vs.length ≤ j) → g j = f j) →
    putAll (cellsOf n f) o vs = cellsOf n g
  | [], o, f, _, h2 => cellsOf_congr fun j hj => (h2 j hj (by simp; omega)).symm
  | v :: r, o, f, h1, h2 => by
    have hv : g o = v := h1 0 v rfl
    rw [putAll, cellsOf_put f (fun j => if j = o then v else f j) o v (by simp) (fun j _ hne => by simp [hne])]
    refine putAll_cellsOf g r (o + 1) _ (fun i u hu => ?_) (fun j hj hh => ?_)
    · have := h1 (i + 1) u hu
      rwa [show o + 1 + i = o + (i + 1) from by omega]
    · by_cases e : j = o
      · subst e; simp [hv]
      · rw [if_neg e]
        refine h2 j hj ?_
        rcases hh with hh | hh
        · left; omega
        · right; simp only [List.length_cons]; omega
theorem Has.range {w : World} {g : Nat} {t : TypeId} {cs : Array Value} (h : Has w g t cs) : w.rangeAt g 0 cs.toList := fun j v hv => by
  rw [Nat.zero_add, h.cell j, ← hv, Array.getElem?_toList]
theorem Has.there {w : World} {g : Nat} {t : TypeId} {cs : Array Value} (h : Has w g t cs) (o n : Nat) (hn : o + n ≤ cs.size) : w.there g o n := fun j hj => by
  refine ⟨?_, h.loose _⟩
  rw [h.cell, Array.getElem?_eq_getElem (by omega)]
  rfl
theorem run_zero {P : Program} {t : TypeId} {z : Value} (h : (P.info? t).bind (·.zero) = some z) (w : World) : (zeroValue t).run P w = .ok z w := by
  cases hi : P.info? t with
  | none => rw [hi] at h; cases h
  | some i =>
    rw [hi] at h
    have hz : i.zero = some z := h
    simp [zeroValue, typeInfo, hi, hz]
theorem cellsOf_ne {n : Nat} (hn : 0 < n) (f : Nat → Value) : cellsOf n f ≠ #[] := by
  intro h
  have := cellsOf_size n f
  rw [h] at this
  simp at this
  omega
theorem results_one_cell {P : Program} {fn : Func} {p : Tmp} {ty : TypeId} (h : fn.results = #[.cell p ty]) (tmps : Array Value) (w : World) (g : Nat) (hp : tmps.getD p undef = .pointer (some ⟨g, 0, none⟩))
    (v : Value) (hv : (loadVar ty ⟨g, 0, none⟩).run P w = .ok v w) : (results fn tmps).run P w = .ok v w := by
  rw [Array.getD_eq_getD_getElem?] at hp
  simp only [results, h]
  simp [hp, hv, asAddr]
end Go.Proofs.YtagjolbpmhbifaaGreatDoor

/-! Slices of integers that came in. Nothing of the program. -/
namespace Go.Proofs.YtagjolbpmhbifaaGreatDoor
open Go Go.RowKit Go.ChangeShapes Go.WideShapes

/-- a slice of integers: nil, or a row of 'cap' cells that hold the numbers 'zs', of which the first 'len' are the slice's -/
def IsRow (k : IntKind) (w : World) (a : Option Addr) (len cap : Nat) (zs : List Int) : Prop :=
  (a = none ∧ len = 0 ∧ cap = 0 ∧ zs = []) ∨
  ∃ x, a = some x ∧ len ≤ cap ∧ cap ≤ maxLen ∧ zs.length = cap ∧ (∀ i, i < zs.length → w.cell? (x.add i) = some (.int k (zs.getD i 0))) ∧ ∀ n ∈ zs, (Lit.int k n).wf = true

theorem u32_of_wf {a : Int} (h : (Lit.int .u32 a).wf = true) : ∃ x : BitVec 32, a = nb32 x := by
  have := bounds_u32 h
  exact u32_of_bounds this.1 (by omega)
theorem u32_list : ∀ {zs : List Int}, (∀ n ∈ zs, (Lit.int .u32 n).wf = true) → ∃ l : List (BitVec 32), zs = l.map nb32
  | [], _ => ⟨[], rfl⟩
  | z :: zs, h => by
    obtain ⟨x, rfl⟩ := u32_of_wf (h z (by simp))
    obtain ⟨l, rfl⟩ := u32_list (zs := zs) (fun n hn => h n (by simp [hn]))
    exact ⟨x :: l, rfl⟩
/-- a slice of 32-bit words: its elements l, readable where there are any -/
def Words32 (w : World) (a : Option Addr) (n : Nat) (l : List (BitVec 32)) : Prop :=
  l.length = n ∧ n ≤ maxLen ∧ ∀ i, i < n → ∃ x, a = some x ∧ w.cell? (x.add i) = some (.int .u32 (nb32 (l.getD i 0)))
theorem words_of_row {w : World} {a : Option Addr} {len cap : Nat} {zs : List Int} (h : IsRow .u32 w a len cap zs) : ∃ l, Words32 w a len l := by
  rcases h with ⟨rfl, rfl, rfl, rfl⟩ | ⟨x, rfl, hl, hm, hz, hc, hw⟩
  · exact ⟨[], rfl, by unfold maxLen; omega, fun i hi => by omega⟩
  · obtain ⟨l, rfl⟩ := u32_list hw
    rw [List.length_map] at hz
    refine ⟨l.take len, by simp; omega, by omega, fun i hi => ⟨x, rfl, ?_⟩⟩
    rw [hc i (by rw [List.length_map]; omega)]
    congr 2
    rw [List.getD_eq_getElem?_getD, List.getD_eq_getElem?_getD, List.getElem?_map, List.getElem?_take, if_pos hi]
    have : i < l.length := by omega
    rw [List.getElem?_eq_getElem this]
    rfl
theorem Words32.keep {w w' : World} {a : Option Addr} {n : Nat} {l : List (BitVec 32)} (h : Words32 w a n l) (hk : ∀ p : Addr, (w.cell? p).isSome = true → w'.cell? p = w.cell? p) : Words32 w' a n l := by
  refine ⟨h.1, h.2.1, fun i hi => ?_⟩
  obtain ⟨x, rfl, hx⟩ := h.2.2 i hi
  exact ⟨x, rfl, by rw [hk _ (by rw [hx]; rfl)]; exact hx⟩
theorem isSome_lt {w : World} {p : Addr} (h : (w.cell? p).isSome = true) : p.block < w.heap.size := by
  rcases Nat.lt_or_ge p.block w.heap.size with hlt | hge
  · exact hlt
  · have : w.heap[p.block]? = none := Array.getElem?_eq_none hge
    unfold World.cell? at h
    rw [this] at h
    simp at h
theorem Words32.below {w w' : World} {a : Option Addr} {n : Nat} {l : List (BitVec 32)} (h : Words32 w a n l) (hb : Below w.heap.size w w') : Words32 w' a n l :=
  h.keep fun _ hp => hb.cell (isSome_lt hp)
section
variable {H : Type} {enc : TypeId × Value → H} {P : Program} {W : World} {base : Nat} {v : Value} {d : DataW H} {p : List MemPlace}
theorem arg_u32 {t : TypeId} (ht : P.underlying t = some (.int .u32)) (o : Value.okWide P W .any base t v) (h : DataW.Trod enc P W 0 (fun _ => true) true t v d p) : ∃ x : BitVec 32, v = .int .u32 (nb32 x) := by
  obtain ⟨a, rfl, rfl, rfl, wa⟩ := open_int ht o h
  obtain ⟨x, rfl⟩ := u32_of_wf wa
  exact ⟨x, rfl⟩
theorem arg_u64 {t : TypeId} (ht : P.underlying t = some (.int .u64)) (o : Value.okWide P W .any base t v) (h : DataW.Trod enc P W 0 (fun _ => true) true t v d p) : ∃ x : BitVec 64, v = .int .u64 (nb64 x) := by
  obtain ⟨a, rfl, rfl, rfl, wa⟩ := open_int ht o h
  have := bounds_u64 wa
  obtain ⟨x, rfl⟩ := u64_of_bounds this.1 (by omega)
  exact ⟨x, rfl⟩
theorem arg_words {t e : TypeId} (ht : P.underlying t = some (.slice e)) (he : P.underlying e = some (.int .u32)) (hc : P.cellsOf e = 1) (o : Value.okWide P W .any base t v) (h : DataW.Trod enc P W 0 (fun _ => true) true t v d p) :
    ∃ (a : Option Addr) (n c : Nat) (l : List (BitVec 32)), v = .slice a n c ∧ Words32 W a n l := by
  obtain ⟨a, n, c, rfl⟩ := okWide_slice ht o
  obtain ⟨fuel, hf⟩ := h
  refine ⟨a, n, c, ?_⟩
  rcases open_ints ht he hc hf with ⟨hcs, _⟩ | ⟨x, l, cp, zs, hcs, _, hl, hm, hz, _, hcell, hwz⟩
  · simp [Value.cells] at hcs
    obtain ⟨rfl, rfl, rfl⟩ := hcs
    obtain ⟨l, hl⟩ := words_of_row (w := W) (.inl ⟨rfl, rfl, rfl, rfl⟩)
    exact ⟨l, rfl, hl⟩
  · simp [Value.cells] at hcs
    obtain ⟨rfl, rfl, rfl⟩ := hcs
    obtain ⟨l, hl⟩ := words_of_row (w := W) (.inr ⟨_, rfl, hl, hm, by simpa using hz, hcell, hwz⟩)
    exact ⟨l, rfl, hl⟩
theorem arg_wordsc {t e : TypeId} (ht : P.underlying t = some (.slice e)) (he : P.underlying e = some (.int .u32)) (hc : P.cellsOf e = 1) (o : Value.okWide P W .any base t v) (h : DataW.Trod enc P W 0 (fun _ => true) true t v d p) :
    ∃ (a : Option Addr) (n c : Nat) (l : List (BitVec 32)), v = .slice a n c ∧ Words32 W a n l ∧ n ≤ c ∧ (a = none → c = 0) := by
  obtain ⟨a, n, c, rfl⟩ := okWide_slice ht o
  obtain ⟨fuel, hf⟩ := h
  refine ⟨a, n, c, ?_⟩
  rcases open_ints ht he hc hf with ⟨hcs, _⟩ | ⟨x, l, cp, zs, hcs, _, hl, hm, hz, _, hcell, hwz⟩
  · simp [Value.cells] at hcs
    obtain ⟨rfl, rfl, rfl⟩ := hcs
    obtain ⟨l, hl⟩ := words_of_row (w := W) (.inl ⟨rfl, rfl, rfl, rfl⟩)
    exact ⟨l, rfl, hl, Nat.le_refl _, fun _ => rfl⟩
  · simp [Value.cells] at hcs
    obtain ⟨rfl, rfl, rfl⟩ := hcs
    obtain ⟨l, hw⟩ := words_of_row (w := W) (.inr ⟨_, rfl, hl, hm, by simpa using hz, hcell, hwz⟩)
    exact ⟨l, rfl, hw, hl, fun e => by cases e⟩
end
/-- the exclusive or of all -/
def xors (l : List (BitVec 32)) : BitVec 32 := l.foldl (· ^^^ ·) 0
theorem xors_take (l : List (BitVec 32)) (k : Nat) (h : k < l.length) : xors (l.take (k + 1)) = xors (l.take k) ^^^ l.getD k 0 := by
  rw [List.take_succ_eq_append_getElem h, xors, List.foldl_append, List.getD_eq_getElem?_getD, List.getElem?_eq_getElem h]
  rfl
end Go.Proofs.YtagjolbpmhbifaaGreatDoor

/-! Slices of words that a call has made. Nothing of the program. -/
namespace Go.Proofs.YtagjolbpmhbifaaGreatDoor
open Go Go.RowKit

/-- n cells of words -/
def wcells (n : Nat) (f : Nat → BitVec 32) : Array Value := cellsOf n fun j => .int .u32 (nb32 (f j))
theorem wcells_size (n : Nat) (f : Nat → BitVec 32) : (wcells n f).size = n := cellsOf_size _ _
theorem wcells_at {n : Nat} (f : Nat → BitVec 32) {i : Nat} (h : i < n) : (wcells n f)[i]? = some (.int .u32 (nb32 (f i))) := cellsOf_at _ h
theorem wcells_congr {n : Nat} {f g : Nat → BitVec 32} (h : ∀ i, i < n → f i = g i) : wcells n f = wcells n g := cellsOf_congr fun j hj => by rw [h j hj]
theorem wcells_put {n : Nat} (f g : Nat → BitVec 32) (i : Nat) (x : BitVec 32) (hi : g i = x) (hg : ∀ j, j < n → j ≠ i → g j = f j) : (wcells n f).setIfInBounds i (.int .u32 (nb32 x)) = wcells n g :=
  cellsOf_put _ _ i _ (by rw [hi]) (fun j hj hne => by rw [hg j hj hne])
theorem wcells_made (n : Nat) : madeCells #[.int .u32 0] n = wcells n fun _ => 0 := by
  apply Array.ext_getElem?
  intro j
  rw [← Array.getElem?_toList, toList_madeCells_one, List.getElem?_replicate]
  rcases Nat.lt_or_ge j n with h | h
  · rw [if_pos h, wcells_at _ h]; rfl
  · rw [if_neg (by omega), Array.getElem?_eq_none (by rw [wcells_size]; exact h)]

/-- the first elements of a list, in a block -/
def wlist (l : List (BitVec 32)) : List Value := l.map fun x => .int .u32 (nb32 x)
theorem wlist_at (l : List (BitVec 32)) (i : Nat) (h : i < l.length) : (wlist l)[i]? = some (.int .u32 (nb32 (l.getD i 0))) := by
  rw [wlist, List.getElem?_map, List.getD_eq_getElem?_getD, List.getElem?_eq_getElem h]; rfl
theorem wlist_one (l : List (BitVec 32)) : ∀ v ∈ wlist l, v.oneCell' = true := by
  intro v hv
  rw [wlist, List.mem_map] at hv
  obtain ⟨x, _, rfl⟩ := hv
  rfl
theorem wlist_length (l : List (BitVec 32)) : (wlist l).length = l.length := by simp [wlist]
theorem putAll_wlist (l : List (BitVec 32)) (f : Nat → BitVec 32) : putAll (wcells l.length f) 0 (wlist l) = wcells l.length (fun i => l.getD i 0) := by
  refine putAll_cellsOf _ (wlist l) 0 _ (fun i v hv => ?_) (fun j hj h => ?_)
  · rw [Nat.zero_add]
    have hi : i < l.length := by
      have := (List.getElem?_eq_some_iff.1 hv).1
      rwa [wlist_length] at this
    rw [wlist_at l i hi] at hv
    exact Option.some.inj hv
  · rw [wlist_length] at h
    omega

/-- v is a slice made since block B; l: its elements -/
def Fresh (T : TypeId) (B : Nat) (w : World) (v : Value) (l : List (BitVec 32)) : Prop :=
  ∃ a c, v = .slice a l.length c ∧ (l.length ≤ c ∧ (a = none → c = 0)) ∧ l.length ≤ maxLen ∧ (0 < l.length → ∃ g cs, a = some ⟨g, 0, none⟩ ∧ B ≤ g ∧ Has w g T cs ∧ ∀ i, i < l.length → cs[i]? = some (.int .u32 (nb32 (l.getD i 0))))
section
variable {T : TypeId} {B : Nat} {w w' : World} {v : Value} {l : List (BitVec 32)}
theorem Fresh.nil (T : TypeId) (B : Nat) (w : World) : Fresh T B w (.slice none 0 0) [] := ⟨none, 0, rfl, ⟨Nat.le_refl _, fun _ => rfl⟩, by simp [maxLen], fun h => absurd h (by simp)⟩
theorem Fresh.below (h : Fresh T B w v l) (hb : Below w.heap.size w w') : Fresh T B w' v l := by
  obtain ⟨a, c, rfl, h1, h2, h3⟩ := h
  refine ⟨a, c, rfl, h1, h2, fun h0 => ?_⟩
  obtain ⟨g, cs, rfl, hg, hh, hc⟩ := h3 h0
  exact ⟨g, cs, rfl, hg, hh.under hb hh.lt, hc⟩
theorem Fresh.carry (h : Fresh T B w v l) (hk : ∀ g t cs, B ≤ g → Has w g t cs → Has w' g t cs) : Fresh T B w' v l := by
  obtain ⟨a, c, rfl, h1, h2, h3⟩ := h
  refine ⟨a, c, rfl, h1, h2, fun h0 => ?_⟩
  obtain ⟨g, cs, rfl, hg, hh, hc⟩ := h3 h0
  exact ⟨g, cs, rfl, hg, hk _ _ _ hg hh, hc⟩
theorem Fresh.low {B' : Nat} (h : Fresh T B w v l) (hB : B' ≤ B) : Fresh T B' w v l := by
  obtain ⟨a, c, rfl, h1, h2, h3⟩ := h
  refine ⟨a, c, rfl, h1, h2, fun h0 => ?_⟩
  obtain ⟨g, cs, rfl, hg, hh, hc⟩ := h3 h0
  exact ⟨g, cs, rfl, by omega, hh, hc⟩
theorem Fresh.of_has {g n c : Nat} {f : Nat → BitVec 32} (hB : B ≤ g) (hh : Has w g T (wcells c f)) (hl : l.length = n) (hn : n ≤ c) (hm : n ≤ maxLen) (hf : ∀ i, i < n → f i = l.getD i 0) : Fresh T B w (.slice (some ⟨g, 0, none⟩) n c) l :=
  ⟨_, c, by rw [hl], ⟨by omega, fun e => by cases e⟩, by omega, fun _ => ⟨g, _, rfl, hB, hh, fun i hi => by rw [wcells_at _ (by omega), hf i (by omega)]⟩⟩
/-- to read it -/
theorem Fresh.words {a : Option Addr} {n c : Nat} (h : Fresh T B w (.slice a n c) l) : n = l.length ∧ n ≤ c ∧ Words32 w a n l := by
  obtain ⟨a', c', e, h1, h2, h3⟩ := h
  injection e with e1 e2 e3
  subst e1 e2 e3
  refine ⟨rfl, h1.1, rfl, h2, fun i hi => ?_⟩
  obtain ⟨g, cs, rfl, _, hh, hc⟩ := h3 (by omega)
  refine ⟨_, rfl, ?_⟩
  rw [Addr.add_mid, Nat.zero_add, hh.cell i]
  exact hc i hi
theorem Fresh.cap0 {a : Option Addr} {n c : Nat} (h : Fresh T B w (.slice a n c) l) : a = none → c = 0 := by
  obtain ⟨a', c', e, h1, _, _⟩ := h
  injection e with e1 e2 e3
  subst e1 e3
  exact h1.2
theorem Fresh.slice (h : Fresh T B w v l) : ∃ a c, v = .slice a l.length c ∧ l.length ≤ c ∧ Words32 w a l.length l := by
  obtain ⟨a, c, rfl, h'⟩ := id h
  obtain ⟨_, h1, h2⟩ := h.words
  exact ⟨a, c, rfl, h1, h2⟩
end
/-- a made slice that may be written -/
def Buf (T : TypeId) (B : Nat) (w : World) (a : Option Addr) (n : Nat) : Prop := n = 0 ∨ ∃ g cs, a = some ⟨g, 0, none⟩ ∧ B ≤ g ∧ Has w g T cs ∧ n ≤ cs.size
theorem Fresh.buf {T : TypeId} {B : Nat} {w : World} {l : List (BitVec 32)} {a : Option Addr} {n c : Nat} (h : Fresh T B w (.slice a n c) l) : Buf T B w a n := by
  obtain ⟨a', c', e, h1, h2, h3⟩ := h
  injection e with e1 e2 e3
  subst e1 e2 e3
  rcases Nat.eq_zero_or_pos l.length with h0 | h0
  · exact .inl h0
  · obtain ⟨g, cs, rfl, hg, hh, hc⟩ := h3 h0
    refine .inr ⟨g, cs, rfl, hg, hh, ?_⟩
    have := hc (l.length - 1) (by omega)
    have := (Array.getElem?_eq_some_iff.1 this).1
    omega
theorem Buf.below {T : TypeId} {B : Nat} {w w' : World} {a : Option Addr} {n : Nat} (h : Buf T B w a n) (hb : Below w.heap.size w w') : Buf T B w' a n := by
  rcases h with h | ⟨g, cs, e, hg, hh, hn⟩
  · exact .inl h
  · exact .inr ⟨g, cs, e, hg, hh.under hb hh.lt, hn⟩
theorem Buf.open {T : TypeId} {B : Nat} {w : World} {a : Option Addr} {n k : Nat} (h : Buf T B w a n) (hk : k < n) : ∃ g cs, a = some ⟨g, 0, none⟩ ∧ B ≤ g ∧ Has w g T cs ∧ n ≤ cs.size := by
  rcases h with h | h
  · omega
  · exact h
theorem Buf.put {T : TypeId} {B g n : Nat} {w : World} {cs : Array Value} (hg : B ≤ g) (hh : Has w g T cs) (hn : n ≤ cs.size) (i : Nat) (u : Value) : Buf T B (w.setCell ⟨g, i, none⟩ u) (some ⟨g, 0, none⟩) n :=
  .inr ⟨g, _, rfl, hg, hh.put i u, by rw [Array.size_setIfInBounds]; exact hn⟩
end Go.Proofs.YtagjolbpmhbifaaGreatDoor

/-! Slices of bytes: how they are read, appended to and turned into strings. Nothing of the program's own. -/
namespace Go.Proofs.YtagjolbpmhbifaaGreatDoor
open Go Go.RowKit Go.ChangeShapes Go.WideShapes
theorem info_byte : (Tryz.prog.info? 5).map (fun i => (i.zero, i.size, i.bytes)) = some (some (.int .u8 0), 1, 1) := by kernel_rfl
theorem u8_inj {x y : BitVec 8} : nb8 x = nb8 y ↔ x = y := by
  simp only [nb8, Int.natCast_inj, BitVec.toNat_inj]
theorem u8_of_bounds {a : Int} (h0 : 0 ≤ a) (h1 : a < 256) : ∃ x : BitVec 8, a = nb8 x := by
  obtain ⟨n, rfl⟩ := Int.eq_ofNat_of_zero_le h0
  exact ⟨BitVec.ofNat 8 n, by simp only [nb8, BitVec.toNat_ofNat]; omega⟩
@[go_sem high] theorem u32_to_u8 (x : BitVec 32) : IntKind.u8.wrap (nb32 x) = nb8 (x.setWidth 8) := by
  rw [IntKind.wrap_u8]; simp only [nb32, nb8, BitVec.toNat_setWidth]; have := x.isLt; omega
@[go_sem high] theorem u8_to_u32 (x : BitVec 8) : IntKind.u32.wrap (nb8 x) = nb32 (x.setWidth 32) := by
  rw [IntKind.wrap_u32']; simp only [nb32, nb8, BitVec.toNat_setWidth]; have := x.isLt; omega
section
variable (t : TypeId)
@[go_sem high] theorem u32_quo_l (x : BitVec 32) (n : Nat) (h0 : n ≠ 0) (h : n < 4294967296) : binOp .quo t (.int .u32 (nb32 x)) (.int .u32 (no_index (OfNat.ofNat n))) = pure (.int .u32 (nb32 (x / BitVec.ofNat 32 n))) := by
  have hlt : x.toNat / n < 4294967296 := Nat.lt_of_le_of_lt (Nat.div_le_self _ _) x.isLt
  rw [binOp_quo]
  refine (quo_nat _ x.toNat n h0).trans ?_
  congr 2
  rw [IntKind.wrap_u32']
  simp only [nb32, BitVec.toNat_udiv, BitVec.toNat_ofNat]
  rw [Nat.mod_eq_of_lt (a := n) (by omega)]
  generalize x.toNat / n = q at hlt ⊢
  omega
@[go_sem high] theorem u32_mul_lv (y : BitVec 32) (n : Nat) : binOp .mul t (.int .u32 (no_index (OfNat.ofNat n))) (.int .u32 (nb32 y)) = pure (.int .u32 (nb32 (BitVec.ofNat 32 n * y))) := by
  rw [binOp_mul]; show pure (Value.int .u32 (IntKind.u32.wrap ((n : Int) * nb32 y))) = _
  congr 2
  have e : (BitVec.ofNat 32 n * y).toNat = (n * y.toNat) % 2 ^ 32 := by rw [BitVec.toNat_mul, BitVec.toNat_ofNat, Nat.mod_mul_mod]
  rw [IntKind.wrap_u32']
  show (n : Int) * ((y.toNat : Nat) : Int) % _ = (((BitVec.ofNat 32 n * y).toNat : Nat) : Int)
  rw [e]
  rfl
end
/-- the place i of a list of bytes -/
def cb (l : List (BitVec 8)) (i : Nat) : BitVec 8 := l.getD i 0
/-! the slices -/
def blist (l : List (BitVec 8)) : List Value := l.map fun x => .int .u8 (nb8 x)
theorem blist_length (l : List (BitVec 8)) : (blist l).length = l.length := by simp [blist]
theorem blist_at (l : List (BitVec 8)) (i : Nat) (h : i < l.length) : (blist l)[i]? = some (.int .u8 (nb8 (cb l i))) := by
  rw [blist, List.getElem?_map, cb, List.getD_eq_getElem?_getD, List.getElem?_eq_getElem h]; rfl
theorem blist_one (l : List (BitVec 8)) : ∀ v ∈ blist l, v.oneCell' = true := by
  intro v hv
  rw [blist, List.mem_map] at hv
  obtain ⟨x, _, rfl⟩ := hv
  rfl
theorem blist_app (l m : List (BitVec 8)) : blist (l ++ m) = blist l ++ blist m := by simp [blist]
/-- a slice of bytes: its elements l, readable where there are any -/
def Bytes8 (w : World) (a : Option Addr) (n : Nat) (l : List (BitVec 8)) : Prop :=
  l.length = n ∧ n ≤ maxLen ∧ ∀ i, i < n → ∃ x, a = some x ∧ w.cell? (x.add i) = some (.int .u8 (nb8 (cb l i)))
theorem Bytes8.keep {w w' : World} {a : Option Addr} {n : Nat} {l : List (BitVec 8)} (h : Bytes8 w a n l) (hk : ∀ p : Addr, (w.cell? p).isSome = true → w'.cell? p = w.cell? p) : Bytes8 w' a n l := by
  refine ⟨h.1, h.2.1, fun i hi => ?_⟩
  obtain ⟨x, rfl, hx⟩ := h.2.2 i hi
  exact ⟨x, rfl, by rw [hk _ (by rw [hx]; rfl)]; exact hx⟩
theorem Bytes8.below {w w' : World} {a : Option Addr} {n : Nat} {l : List (BitVec 8)} (h : Bytes8 w a n l) (hb : Below w.heap.size w w') : Bytes8 w' a n l :=
  h.keep fun _ hp => hb.cell (isSome_lt hp)
theorem Bytes8.past {w : World} {a : Option Addr} {n : Nat} {l : List (BitVec 8)} (h : Bytes8 w a n l) (o : Obj) : Bytes8 (w.alloc o) a n l := h.keep fun p hp => World.cell?_alloc_lt w o p (isSome_lt hp)
theorem Bytes8.draw {w : World} {a : Option Addr} {n : Nat} {l : List (BitVec 8)} (h : Bytes8 w a n l) : Bytes8 w.drew a n l := h
theorem Bytes8.draws {w : World} {a : Option Addr} {n : Nat} {l : List (BitVec 8)} (h : Bytes8 w a n l) (m : Nat) : Bytes8 (w.drewN m) a n l := h
theorem bytes_none (w : World) : Bytes8 w none 0 [] := ⟨rfl, by unfold maxLen; omega, fun i hi => by omega⟩
/-- v is the call's own slice of bytes, made since block B; l: its elements -/
def OwnB (T : TypeId) (B : Nat) (w : World) (v : Value) (l : List (BitVec 8)) : Prop := w.ownsRow B T 1 v l.length (blist l)
section
variable {T : TypeId} {B : Nat} {w w' : World} {v : Value} {l : List (BitVec 8)}
theorem OwnB.nil (T : TypeId) (B : Nat) (w : World) : OwnB T B w (.slice none 0 0) [] := World.ownsRow_nil _ _ _ _
theorem OwnB.all {m : List (BitVec 8)} {k : Nat} (hk : m.length = k) (h : w'.ownsRow B T 1 v (l.length + k) (blist l ++ blist m)) : OwnB T B w' v (l ++ m) := by
  subst hk
  unfold OwnB
  rw [blist_app]
  simpa using h
theorem OwnB.lt (h : OwnB T B w v l) : ∀ k, v.ownBlock = some k → B ≤ k := fun k hk => (World.ownsRow.lt h k hk).1
theorem OwnB.below (h : OwnB T B w v l) (hb : Below w.heap.size w w') : OwnB T B w' v l := by
  refine ⟨h.1, ?_⟩
  rcases h.2 with hn | ⟨G, cap, cur, rfl, h1, h2, rest⟩
  · exact .inl hn
  · exact .inr ⟨G, cap, cur, rfl, h1, (hb.block _ (Array.getElem?_eq_some_iff.1 h2).1).trans h2, rest⟩
theorem OwnB.low {B' : Nat} (h : OwnB T B w v l) (hB : B' ≤ B) : OwnB T B' w v l := by
  refine ⟨h.1, ?_⟩
  rcases h.2 with hn | ⟨G, cap, cur, rfl, h1, h2⟩
  · exact .inl hn
  · exact .inr ⟨G, cap, cur, rfl, by omega, h2⟩
theorem OwnB.draws (h : OwnB T B w v l) (n : Nat) : OwnB T B (w.drewN n) v l := h
/-- to read it -/
theorem OwnB.shape {K : Nat} (h : OwnB T B w v l) (hK : l.length = K) : ∃ a c, v = .slice a K c ∧ K ≤ c ∧ (a = none → c = 0) ∧ Bytes8 w a K l := by
  subst hK
  obtain ⟨hl, ⟨rfl, h0⟩ | ⟨g, cap, cur, rfl, hg, hh, hn, hm, hc, ht⟩⟩ := h
  · obtain rfl := List.length_eq_zero_iff.1 h0
    exact ⟨none, 0, rfl, Nat.le_refl _, fun _ => rfl, bytes_none w⟩
  · refine ⟨_, cap, rfl, hn, (fun e => by cases e), rfl, by omega, fun i hi => ⟨_, rfl, ?_⟩⟩
    rw [Addr.add_mid, Nat.zero_add, (show Has w g T cur from hh).cell i, ← blist_at l i hi, ← ht, List.getElem?_take, if_pos (by omega), Array.getElem?_toList]
end
theorem below_own_rowb {w0 w w' : World} {row : Option Nat} (hb : Below w0.heap.size w0 w) (hg : w.grownBy w' row) (hr : ∀ k, row = some k → w0.heap.size ≤ k) : Below w0.heap.size w0 w' := hb.grown hg hb.size hr
/-- append(own, b0, .., bm), its literal behind -/
theorem wpList_append_lit {P : Program} {w : World} {ops : Array Oper} {rest : List Oper} {o : Oper} {a : Act} {Q : Exit → Act → World → Prop} (hgd : o.guard = none) (s x : Operand) (t : TypeId)
    (ho : o.op = .call { callee := .builtin .append, args := #[s, x], argTypes := #[t, t] })
    (T : TypeId) (ht : P.underlying t = some (.slice T)) (hinfo : (P.info? T).map (fun i => (i.zero, i.size, i.bytes)) = some (some (.int .u8 0), 1, 1))
    (B : Nat) (v : Value) (l : List (BitVec 8)) (hs : a.eval s = v) (hown : OwnB T B w v l) (m : Nat) (l2 : List (BitVec 8)) (hl2 : l2.length = m) (cs : Array Value) (hcs : cs = (blist l2).toArray) (hx : a.eval x = .slice (some ⟨w.heap.size, 0, none⟩) m m)
    (h63 : l.length + m ≤ 1099511627776) (hbase : B ≤ w.heap.size)
    (h : ∀ v' w', OwnB T B w' v' (l ++ l2) → (w.alloc (.cells cs T)).grownBy w' v.ownBlock → wpList P ops Q rest (a.put o.dst v') w') : wpList P ops Q (o :: rest) a (w.alloc (.cells cs T)) := by
  obtain ⟨i0, hi, hz0, hz1, hz2⟩ := info_parts hinfo
  refine wpList_append_own (w.alloc (.cells cs T)) hgd s x t ho B T i0 (.int .u8 0) 1 1 ht hi hz0 hz1 hz2 rfl (by decide) v _ _ hs (World.ownsRow.alloc hown _) ⟨w.heap.size, 0, none⟩ m m (blist l2) hx (by rw [blist_length, hl2, Nat.mul_one]) (fun j u hj => ?_) (blist_one _) (by unfold maxLen; omega) (by omega) (by rw [World.size_alloc]; omega) ?_
  · rw [Addr.add_mid, Nat.zero_add, (Has.fresh w T cs).cell, hcs, ← Array.getElem?_toList]
    exact hj
  · intro v' w' h1 h2 _
    exact h v' w' (OwnB.all hl2 h1) h2
/-- the empty slice as a literal -/
theorem OwnB.empty {T : TypeId} {B : Nat} {w1 : World} {g : Nat} (hB : B ≤ g) (hh : Has w1 g T #[]) : OwnB T B w1 (.slice (some ⟨g, 0, none⟩) 0 0) [] :=
  ⟨rfl, .inr ⟨g, 0, #[], rfl, hB, hh, Nat.le_refl _, by unfold maxLen; omega, rfl, rfl⟩⟩
/-- append(own, a...), a whatever -/
theorem wpList_append_bytes {P : Program} {w : World} {ops : Array Oper} {rest : List Oper} {o : Oper} {a : Act} {Q : Exit → Act → World → Prop} (hgd : o.guard = none) (s x : Operand) (t : TypeId)
    (ho : o.op = .call { callee := .builtin .append, args := #[s, x], argTypes := #[t, t] })
    (T : TypeId) (ht : P.underlying t = some (.slice T)) (hinfo : (P.info? T).map (fun i => (i.zero, i.size, i.bytes)) = some (some (.int .u8 0), 1, 1))
    (B : Nat) (v : Value) (l : List (BitVec 8)) (hs : a.eval s = v) (hown : OwnB T B w v l) (ad : Option Addr) (m c : Nat) (l2 : List (BitVec 8)) (hx : a.eval x = .slice ad m c) (hw : Bytes8 w ad m l2) (hc : ad = none → c = 0)
    (h63 : l.length + m ≤ 1099511627776) (hbase : B ≤ w.heap.size)
    (h : ∀ v' w', OwnB T B w' v' (l ++ l2) → w.grownBy w' v.ownBlock → wpList P ops Q rest (a.put o.dst v') w') : wpList P ops Q (o :: rest) a w := by
  obtain ⟨i0, hi, hz0, hz1, hz2⟩ := info_parts hinfo
  obtain ⟨hl2, hm, hcell⟩ := hw
  rcases ad with _ | ad
  · have h0 : m = 0 := by
      rcases Nat.eq_zero_or_pos m with h0 | h0
      · exact h0
      · obtain ⟨_, e, _⟩ := hcell 0 h0
        cases e
    subst h0
    obtain rfl := List.length_eq_zero_iff.1 hl2
    obtain rfl := hc rfl
    exact wpList_append_own_none hgd s x t ho B T i0 1 ht hi v _ _ hs hown hx (h v w (by simpa using hown) (World.grownBy.refl w _))
  · refine wpList_append_own w hgd s x t ho B T i0 (.int .u8 0) 1 1 ht hi hz0 hz1 hz2 rfl (by decide) v _ _ hs hown ad m c (blist l2) hx (by rw [blist_length, hl2, Nat.mul_one]) (fun j u hj => ?_) (blist_one _) (by unfold maxLen; omega) (by omega) hbase ?_
    · have hj2 : j < l2.length := by
        have := (List.getElem?_eq_some_iff.1 hj).1
        rwa [blist_length] at this
      obtain ⟨ad', e, hx2⟩ := hcell j (by omega)
      injection e with e
      subst e
      rw [hx2, ← hj, blist_at l2 j hj2]
    · intro v' w' h1 h2 _
      exact h v' w' (OwnB.all hl2 h1) h2
/-! strings -/
def strB (l : List (BitVec 8)) : ByteArray := strOfNums (l.map nb8)
theorem strB_append (l m : List (BitVec 8)) : strB l ++ strB m = strB (l ++ m) := by
  unfold strB strOfNums
  apply ByteArray.ext
  simp
theorem strB_size (l : List (BitVec 8)) : (strB l).size = l.length := by
  unfold strB
  rw [strOfNums_size, List.length_map]
theorem run_string {P : Program} (src dst e : TypeId) (hs : P.underlying src = some (.slice e)) (he : P.underlying e = some (.int .u8)) (hd : P.underlying dst = some .string) {w : World} {a : Option Addr} {n c : Nat} {l : List (BitVec 8)} (h : Bytes8 w a n l) :
    (convert src dst (.slice a n c)).run P w = .ok (.string (strB l)) w := by
  obtain ⟨hl, _, hc⟩ := h
  rcases Nat.eq_zero_or_pos n with h0 | h0
  · subst h0
    obtain rfl := List.length_eq_zero_iff.1 hl
    rcases a with _ | a
    · exact run_convert_bytes_nil w src e hs he 0 c dst hd
    · rw [run_convert_bytes_string w src dst e _ 0 c hs he hd, run_bytesToString w a 0 c [] (run_loadCells_list w a [] (fun j v hj => by simp at hj))]
      rfl
  · obtain ⟨ad, rfl, _⟩ := hc 0 h0
    have h1 : (loadCells ad n).run P w = .ok ((l.map nb8).map (Value.int .u8)).toArray w := by
      have := run_loadCells_list (P := P) w ad (blist l) (fun j v hj => by
        have hjl : j < l.length := by
          have := (List.getElem?_eq_some_iff.1 hj).1
          rwa [blist_length] at this
        obtain ⟨_, e, hx⟩ := hc j (by omega)
        injection e with e
        subst e
        rw [hx, ← hj, blist_at l j hjl])
      rw [blist_length, hl] at this
      rw [this]
      simp [blist]
    rw [run_convert_bytes_string w src dst e _ n c hs he hd, run_bytesToString w ad n c _ h1, foldl_push_bytes]
    unfold strB strOfNums
    simp [ByteArray.empty, ByteArray.emptyWithCapacity]
    rfl
section
variable {H : Type} {enc : TypeId × Value → H} {P : Program} {W : World} {base : Nat} {v : Value} {d : DataW H} {p : List MemPlace}
theorem u8_of_wf {a : Int} (h : (Lit.int .u8 a).wf = true) : ∃ x : BitVec 8, a = nb8 x := by
  have := bounds_u8 h
  exact u8_of_bounds this.1 (by omega)
theorem u8_list : ∀ {zs : List Int}, (∀ n ∈ zs, (Lit.int .u8 n).wf = true) → ∃ l : List (BitVec 8), zs = l.map nb8
  | [], _ => ⟨[], rfl⟩
  | z :: zs, h => by
    obtain ⟨x, rfl⟩ := u8_of_wf (h z (by simp))
    obtain ⟨l, rfl⟩ := u8_list (zs := zs) (fun n hn => h n (by simp [hn]))
    exact ⟨x :: l, rfl⟩
theorem bytes_of_row {w : World} {a : Option Addr} {len cap : Nat} {zs : List Int} (h : IsRow .u8 w a len cap zs) : ∃ l, Bytes8 w a len l := by
  rcases h with ⟨rfl, rfl, rfl, rfl⟩ | ⟨x, rfl, hl, hm, hz, hc, hw⟩
  · exact ⟨[], bytes_none w⟩
  · obtain ⟨l, rfl⟩ := u8_list hw
    rw [List.length_map] at hz
    refine ⟨l.take len, by simp; omega, by omega, fun i hi => ⟨x, rfl, ?_⟩⟩
    rw [hc i (by rw [List.length_map]; omega)]
    congr 2
    unfold cb
    rw [List.getD_eq_getElem?_getD, List.getD_eq_getElem?_getD, List.getElem?_map, List.getElem?_take, if_pos hi]
    have : i < l.length := by omega
    rw [List.getElem?_eq_getElem this]
    rfl
theorem arg_bytes {t e : TypeId} (ht : P.underlying t = some (.slice e)) (he : P.underlying e = some (.int .u8)) (hc : P.cellsOf e = 1) (o : Value.okWide P W .any base t v) (h : DataW.Trod enc P W 0 (fun _ => true) true t v d p) :
    ∃ (a : Option Addr) (n c : Nat) (l : List (BitVec 8)), v = .slice a n c ∧ Bytes8 W a n l ∧ n ≤ c ∧ (a = none → c = 0) := by
  obtain ⟨a, n, c, rfl⟩ := okWide_slice ht o
  obtain ⟨fuel, hf⟩ := h
  refine ⟨a, n, c, ?_⟩
  rcases open_ints ht he hc hf with ⟨hcs, _⟩ | ⟨x, l, cp, zs, hcs, _, hl, hm, hz, _, hcell, hwz⟩
  · simp [Value.cells] at hcs
    obtain ⟨rfl, rfl, rfl⟩ := hcs
    exact ⟨[], rfl, bytes_none W, Nat.le_refl _, fun _ => rfl⟩
  · simp [Value.cells] at hcs
    obtain ⟨rfl, rfl, rfl⟩ := hcs
    obtain ⟨l, hw⟩ := bytes_of_row (w := W) (.inr ⟨_, rfl, hl, hm, by simpa using hz, hcell, hwz⟩)
    exact ⟨l, rfl, hw, hl, fun e => by cases e⟩
end
end Go.Proofs.YtagjolbpmhbifaaGreatDoor

/-! More rules of the walk for unsigned integers. Nothing of the program. -/
namespace Go.Proofs.YtagjolbpmhbifaaGreatDoor
open Go
section
variable (t : TypeId)
@[go_sem high] theorem u64_mul_vl (y : BitVec 64) (n : Nat) : binOp .mul t (.int .u64 (nb64 y)) (.int .u64 (no_index (OfNat.ofNat n))) = pure (.int .u64 (nb64 (y * BitVec.ofNat 64 n))) := by
  rw [binOp_mul]; show pure (Value.int .u64 (IntKind.u64.wrap (nb64 y * (n : Int)))) = _
  congr 2
  have e : (y * BitVec.ofNat 64 n).toNat = (y.toNat * n) % 2 ^ 64 := by rw [BitVec.toNat_mul, BitVec.toNat_ofNat, Nat.mul_mod_mod]
  rw [IntKind.wrap_u64]
  show ((y.toNat : Nat) : Int) * (n : Int) % _ = (((y * BitVec.ofNat 64 n).toNat : Nat) : Int)
  rw [e]
  rfl
@[go_sem high] theorem u32_sub_lv (y : BitVec 32) (n : Nat) : binOp .sub t (.int .u32 (no_index (OfNat.ofNat n))) (.int .u32 (nb32 y)) = pure (.int .u32 (nb32 (BitVec.ofNat 32 n - y))) := by
  rw [binOp_sub]; show pure (Value.int .u32 (IntKind.u32.wrap ((n : Int) - nb32 y))) = _
  congr 2
  rw [IntKind.wrap_u32']
  have e : (BitVec.ofNat 32 n - y).toNat = (2 ^ 32 - y.toNat + n % 2 ^ 32) % 2 ^ 32 := by rw [BitVec.toNat_sub, BitVec.toNat_ofNat]
  have hy := y.isLt
  show ((n : Int) - ((y.toNat : Nat) : Int)) % _ = (((BitVec.ofNat 32 n - y).toNat : Nat) : Int)
  rw [e]
  omega
@[go_sem high] theorem u64_add_l (x : BitVec 64) (n : Nat) : binOp .add t (.int .u64 (nb64 x)) (.int .u64 (no_index (OfNat.ofNat n))) = pure (.int .u64 (nb64 (x + BitVec.ofNat 64 n))) := by
  rw [binOp_add]; show pure (Value.int .u64 (IntKind.u64.wrap (nb64 x + (n : Int)))) = _
  congr 2
  rw [IntKind.wrap_u64]
  have e : (x + BitVec.ofNat 64 n).toNat = (x.toNat + n) % 2 ^ 64 := by rw [BitVec.toNat_add, BitVec.toNat_ofNat, Nat.add_mod_mod]
  show (((x.toNat : Nat) : Int) + (n : Int)) % _ = (((x + BitVec.ofNat 64 n).toNat : Nat) : Int)
  rw [e]
  rfl
end
@[go_sem high] theorem u8_to_u64 (x : BitVec 8) : IntKind.u64.wrap (nb8 x) = nb64 (x.setWidth 64) := by
  rw [IntKind.wrap_u64]; simp only [nb8, nb64, BitVec.toNat_setWidth]; have := x.isLt; omega
@[go_sem high] theorem u64_to_u8 (x : BitVec 64) : IntKind.u8.wrap (nb64 x) = nb8 (x.setWidth 8) := by
  rw [IntKind.wrap_u8]; simp only [nb8, nb64, BitVec.toNat_setWidth]; have := x.isLt; omega
theorem nat_to_u64 (r : Nat) : IntKind.u64.wrap (r : Int) = nb64 (BitVec.ofNat 64 r) := by
  rw [IntKind.wrap_u64]; simp only [nb64, BitVec.toNat_ofNat]; omega
end Go.Proofs.YtagjolbpmhbifaaGreatDoor

/-! Digests: arrays of 32 bytes, and slices of them, that came in. -/
namespace Go.Proofs.YtagjolbpmhbifaaGreatDoor
open Go Go.RowKit Go.ChangeShapes Go.WideShapes
theorem blist_of : ∀ (cs : List Value), (∀ v ∈ cs, ∃ x : BitVec 8, v = .int .u8 (nb8 x)) → ∃ l, cs = blist l ∧ l.length = cs.length
  | [], _ => ⟨[], rfl, rfl⟩
  | v :: cs, h => by
    obtain ⟨x, rfl⟩ := h v (by simp)
    obtain ⟨l, rfl, hl⟩ := blist_of cs (fun u hu => h u (by simp [hu]))
    exact ⟨x :: l, rfl, congrArg (· + 1) hl⟩
section
variable {H : Type} {enc : TypeId × Value → H} {P : Program} {w : World} {base : Nat} {spare : Nat → Bool} {held : Bool}
theorem open_bytes32 {t e : TypeId} {k fuel : Nat} {cs : List Value} {x : DataW H × List MemPlace} (ht : P.underlying t = some (.array k e)) (he : P.underlying e = some (.int .u8)) (hc : P.cellsOf e = 1) (hC : P.cellsOf t = k) (h : DataW.trod enc P w base spare held fuel t cs = some x) :
    ∃ l : List (BitVec 8), cs = blist l ∧ l.length = k := by
  obtain ⟨xs, m, _, _, hlen, hxl, hg⟩ := DataW.trod_array ht h
  rw [hC] at hlen
  obtain ⟨l, e1, e2⟩ := blist_of cs (fun v hv => by
    obtain ⟨i, hi, rfl⟩ := List.mem_iff_getElem.1 hv
    have h1 := hg i (by omega)
    rw [hc, Nat.mul_one] at h1
    have e1 : (cs.drop i).take 1 = [cs[i]] := by
      rw [List.drop_eq_getElem_cons hi]
      rfl
    rw [e1, List.getElem?_eq_getElem (by omega)] at h1
    obtain ⟨z, e, _, hw⟩ := DataW.trod_int he h1
    obtain ⟨e, _⟩ := List.cons.inj e
    obtain ⟨b, rfl⟩ := u8_of_wf hw
    exact ⟨b, e⟩)
  exact ⟨l, e1, e2.trans hlen⟩
end
section
variable {H : Type} {enc : TypeId × Value → H} {P : Program} {W : World} {base : Nat} {v : Value} {d : DataW H} {p : List MemPlace}
theorem arg_bytes32 {t e : TypeId} {k : Nat} (ht : P.underlying t = some (.array k e)) (he : P.underlying e = some (.int .u8)) (hc : P.cellsOf e = 1) (hC : P.cellsOf t = k) (o : Value.okWide P W .any base t v) (h : DataW.Trod enc P W 0 (fun _ => true) true t v d p) :
    ∃ l : List (BitVec 8), v = .agg (blist l).toArray ∧ l.length = k := by
  have hv : ∃ cs : Array Value, v = .agg cs := by
    simp only [Value.okWide, ht] at o
    obtain ⟨cs, h1, _⟩ := o
    exact ⟨cs, h1⟩
  obtain ⟨cs, rfl⟩ := hv
  obtain ⟨fuel, hf⟩ := h
  obtain ⟨l, e1, e2⟩ := open_bytes32 ht he hc hC hf
  exact ⟨l, by rw [← e1]; rfl, e2⟩
end
theorem size_hash {l : List (BitVec 8)} (hl : l.length = 32) : (Tryz.prog.info? 30).map (·.size) = some (blist l).length := by
  rw [blist_length, hl]
  kernel_rfl
theorem Has.range8 {w : World} {g : Nat} {T : TypeId} {l : List (BitVec 8)} (h : Has w g T (blist l).toArray) : w.rangeAt g 0 (blist l) := h.range
theorem wpList_load_run {P : Program} {ops : Array Oper} {rest : List Oper} {op : Oper} {a : Act} {w : World} {Q : Exit → Act → World → Prop} (hgd : op.guard = none) (ty : TypeId) (x : Operand) (ho : op.op = .load ty x)
    (p v : Value) (hx : a.eval x = p) (hr : (Instr.loadAt ty p).run P w = .ok v w) (h : wpList P ops Q rest (a.put op.dst v) w) : wpList P ops Q (op :: rest) a w :=
  wpList_plain hgd fun K hK => by
    unfold Oper.wp execOp
    simp only [ho, hx, Sem.run_bind, Sem.run_pure, Result.andThen_ok, hr]
    exact hK _ _ h
theorem putAll_to : ∀ (vs : List Value) (cs : Array Value) (o : Nat), o + vs.length = cs.size → putAll cs o vs = (cs.toList.take o ++ vs).toArray
  | [], cs, o, h => by
    have : cs.toList.take o = cs.toList := List.take_of_length_le (by rw [Array.length_toList]; simp at h; omega)
    rw [List.append_nil, this]
    rfl
  | v :: vs, cs, o, h => by
    have hs : (cs.setIfInBounds o v).size = cs.size := Array.size_setIfInBounds
    rw [putAll, putAll_to vs _ (o + 1) (by rw [hs]; simp only [List.length_cons] at h; omega)]
    have ho : o < cs.toList.length := by rw [Array.length_toList]; simp only [List.length_cons] at h; omega
    rw [Array.toList_setIfInBounds]
    congr 1
    have : (cs.toList.set o v).take (o + 1) = cs.toList.take o ++ [v] := by
      rw [List.take_succ_eq_append_getElem (by rw [List.length_set]; exact ho), List.getElem_set_self, List.take_set_of_le (Nat.le_refl _)]
    rw [this, List.append_assoc]
    rfl
/-- a block of k cells, written whole -/
theorem Has.whole {w : World} {g : Nat} {T : TypeId} {cs : Array Value} {l : List (BitVec 8)} (h : Has w g T cs) (hl : l.length = cs.size) : Has (w.setCells g 0 (blist l)) g T (blist l).toArray := by
  have := h.putAll (blist l) 0
  rwa [putAll_to (blist l) cs 0 (by rw [blist_length, hl]; omega)] at this
/-- a new array of 32 bytes -/
abbrev z32 : Array Value := #[.int .u8 0, .int .u8 0, .int .u8 0, .int .u8 0, .int .u8 0, .int .u8 0, .int .u8 0, .int .u8 0, .int .u8 0, .int .u8 0, .int .u8 0, .int .u8 0, .int .u8 0, .int .u8 0, .int .u8 0, .int .u8 0, .int .u8 0, .int .u8 0, .int .u8 0, .int .u8 0, .int .u8 0, .int .u8 0, .int .u8 0, .int .u8 0, .int .u8 0, .int .u8 0, .int .u8 0, .int .u8 0, .int .u8 0, .int .u8 0, .int .u8 0, .int .u8 0]
theorem there_new (w : World) (T : TypeId) {l : List (BitVec 8)} (hl : l.length = 32) : (w.alloc (.cells z32 T)).there w.heap.size 0 (blist l).toArray.size :=
  (Has.fresh w T z32).there 0 _ (by rw [List.size_toArray, blist_length, hl]; decide)
theorem size_hash' {l : List (BitVec 8)} (hl : l.length = 32) : (Tryz.prog.info? 30).map (·.size) = some (blist l).toArray.size := by
  rw [List.size_toArray]; exact size_hash hl
theorem one_hash (l : List (BitVec 8)) : (blist l).toArray.all (·.oneCell') = true :=
  Array.all_eq_true_iff_forall_mem.2 fun v hv => blist_one l v (by simpa using hv)
/-- a new array into which a digest is stored -/
theorem hash_new {w w' : World} {T : TypeId} {l : List (BitVec 8)} (hl : l.length = 32) (h : w' = (w.alloc (.cells z32 T)).setCells w.heap.size 0 (blist l)) : Has w' w.heap.size T (blist l).toArray ∧ Below w.heap.size w w' := by
  subst h
  exact ⟨(Has.fresh w T z32).whole (by rw [hl]; rfl), below_setAll (Nat.le_refl _) _ 0 ((Below.refl _ _).alloc (Nat.le_refl _) _)⟩
/-- a slice of arrays of k bytes: readable where there are any -/
def Rows8 (k : Nat) (w : World) (a : Option Addr) (n : Nat) (L : List (List (BitVec 8))) : Prop :=
  L.length = n ∧ n ≤ maxLen ∧ (∀ l, l ∈ L → l.length = k) ∧ ∀ i, i < n → ∃ x, a = some x ∧ ∀ j, j < k → w.cell? (x.add (i * k + j)) = some (.int .u8 (nb8 (cb (L.getD i []) j)))
theorem Rows8.keep {k : Nat} {w w' : World} {a : Option Addr} {n : Nat} {L : List (List (BitVec 8))} (h : Rows8 k w a n L) (hk : ∀ p : Addr, (w.cell? p).isSome = true → w'.cell? p = w.cell? p) : Rows8 k w' a n L := by
  refine ⟨h.1, h.2.1, h.2.2.1, fun i hi => ?_⟩
  obtain ⟨x, rfl, hx⟩ := h.2.2.2 i hi
  exact ⟨x, rfl, fun j hj => by rw [hk _ (by rw [hx j hj]; rfl)]; exact hx j hj⟩
theorem Rows8.below {k : Nat} {w w' : World} {a : Option Addr} {n : Nat} {L : List (List (BitVec 8))} (h : Rows8 k w a n L) (hb : Below w.heap.size w w') : Rows8 k w' a n L :=
  h.keep fun _ hp => hb.cell (isSome_lt hp)
theorem Rows8.past {k : Nat} {w : World} {a : Option Addr} {n : Nat} {L : List (List (BitVec 8))} (h : Rows8 k w a n L) (o : Obj) : Rows8 k (w.alloc o) a n L := h.keep fun p hp => World.cell?_alloc_lt w o p (isSome_lt hp)
theorem Rows8.draw {k : Nat} {w : World} {a : Option Addr} {n : Nat} {L : List (List (BitVec 8))} (h : Rows8 k w a n L) : Rows8 k w.drew a n L := h
theorem Rows8.len {k : Nat} {w : World} {a : Option Addr} {n i : Nat} {L : List (List (BitVec 8))} (h : Rows8 k w a n L) (hi : i < n) : (L.getD i []).length = k := by
  refine h.2.2.1 _ ?_
  rw [List.getD_eq_getElem?_getD, List.getElem?_eq_getElem (by rw [h.1]; exact hi)]
  exact List.getElem_mem _
theorem add_mul_add (x : Addr) (a b : Nat) : (x.add a).add b = x.add (a + b) := Addr.add_add x a b
/-- an array of k bytes is read whole -/
theorem run_load_bytes {P : Program} {t e : TypeId} {k : Nat} (ht : P.underlying t = some (.array k e)) (hs : (P.info? t).map (·.size) = some k) {w : World} {a : Addr} {l : List (BitVec 8)} (hl : l.length = k) (hc : ∀ j, j < k → w.cell? (a.add j) = some (.int .u8 (nb8 (cb l j)))) :
    (Instr.loadAt t (.pointer (some a))).run P w = .ok (.agg (blist l).toArray) w := by
  have h1 : (loadCells a k).run P w = .ok (blist l).toArray w := by
    have := run_loadCells_list (P := P) w a (blist l) (fun j v hj => by
      have hjl : j < l.length := by
        have := (List.getElem?_eq_some_iff.1 hj).1
        rwa [blist_length] at this
      rw [hc j (by omega), ← hj, blist_at l j hjl])
    rwa [blist_length, hl] at this
  cases hq : P.info? t with
  | none => simp [hq] at hs
  | some i =>
    have hz : i.size = k := by simpa [hq] using hs
    have hagg : (isAgg t).run P w = .ok true w := by
      unfold isAgg
      rw [Sem.run_bind, run_underlying ht w]
      rfl
    simp [Instr.loadAt, Instr.sureAddr, loadVar, Sem.run_bind, hagg, sizeOf, typeInfo, hq, hz, h1]
theorem Has.load_bytes {P : Program} {t e : TypeId} {k : Nat} (ht : P.underlying t = some (.array k e)) (hs : (P.info? t).map (·.size) = some k) {w : World} {g : Nat} {T : TypeId} {l : List (BitVec 8)} (hl : l.length = k) (h : Has w g T (blist l).toArray) :
    (Instr.loadAt t (.pointer (some ⟨g, 0, none⟩))).run P w = .ok (.agg (blist l).toArray) w :=
  run_load_bytes ht hs hl fun j hj => by
    rw [Addr.add_mid, Nat.zero_add, h.cell, List.getElem?_toArray]
    exact blist_at l j (by omega)
theorem Rows8.load {P : Program} {t e : TypeId} {k : Nat} (ht : P.underlying t = some (.array k e)) (hs : (P.info? t).map (·.size) = some k) {w : World} {a : Option Addr} {n i : Nat} {L : List (List (BitVec 8))} (h : Rows8 k w a n L) (hi : i < n) :
    ∃ x, a = some x ∧ (Instr.loadAt t (.pointer (some (x.add (i * k))))).run P w = .ok (.agg (blist (L.getD i [])).toArray) w := by
  obtain ⟨x, rfl, hx⟩ := h.2.2.2 i hi
  exact ⟨x, rfl, run_load_bytes ht hs (h.len hi) fun j hj => by rw [Addr.add_add]; exact hx j hj⟩
section
variable {H : Type} {enc : TypeId × Value → H} {P : Program} {W : World} {base : Nat} {v : Value} {d : DataW H} {p : List MemPlace}
theorem exists_list {k : Nat} (W : World) (x : Addr) : ∀ (n : Nat) (_ : ∀ i, i < n → ∃ l : List (BitVec 8), l.length = k ∧ ∀ j, j < k → W.cell? (x.add (i * k + j)) = some (.int .u8 (nb8 (cb l j)))),
    ∃ L : List (List (BitVec 8)), L.length = n ∧ (∀ l, l ∈ L → l.length = k) ∧ ∀ i, i < n → ∀ j, j < k → W.cell? (x.add (i * k + j)) = some (.int .u8 (nb8 (cb (L.getD i []) j)))
  | 0, _ => ⟨[], rfl, (fun l hl => nomatch hl), fun i hi => absurd hi (Nat.not_lt_zero _)⟩
  | n + 1, h => by
    obtain ⟨L, h1, h2, h3⟩ := exists_list W x n (fun i hi => h i (by omega))
    obtain ⟨l, h4, h5⟩ := h n (by omega)
    refine ⟨L ++ [l], by simp [h1], fun u hu => ?_, fun i hi j hj => ?_⟩
    · rcases List.mem_append.1 hu with h | h
      · exact h2 u h
      · rw [List.mem_singleton.1 h]; exact h4
    · rcases Nat.lt_or_ge i n with hlt | hge
      · rw [h3 i hlt j hj, List.getD_eq_getElem?_getD, List.getD_eq_getElem?_getD, List.getElem?_append_left (by omega)]
      · obtain rfl : i = n := by omega
        rw [h5 j hj, List.getD_eq_getElem?_getD, List.getElem?_append_right (by omega), h1, Nat.sub_self]
        rfl
theorem arg_rows8 {t r e : TypeId} {k : Nat} (ht : P.underlying t = some (.slice r)) (hr : P.underlying r = some (.array k e)) (he : P.underlying e = some (.int .u8)) (hc : P.cellsOf e = 1) (hC : P.cellsOf r = k) (o : Value.okWide P W .any base t v) (h : DataW.Trod enc P W 0 (fun _ => true) true t v d p) :
    ∃ (a : Option Addr) (n c : Nat) (L : List (List (BitVec 8))), v = .slice a n c ∧ Rows8 k W a n L ∧ n ≤ c ∧ (a = none → c = 0) := by
  obtain ⟨a, n, c, rfl⟩ := okWide_slice ht o
  obtain ⟨fuel, hf⟩ := h
  refine ⟨a, n, c, ?_⟩
  rcases Go.Deep.open_slice ht hf with ⟨hcs, _⟩ | ⟨x, len, cap, m, q, D, Pl, hcs, _, hl, hm, hmm, _, hcell⟩
  · simp [Value.cells] at hcs
    obtain ⟨rfl, rfl, rfl⟩ := hcs
    exact ⟨[], rfl, ⟨rfl, by unfold maxLen; omega, (fun l hl => by cases hl), fun i hi => by omega⟩, Nat.le_refl _, fun _ => rfl⟩
  · simp [Value.cells] at hcs
    obtain ⟨rfl, rfl, rfl⟩ := hcs
    obtain ⟨L, h1, h2, h3⟩ := exists_list (k := k) W x n (fun i hi => by
      obtain ⟨cs, hcs, htr⟩ := hcell i (by split at hmm <;> omega)
      obtain ⟨l, rfl, hll⟩ := open_bytes32 hr he hc hC htr
      rw [hC] at hcs
      obtain ⟨_, hlen, hat⟩ := World.cells?_some hcs
      exact ⟨l, hll, fun j hj => by rw [← Addr.add_add, hat j hj, blist_at l j (by omega)]⟩)
    exact ⟨L, rfl, ⟨h1, by omega, h2, fun i hi => ⟨x, rfl, fun j hj => h3 i hi j hj⟩⟩, hl, fun e => by cases e⟩
end
end Go.Proofs.YtagjolbpmhbifaaGreatDoor

/-! A table of words at package level: what a row's condition on it gives a walk. Nothing of the program. -/
namespace Go.Proofs.YtagjolbpmhbifaaGreatDoor
open Go Go.RowKit
/-- the cells of block g are the words l -/
def Tab32 (w : World) (g : Nat) (l : List (BitVec 32)) : Prop := ∀ i, i < l.length → w.cell? ⟨g, i, none⟩ = some (.int .u32 (nb32 (l.getD i 0)))
theorem Tab32.keep {w w' : World} {g : Nat} {l : List (BitVec 32)} (h : Tab32 w g l) (hk : ∀ p : Addr, (w.cell? p).isSome = true → w'.cell? p = w.cell? p) : Tab32 w' g l := fun i hi => by
  rw [hk _ (by rw [h i hi]; rfl)]
  exact h i hi
theorem Tab32.below {w w' : World} {g : Nat} {l : List (BitVec 32)} (h : Tab32 w g l) (hb : Below w.heap.size w w') : Tab32 w' g l := h.keep fun _ hp => hb.cell (isSome_lt hp)
theorem Tab32.past {w : World} {g : Nat} {l : List (BitVec 32)} (h : Tab32 w g l) (o : Obj) : Tab32 (w.alloc o) g l := h.keep fun p hp => World.cell?_alloc_lt w o p (isSome_lt hp)
theorem Tab32.draw {w : World} {g : Nat} {l : List (BitVec 32)} (h : Tab32 w g l) : Tab32 w.drew g l := h
theorem Tab32.draws {w : World} {g : Nat} {l : List (BitVec 32)} (h : Tab32 w g l) (n : Nat) : Tab32 (w.drewN n) g l := h
theorem Tab32.lt {w : World} {g : Nat} {l : List (BitVec 32)} (h : Tab32 w g l) (hl : 0 < l.length) : g < w.heap.size := isSome_lt (p := ⟨g, 0, none⟩) (by rw [h 0 hl]; rfl)
theorem Tab32.under {w w' : World} {B g : Nat} {l : List (BitVec 32)} (h : Tab32 w g l) (hb : Below B w w') (hg : g < B) : Tab32 w' g l := fun i hi => by
  rw [hb.cell (p := ⟨g, i, none⟩) hg]
  exact h i hi
/-- the datum of such a table -/
def tabD {H : Type} (l : List (BitVec 32)) : DataW H := .agg (l.map fun x => .lit (.int .u32 (nb32 x)))
section
variable {P : Program} {w : World}
theorem laid_tab {n : String} {d : DataW Unit} {r : List (String × DataW Unit)} {ps : List MemPlace} {g : Nat} {t e : TypeId} {k : Nat} {l : List (BitVec 32)}
    (h : DataW.LaidVars P w ((n, d) :: r) ps) (hg : P.globalNamed n = some g) (ht : (P.globals[g]?).map (·.type) = some t) (hu : P.underlying t = some (.array k e)) (he : P.underlying e = some (.int .u32)) (hc : P.cellsOf e = 1) (hd : d = tabD l) :
    Tab32 w g l ∧ ∃ q, DataW.LaidVars P w r q := by
  obtain ⟨g', t', cs, fuel, p, q, hg', ht', hv, hx, hr, _⟩ := h
  obtain rfl := Option.some.inj (hg.symm.trans hg')
  obtain rfl := Option.some.inj (ht.symm.trans ht')
  refine ⟨?_, q, hr⟩
  obtain ⟨xs, m, _, hx1, hlen, hxl, hel⟩ := DataW.trod_array hu hx
  subst hd
  simp only [tabD, Prod.mk.injEq, DataW.agg.injEq] at hx1
  intro i hi
  have hxs : (xs.map (·.1)).length = l.length := by rw [← hx1.1, List.length_map]
  rw [List.length_map] at hxs
  have h1 := hel i (by omega)
  rw [hc, Nat.mul_one] at h1
  have hix : i < xs.length := by omega
  rw [List.getElem?_eq_getElem hix] at h1
  obtain ⟨z, e1, e2, hw⟩ := DataW.trod_int he h1
  have hx2 := congrArg (fun L => L[i]?) hx1.1
  simp only [List.getElem?_map, List.getElem?_eq_getElem hi, List.getElem?_eq_getElem hix, Option.map_some, Option.some.injEq] at hx2
  rw [e2] at hx2
  simp only [DataW.lit.injEq, Lit.int.injEq, true_and] at hx2
  rw [World.var?_cell hg hv i, ← Array.getElem?_toList, List.getD_eq_getElem?_getD, List.getElem?_eq_getElem hi]
  have h3 : (cs.toList.drop i)[0]? = some (.int .u32 z) := by
    have := congrArg (fun L => L[0]?) e1
    simpa [List.getElem?_take] using this
  rw [List.getElem?_drop, Nat.add_zero] at h3
  rw [h3]
  simp only [Option.getD_some]
  rw [hx2]
end
end Go.Proofs.YtagjolbpmhbifaaGreatDoor

/-! A region that only reads, walked in a context of its own: what it makes of the frame is told first. Nothing of the program. -/
namespace Go.Proofs.YtagjolbpmhbifaaGreatDoor
open Go Go.RowKit
theorem stillUpon_mono {P : Program} {o : Oper} {a : Act} {w : World} {K K' : Act → Prop} (hk : ∀ a, K a → K' a) (r : Result Next) (h : o.stillUpon P a w K r) : o.stillUpon P a w K' r := by
  unfold Oper.stillUpon at h ⊢
  split at h
  · exact ⟨h.1, hk _ h.2⟩
  · exact ⟨h.1, hk _ h.2⟩
  · obtain ⟨h1, v, h2, h3⟩ := h
    exact ⟨h1, v, h2, hk _ h3⟩
  · exact h.elim
theorem wpStill_mono {P : Program} {ops : Array Oper} {w : World} {Q Q' : Act → Prop} (hq : ∀ a, Q a → Q' a) : ∀ (l : List Oper) (a : Act), wpStill P ops w Q l a → wpStill P ops w Q' l a
  | [], a, h => hq a h
  | o :: rest, a, h => by
    unfold wpStill at h ⊢
    split at h
    · rename_i hw
      rw [if_pos hw]
      exact stillUpon_mono (wpStill_mono hq rest) _ h
    · rename_i hw
      rw [if_neg hw]
      exact wpStill_mono hq rest _ h
theorem still_then {P : Program} {ops : Array Oper} {w : World} {Q : Act → Prop} {l : List Oper} {a : Act} (A : Act) (h : wpStill P ops w (fun a' => a' = A) l a) (hq : Q A) : wpStill P ops w Q l a :=
  wpStill_mono (fun _ e => by rw [e]; exact hq) l a h
end Go.Proofs.YtagjolbpmhbifaaGreatDoor

/-! Arrays whole: read, stored, copied into. Nothing of the program but its types. -/
namespace Go.Proofs.YtagjolbpmhbifaaGreatDoor
open Go Go.RowKit Go.ChangeShapes Go.WideShapes
section
variable {P : Program} {w : World} {g : Nat} {T t : TypeId} {cs : Array Value} {d : TypeDesc}
theorem Has.load_var (h : Has w g T cs) (hu : P.underlying t = some d) (hd : d.isRow = true) (hs : (P.info? t).map (·.size) = some cs.size) : (loadVar t ⟨g, 0, none⟩).run P w = .ok (.agg cs) w := by
  have := run_loadVar_mid (P := P) w g 0 t cs.toList d h.range hu hd (by rw [Array.length_toList]; exact hs)
  rwa [Array.toArray_toList] at this
theorem Has.load_agg (h : Has w g T cs) (hu : P.underlying t = some d) (hd : d.isRow = true) (hs : (P.info? t).map (·.size) = some cs.size) : (Instr.loadAt t (.pointer (some ⟨g, 0, none⟩))).run P w = .ok (.agg cs) w := by
  simp only [Instr.loadAt, Instr.sureAddr, Sem.run_bind, Sem.run_pure, Result.andThen_ok, h.load_var hu hd hs]
theorem Has.whole_cs {cs2 : Array Value} (h : Has w g T cs) (hl : cs2.size = cs.size) : Has (w.setCells g 0 cs2.toList) g T cs2 := by
  have := h.putAll cs2.toList 0
  rwa [putAll_to _ _ 0 (by rw [Array.length_toList]; omega), List.take_zero, List.nil_append, Array.toArray_toList] at this
end
theorem wcells_one (n : Nat) (f : Nat → BitVec 32) : (wcells n f).all (·.oneCell') = true :=
  Array.all_eq_true_iff_forall_mem.2 fun v hv => by
    unfold wcells cellsOf at hv
    simp only [List.mem_toArray, List.mem_map, List.mem_range] at hv
    obtain ⟨j, _, rfl⟩ := hv
    rfl
/-- a table of words is read whole -/
theorem Tab32.load {P : Program} {w : World} {g k : Nat} {t : TypeId} {d : TypeDesc} {l : List (BitVec 32)} (h : Tab32 w g l) (hl : l.length = k) (hu : P.underlying t = some d) (hd : d.isRow = true) (hs : (P.info? t).map (·.size) = some k) :
    (Instr.loadAt t (.pointer (some ⟨g, 0, none⟩))).run P w = .ok (.agg (wcells k fun j => l.getD j 0)) w := by
  have hr : w.rangeAt g 0 (wcells k fun j => l.getD j 0).toList := fun j v hv => by
    rw [Array.getElem?_toList] at hv
    have hj : j < k := by
      rcases Nat.lt_or_ge j k with h1 | h1
      · exact h1
      · rw [Array.getElem?_eq_none (by rw [wcells_size]; exact h1)] at hv; cases hv
    rw [wcells_at _ hj] at hv
    rw [Nat.zero_add, h j (by omega), hv]
  have := run_loadVar_mid (P := P) w g 0 t _ d hr hu hd (by rw [Array.length_toList, wcells_size]; exact hs)
  rw [Array.toArray_toList] at this
  simp only [Instr.loadAt, Instr.sureAddr, Sem.run_bind, Sem.run_pure, Result.andThen_ok, this]
/-- a place of an array value -/
theorem run_index_arr {P : Program} {t e : TypeId} {n : Nat} {k : IntKind} {cs : Array Value} {i : Nat} {v : Value} (h : P.underlying t = some (.array n e)) (hu : P.underlying e = some (.int k)) (hs : (P.info? e).map (·.size) = some 1) (hi : i < n) (hv : cs[i]? = some v) (w : World) :
    (Instr.index t (.agg cs) (.int .i64 (i : Int))).run P w = .ok v w := by
  have h1 : (0 : Int) ≤ (i : Int) ∧ (i : Int) < (n : Int) := by omega
  have hagg : (isAgg e).run P w = .ok false w := by
    unfold isAgg
    rw [Sem.run_bind, run_underlying hu w]
    rfl
  cases hq : P.info? e with
  | none => simp [hq] at hs
  | some inf =>
    have hz : inf.size = 1 := by simpa [hq] using hs
    have hix : (i : Int) < (n : Int) := h1.2
    simp [Instr.index, run_underlying h, asIntOf, hi, sizeOf, typeInfo, hq, hz, part, hagg, hv, Sem.run_bind]
theorem size_byte : (Tryz.prog.info? 5).map (·.size) = some 1 := by kernel_rfl
/-- bytes copied into a block, from place u on -/
theorem copy_bytes_at {T : TypeId} (w0 : World) (g u m n c k : Nat) (a : Option Addr) (l : List (BitVec 8)) (cs : Array Value) (hh : Has w0 g T cs) (hw : Bytes8 w0 a n l) (hk : k = Nat.min n m) (hu : u + m ≤ cs.size) :
    (Builtin.copy_ #[116, 116] 3 #[.slice (some ⟨g, u, none⟩) m m, .slice a n c]).run Tryz.prog w0 = .ok (goInt k) (w0.setCells g u (blist (l.take k))) := by
  have hkn : k ≤ n := by rw [hk]; exact Nat.min_le_left _ _
  have hkm : k ≤ m := by rw [hk]; exact Nat.min_le_right _ _
  have hlen : (l.take k).length = k := by rw [List.length_take, hw.1]; omega
  rcases Nat.eq_zero_or_pos k with h0 | h0
  · subst h0
    have := run_copy_none (P := Tryz.prog) w0 116 116 3 5 (some ⟨g, u, none⟩) a m m n c Tryz.underlying116 size_byte hk.symm
    rw [this, List.take_zero]
    rfl
  · obtain ⟨ad, rfl, _⟩ := hw.2.2 0 (by omega)
    have := run_copy_cells (P := Tryz.prog) w0 116 116 3 5 g u m m ad n c (blist (l.take k)) Tryz.underlying116 size_byte
      (by rw [blist_length, hlen, hk])
      (fun j v hv => by
        have hj : j < k := by
          have := (List.getElem?_eq_some_iff.1 hv).1
          rwa [blist_length, hlen] at this
        obtain ⟨x, e, hx⟩ := hw.2.2 j (by omega)
        injection e with e
        subst e
        rw [hx, ← hv, blist_at (l.take k) j (by omega)]
        congr 3
        unfold cb
        rw [List.getD_eq_getElem?_getD, List.getD_eq_getElem?_getD, List.getElem?_take, if_pos hj])
      (fun j hj => by
        rw [blist_length, hlen] at hj
        rw [hh.cell, Array.getElem?_eq_getElem (by omega)]
        rfl)
      (fun j hj => hh.loose _) (blist_one _)
    rw [this, blist_length, hlen]
end Go.Proofs.YtagjolbpmhbifaaGreatDoor

/-! a drawn region, taken by hand: what is held may grow on the way -/
namespace Go.Proofs.YtagjolbpmhbifaaGreatDoor
open Go Go.RowKit Go.ChangeShapes Go.WideShapes
theorem wpAnyH_mono {P : Program} {ops : Array Oper} {Q : Exit → Act → World → Prop} {md : Region.Mode} {S S' : World → Prop} (hSS : ∀ w, S' w → S w) : ∀ {fuel : Nat} {listed : Array Bool} {a : Act} {w : World}, wpAnyH P md ops Q S' fuel listed a w → wpAnyH P md ops Q S fuel listed a w
  | 0, _, _, _, h => h
  | _ + 1, _, _, _, h => And.intro h.1 (fun i hi => wpOp_mono (fun _ _ g => And.intro (hSS _ g.1) (wpAnyH_mono hSS g.2)) (h.2 i hi))
/-- what is held: all that lies in w -/
def Held (w0 : World) (w : World) : Prop := Below w0.heap.size w0 w
theorem Held.refl (w : World) : Held w w := Below.refl _ _
theorem Held.trans {w0 w1 w2 : World} (h : Held w0 w1) (g : Held w1 w2) : Held w0 w2 := Below.trans h (Below.mono g h.size)
theorem Held.below {w0 w1 : World} (h : Held w0 w1) : Below w0.heap.size w0 w1 := h
theorem Held.of {w0 w1 : World} (h : Below w0.heap.size w0 w1) : Held w0 w1 := h
theorem held_grow {P : Program} {ops : Array Oper} {Q : Exit → Act → World → Prop} {md : Region.Mode} {w0 w1 : World} (h : Held w0 w1) {fuel : Nat} {listed : Array Bool} {a : Act} {w : World} (g : wpAnyH P md ops Q (Held w1) fuel listed a w) : wpAnyH P md ops Q (Held w0) fuel listed a w :=
  wpAnyH_mono (fun _ k => h.trans k) g
/-- what is held: all that lies in w, but for block k -/
def HeldX (k : Nat) (w0 : World) (w : World) : Prop := w0.heap.size ≤ w.heap.size ∧ ∀ j, j < w0.heap.size → j ≠ k → w.heap[j]? = w0.heap[j]?
theorem HeldX.refl (k : Nat) (w : World) : HeldX k w w := ⟨Nat.le_refl _, fun _ _ _ => rfl⟩
theorem HeldX.trans {k : Nat} {w0 w1 w2 : World} (h : HeldX k w0 w1) (g : HeldX k w1 w2) : HeldX k w0 w2 := ⟨Nat.le_trans h.1 g.1, fun j hj hk => (g.2 j (Nat.lt_of_lt_of_le hj h.1) hk).trans (h.2 j hj hk)⟩
theorem HeldX.of {k : Nat} {w0 w1 : World} (h : Below w0.heap.size w0 w1) : HeldX k w0 w1 := ⟨h.size, fun j hj _ => h.block j hj⟩
theorem HeldX.put {k : Nat} {w0 w1 : World} (h : w0.grownBy w1 (some k)) : HeldX k w0 w1 := ⟨h.size, fun j hj hk => h.block j hj (fun e => hk (by injection e))⟩
theorem HeldX.bytes {k : Nat} {w w' : World} {a : Option Addr} {n : Nat} {l : List (BitVec 8)} (hb : HeldX k w w') (h : Bytes8 w a n l) (hne : 0 < n → ∀ x, a = some x → x.block ≠ k) : Bytes8 w' a n l := by
  refine ⟨h.1, h.2.1, fun i hi => ?_⟩
  obtain ⟨x, rfl, hx⟩ := h.2.2 i hi
  have hlt : (x.add i).block < w.heap.size := isSome_lt (by rw [hx]; rfl)
  have hk : (x.add i).block ≠ k := by
    have := hne (by omega) x rfl
    unfold Addr.add
    split <;> exact this
  exact ⟨x, rfl, by rw [World.cell?_of_block (w := w) (hb.2 _ hlt hk)]; exact hx⟩
theorem heldx_grow {P : Program} {ops : Array Oper} {Q : Exit → Act → World → Prop} {md : Region.Mode} {k : Nat} {w0 w1 : World} (h : HeldX k w0 w1) {fuel : Nat} {listed : Array Bool} {a : Act} {w : World} (g : wpAnyH P md ops Q (HeldX k w1) fuel listed a w) : wpAnyH P md ops Q (HeldX k w0) fuel listed a w :=
  wpAnyH_mono (fun _ q => h.trans q) g
theorem put_dst {l l2 : List Value} {ds : List _} {d : Nat} {v : Value} (hl : l.set d v = l2) : ((⟨l.toArray, ds⟩ : Act).put (some d) v) = ⟨l2.toArray, ds⟩ := by
  subst hl
  simp [Act.put]
/-- one that yields whatever came up before: the slot d written out -/
theorem take_at {P : Program} {ops : Array Oper} {Q : Exit → Act → World → Prop} {md : Region.Mode} {S : World → Prop} {oi : Oper} {v : Value} {fuel : Nat} {listed : Array Bool} {l l2 : List Value} {ds : List _} {w : World} (i d : Nat) (hi : ops[i]? = some oi) (hd : oi.dst = some d)
    (hs : Region.noSelect ops = true) (hf : Region.free md ops listed i = true) (hr : (Region.ready md ops listed).contains i = true)
    (hQ : ∀ c a w, Q (.panic c) (a.put oi.dst v) w → Q (.panic c) a w) (hS : S w) (hy : YieldsIf P ops S oi v ⟨l.toArray, ds⟩) (hl : l.set d v = l2)
    (h : wpAnyH P md ops Q S fuel (listed.setIfInBounds i true) ⟨l2.toArray, ds⟩ w) : wpAnyH P md ops Q S (fuel + 1) listed ⟨l.toArray, ds⟩ w :=
  wpAnyH_take hi hs hf hr hQ hy hS (by rw [hd, put_dst hl]; exact h)
end Go.Proofs.YtagjolbpmhbifaaGreatDoor

/-! Slices of slices of bytes. Nothing of the program but its types. -/
namespace Go.Proofs.YtagjolbpmhbifaaGreatDoor
open Go Go.RowKit Go.ChangeShapes Go.WideShapes
/-- a slice of slices of bytes: readable where there are any -/
def Parts (w : World) (a : Option Addr) (n : Nat) (LL : List (List (BitVec 8))) : Prop :=
  LL.length = n ∧ n ≤ maxLen ∧ ∀ i, i < n → ∃ x ad m c, a = some x ∧ w.cell? (x.add i) = some (.slice ad m c) ∧ Bytes8 w ad m (LL.getD i []) ∧ m ≤ c ∧ (ad = none → c = 0)
theorem Parts.keep {w w' : World} {a : Option Addr} {n : Nat} {LL : List (List (BitVec 8))} (h : Parts w a n LL) (hk : ∀ p : Addr, (w.cell? p).isSome = true → w'.cell? p = w.cell? p) : Parts w' a n LL := by
  refine ⟨h.1, h.2.1, fun i hi => ?_⟩
  obtain ⟨x, ad, m, c, rfl, hx, hb, h1, h2⟩ := h.2.2 i hi
  exact ⟨x, ad, m, c, rfl, by rw [hk _ (by rw [hx]; rfl)]; exact hx, hb.keep hk, h1, h2⟩
theorem Parts.below {w w' : World} {a : Option Addr} {n : Nat} {LL : List (List (BitVec 8))} (h : Parts w a n LL) (hb : Below w.heap.size w w') : Parts w' a n LL := h.keep fun _ hp => hb.cell (isSome_lt hp)
theorem Parts.past {w : World} {a : Option Addr} {n : Nat} {LL : List (List (BitVec 8))} (h : Parts w a n LL) (o : Obj) : Parts (w.alloc o) a n LL := h.keep fun p hp => World.cell?_alloc_lt w o p (isSome_lt hp)
theorem Parts.draw {w : World} {a : Option Addr} {n : Nat} {LL : List (List (BitVec 8))} (h : Parts w a n LL) : Parts w.drew a n LL := h
theorem parts_one {w : World} {ad : Option Addr} {m c : Nat} {l : List (BitVec 8)} (T : TypeId) (h : Bytes8 w ad m l) (hc : m ≤ c) (h0 : ad = none → c = 0) : Parts (w.alloc (.cells #[.slice ad m c] T)) (some ⟨w.heap.size, 0, none⟩) 1 [l] :=
  ⟨rfl, by unfold maxLen; omega, fun i hi => by
    obtain rfl : i = 0 := by omega
    exact ⟨_, ad, m, c, rfl, by rw [Addr.add_mid, Nat.zero_add, (Has.fresh w T _).cell]; rfl, h.past _, hc, h0⟩⟩
theorem parts_two {w : World} {ad ad2 : Option Addr} {m c m2 c2 : Nat} {l l2 : List (BitVec 8)} (T : TypeId) (h : Bytes8 w ad m l) (hc : m ≤ c) (h0 : ad = none → c = 0) (h' : Bytes8 w ad2 m2 l2) (hc' : m2 ≤ c2) (h0' : ad2 = none → c2 = 0) :
    Parts (w.alloc (.cells #[.slice ad m c, .slice ad2 m2 c2] T)) (some ⟨w.heap.size, 0, none⟩) 2 [l, l2] :=
  ⟨rfl, by unfold maxLen; omega, fun i hi => by
    rcases i with _ | _ | i
    · exact ⟨_, ad, m, c, rfl, by rw [Addr.add_mid, Nat.zero_add, (Has.fresh w T _).cell]; rfl, h.past _, hc, h0⟩
    · exact ⟨_, ad2, m2, c2, rfl, by rw [Addr.add_mid, Nat.zero_add, (Has.fresh w T _).cell]; rfl, h'.past _, hc', h0'⟩
    · omega⟩
theorem bytes_new {n : Nat} {cs : Array Value} (w : World) (l : List (BitVec 8)) (t : TypeId) (hn : l.length = n) (hcs : cs = (blist l).toArray) (hs : n ≤ 1000000) : Bytes8 (w.alloc (.cells cs t)) (some ⟨w.heap.size, 0, none⟩) n l :=
  ⟨hn, by unfold maxLen; omega, fun i hi => ⟨_, rfl, by
    rw [Addr.add_mid, Nat.zero_add, (Has.fresh w t _).cell, hcs]
    rw [← Array.getElem?_toList]
    exact blist_at l i (by omega)⟩⟩
theorem freeze_new (w : World) (cs : Array Value) (t : TypeId) (n : Nat) : (w.alloc (.cells cs t)).freeze ⟨w.heap.size, n, none⟩ 1 = w.alloc (.cells cs t (n, n + 1)) := by
  have h : ∀ hp, (w.heap.push (Obj.cells cs t)).set w.heap.size (Obj.cells cs t (n, n + 1)) hp = w.heap.push (Obj.cells cs t (n, n + 1)) := fun hp => by
    apply Array.toList_inj.1
    simp
  unfold World.freeze World.alloc
  simp [Array.modify, Array.modifyM]
  rw [h]
  rfl
theorem shape_new (w : World) (cs : Array Value) (t : TypeId) : (w.alloc (.cells cs t)).shape? w.heap.size = some (t, cs.size) := by
  unfold World.shape?
  rw [show (w.alloc (.cells cs t)).heap[w.heap.size]? = some (.cells cs t (0, 0)) from Has.fresh w t cs]
/-- a conversion of a slice of bytes just made: its block is marked behind its end -/
theorem convert_new (w : World) (cs : Array Value) (n : Nat) (hn : cs.size = n) : (convert 116 116 (.slice (some ⟨w.heap.size, 0, none⟩) n n)).run Tryz.prog (w.alloc (.cells cs 5)) = .ok (.slice (some ⟨w.heap.size, 0, none⟩) n n) (w.alloc (.cells cs 5 (n, n + 1))) := by
  simp [convert, run_underlying Tryz.underlying116, markStringish, shape_new, freeze_new, hn]
  trace_state
theorem bytes_newf {n : Nat} {cs : Array Value} (w : World) (l : List (BitVec 8)) (t : TypeId) (fz : Nat × Nat) (hn : l.length = n) (hcs : cs = (blist l).toArray) (hs : n ≤ 1000000) : Bytes8 (w.alloc (.cells cs t fz)) (some ⟨w.heap.size, 0, none⟩) n l :=
  ⟨hn, by unfold maxLen; omega, fun i hi => ⟨_, rfl, by
    rw [Addr.add_mid, Nat.zero_add, cell_of_row _ _ i cs t fz (heap_alloc_new w _), hcs, ← Array.getElem?_toList]
    exact blist_at l i (by omega)⟩⟩
section
variable {H : Type} {enc : TypeId × Value → H} {P : Program} {W : World} {base : Nat} {v : Value} {d : DataW H} {p : List MemPlace}
theorem exists_parts (W : World) (x : Addr) : ∀ (n : Nat) (_ : ∀ i, i < n → ∃ ad m c l, W.cell? (x.add i) = some (.slice ad m c) ∧ Bytes8 W ad m l ∧ m ≤ c ∧ (ad = none → c = 0)),
    ∃ LL : List (List (BitVec 8)), LL.length = n ∧ ∀ i, i < n → ∃ ad m c, W.cell? (x.add i) = some (.slice ad m c) ∧ Bytes8 W ad m (LL.getD i []) ∧ m ≤ c ∧ (ad = none → c = 0)
  | 0, _ => ⟨[], rfl, fun i hi => by omega⟩
  | n + 1, h => by
    obtain ⟨LL, h1, h2⟩ := exists_parts W x n (fun i hi => h i (by omega))
    obtain ⟨ad, m, c, l, h3, h4, h5, h6⟩ := h n (by omega)
    refine ⟨LL ++ [l], by simp [h1], fun i hi => ?_⟩
    rcases Nat.lt_or_ge i n with hlt | hge
    · obtain ⟨ad', m', c', g1, g2, g3⟩ := h2 i hlt
      refine ⟨ad', m', c', g1, ?_, g3⟩
      rw [List.getD_eq_getElem?_getD, List.getElem?_append_left (by omega), ← List.getD_eq_getElem?_getD]
      exact g2
    · obtain rfl : i = n := by omega
      refine ⟨ad, m, c, h3, ?_, h5, h6⟩
      rw [List.getD_eq_getElem?_getD, List.getElem?_append_right (by omega), h1, Nat.sub_self]
      exact h4
/-- an argument that is a slice of slices of bytes -/
theorem arg_parts {t r e : TypeId} (ht : P.underlying t = some (.slice r)) (hr : P.underlying r = some (.slice e)) (he : P.underlying e = some (.int .u8)) (hc : P.cellsOf e = 1) (hC : P.cellsOf r = 1) (o : Value.okWide P W .any base t v) (h : DataW.Trod enc P W 0 (fun _ => true) true t v d p) :
    ∃ (a : Option Addr) (n c : Nat) (LL : List (List (BitVec 8))), v = .slice a n c ∧ Parts W a n LL ∧ n ≤ c ∧ (a = none → c = 0) := by
  obtain ⟨a, n, c, rfl⟩ := okWide_slice ht o
  obtain ⟨fuel, hf⟩ := h
  refine ⟨a, n, c, ?_⟩
  rcases Go.Deep.open_slice ht hf with ⟨hcs, _⟩ | ⟨x, len, cap, m, q, D, Pl, hcs, _, hl, hm, hmm, _, hcell⟩
  · simp [Value.cells] at hcs
    obtain ⟨rfl, rfl, rfl⟩ := hcs
    exact ⟨[], rfl, ⟨rfl, by unfold maxLen; omega, fun i hi => by omega⟩, Nat.le_refl _, fun _ => rfl⟩
  · simp [Value.cells] at hcs
    obtain ⟨rfl, rfl, rfl⟩ := hcs
    obtain ⟨LL, h1, h2⟩ := exists_parts W x n (fun i hi => by
      obtain ⟨cs, hcs, htr⟩ := hcell i (by split at hmm <;> omega)
      rw [hC] at hcs
      obtain ⟨_, hlen, hat⟩ := World.cells?_some hcs
      have h0 := hat 0 (by omega)
      rw [Addr.add_add, Nat.mul_one, Nat.add_zero] at h0
      rcases open_ints hr he hc htr with ⟨hcs2, _⟩ | ⟨x2, l2, cp2, zs, hcs2, _, hl2, hm2, hz2, _, hcell2, hwz2⟩
      · subst hcs2
        exact ⟨none, 0, 0, [], h0, bytes_none W, Nat.le_refl _, fun _ => rfl⟩
      · subst hcs2
        obtain ⟨l, hw⟩ := bytes_of_row (w := W) (.inr ⟨_, rfl, hl2, hm2, by simpa using hz2, hcell2, hwz2⟩)
        exact ⟨some x2, l2, cp2, l, h0, hw, hl2, fun e => by cases e⟩)
    exact ⟨LL, rfl, ⟨h1, by omega, fun i hi => by
      obtain ⟨ad, m', c', g1, g2, g3, g4⟩ := h2 i hi
      exact ⟨x, ad, m', c', rfl, g1, g2, g3, g4⟩⟩, hl, fun e => by cases e⟩
end
end Go.Proofs.YtagjolbpmhbifaaGreatDoor

/-! A range over a function whose body is told what the iterator has just read. Nothing of the program. -/
namespace Go.Proofs.YtagjolbpmhbifaaGreatDoor
open Go Go.RowKit

/-- the iterator's contract: at state s it reads x in the world and, the round done, is at s' -/
def Iterates {σ α : Type} (F : Fence) (n : Nat) (P : Program) (g : Nat) (lb : Array Value) (encs : α → Array Value) (Kp : World → World → Prop) (s0 : σ) (Rd : σ → World → α → σ → Prop) (fin : σ → Prop) (w : World) : Prop :=
  ∀ (l : Nat) (J Jx : σ → World → Prop) (W : World), Below w.heap.size w W → AbidesFrom W.heap.size J → AbidesFrom W.heap.size Jx →
    (∀ s x s' W1, J s W1 → Rd s W1 x s' → YieldAt F (n - 1) P l (encs x) W1 fun e W2 =>
      (e = .returned (.bool true) ∧ J s' W2 ∧ Kp W1 W2) ∨ (e = .returned (.bool false) ∧ Jx s' W2)) →
    J s0 W → CallsIn F n P g (#[.func (.yield l) #[] #[]] ++ lb) W fun e W2 => (∃ v, e = .returned v) ∧ ((∃ s, fin s ∧ J s W2) ∨ ∃ s, Jx s W2)

/-- how a round's body may be left -/
def toldPost {σ : Type} (B : Nat) (Kp : World → World → Prop) (I : σ → World → Prop) (Ix : Code → σ → World → Prop) (s : σ) (W : World) : Exit → Act → World → Prop
  | .normal, _, W' => KeepsFrom B W W' ∧ Kp W W' ∧ I s W'
  | .ret, _, W' => KeepsFrom B W W' ∧ Ix .ret s W'
  | .exit id, _, W' => KeepsFrom B W W' ∧ Ix (.exit id) s W'
  | .goto t, _, W' => KeepsFrom B W W' ∧ Ix (.goto t) s W'
  | .panic _, _, _ => False
  | .outgrown, _, _ => False

section
variable {F : Fence} {n : Nat} {P : Program}

theorem wpIn_range_told {σ α : Type} {g : Operand} {ps : Array Tmp} {assign body : Code} {Q : Exit → Act → World → Prop} {a : Act} {w : World}
    (hro : F.round = none) (h1 : 1 ≤ n) {gf : Nat} {lb : Array Value} (hg : a.eval g = .func (.func gf) #[] lb) (hFg : F.fn gf) (eg : ∀ args w, (callFunc gf args).run P w = .ok (.enter gf args) w)
    {encs : α → Array Value} {Kp : World → World → Prop} {s0 : σ} {Rd : σ → World → α → σ → Prop} {fin : σ → Prop} {w0 : World}
    (hseq : Iterates F (n - 1) P gf lb encs Kp s0 Rd fin w0) (hb0 : Below w0.heap.size w0 w) (hps : ∀ x, (encs x).size = ps.size)
    (hKt : ∀ {A B C : World}, Kp A B → Kp B C → Kp A C)
    (hKb : ∀ (W : World) (l : Nat) (o o' : Obj), w.heap.size ≤ l → W.heap[l]? = some o → o.isCells = false → Kp W (W.putObj l o'))
    (hRd : ∀ x s', OwnFrom w.heap.size (fun s W => Rd s W x s'))
    (I : σ → World → Prop) (Ix : Code → σ → World → Prop) (hI : OwnFrom w.heap.size I) (hIx : ∀ c, OwnFrom w.heap.size (Ix c)) (h0 : I s0 w) (a₁ : α → Act)
    (hassign : ∀ (l : Nat) (x : α) (W : World) (K : Act → World → Prop), K (a₁ x) W →
      assign.wpIn (F.inRound l) (n - 1 - 1) P (Exit.then K (fun _ _ _ => False)) { tmps := (ps.zip (encs x)).foldl (fun t (p, v) => t.setIfInBounds p v) a.tmps, defers := [] } W)
    (hbody : ∀ (l : Nat) (s : σ) (x : α) (s' : σ) (W : World), I s W → Rd s W x s' → w.heap.size ≤ W.heap.size → body.wpIn (F.inRound l) (n - 1 - 1) P (toldPost w.heap.size Kp I Ix s' W) (a₁ x) W)
    (hdone : ∀ (D : Nat) (s : σ) (W : World), w.heap.size ≤ D → fin s → I s W → W.heap[D]? = some (.deferred (some [])) → Q .normal { a with defers := { target := .collected D, args := #[] } :: a.defers } W)
    (hstop : ∀ (D : Nat) (c : Code) (s : σ) (W : World), w.heap.size ≤ D → Ix c s W → W.heap[D]? = some (.deferred (some [])) → c.wpIn F n P Q { a with defers := { target := .collected D, args := #[] } :: a.defers } W) :
    (Code.rangeFunc g ps assign body).wpIn F n P Q a w := by
  refine wpIn_rangeFunc fun fn hfn => ?_
  rw [hro]
  generalize hD : w.heap.size = D at *
  -- the loop's record, by its state and its pending jump
  let rec_ : LoopState → Option Code → Loop := fun st pe => { state := st, pending := pe, fn, tmps := a.tmps, params := ps, assign, body, defers := D }
  have hout := run_enterLoop_outer (P := P) (w := w) fn a.tmps ps assign body
  rw [hD] at hout
  generalize hW1 : (w.alloc (.deferred (some []))).alloc (.loop (rec_ .ready none)) = W1
  have hs1 : W1.heap.size = D + 2 := by rw [← hW1]; simp [hD]
  have hm1 : W1.heap[D]? = some (.deferred (some [])) := by
    rw [← hW1, Below.heap_alloc _ _ _ (by simp [hD])]
    have := World.alloc_heap_new w (.deferred (some []))
    rwa [hD] at this
  have hl1 : W1.heap[D + 1]? = some (.loop (rec_ .ready none)) := by
    rw [← hW1]
    have := World.alloc_heap_new (w.alloc (.deferred (some []))) (.loop (rec_ .ready none))
    rwa [World.size_alloc, hD] at this
  have hI1 : I s0 W1 := by rw [← hW1]; exact hI.alloc _ (hI.alloc _ h0)
  have hbw : Below w0.heap.size w0 W1 := by
    rw [← hW1]
    exact (hb0.alloc hb0.size _).alloc (by rw [World.size_alloc]; have := hb0.size; omega) _
  refine ⟨D + 1, [{ target := .collected D, args := #[] }], W1, { target := .fn (.func gf) lb, args := #[.func (.yield (D + 1)) #[] #[]] }, W1, gf,
    #[.func (.yield (D + 1)) #[] #[]] ++ lb, W1, by rw [← hW1]; exact hout, ?_, ?_, ?_, fun _ => h1, ?_⟩
  · simp only [resolve, hg]
    simp [go_sem]
  · intro f' hf'
    simp [Target.leads] at hf'
    subst hf'
    exact hFg
  · simp [invoke, go_sem, eg]
  -- what the iterator keeps of the two blocks
  have hkeep : ∀ {A B : World} {row : Option Nat} {k : Nat} {o : Obj}, A.grownBy B row → (∀ r, row = some r → W1.heap.size ≤ r ∧ ∃ o : Obj, A.heap[r]? = some o ∧ o.isWalk = true) → A.heap[k]? = some o → o.isWalk = false → B.heap[k]? = some o :=
    fun hgr hr hk ho => (grownBy_keeps hgr (fun r e => (hr r e).2) hk ho).trans hk
  have hrow : ∀ {A : World} {row : Option Nat}, (∀ r, row = some r → W1.heap.size ≤ r ∧ ∃ o : Obj, A.heap[r]? = some o ∧ o.isWalk = true) → (∀ r, row = some r → D ≤ r ∧ ∃ o : Obj, A.heap[r]? = some o ∧ o.isCells = false) :=
    fun hr r e => by
      obtain ⟨h1, o, ho, hw⟩ := hr r e
      exact ⟨by omega, o, ho, Obj.not_cells_of_walk hw⟩
  refine (hseq (D + 1) (fun s W => I s W ∧ W.heap[D + 1]? = some (.loop (rec_ .ready none)) ∧ W.heap[D]? = some (.deferred (some [])))
    (fun s W => ∃ c, Ix c s W ∧ W.heap[D + 1]? = some (.loop (rec_ .done (some c))) ∧ W.heap[D]? = some (.deferred (some []))) W1 hbw
    (fun s A B row hs hgr hr => ⟨hI s A B row hs.1 hgr (hrow hr), hkeep hgr hr hs.2.1 rfl, hkeep hgr hr hs.2.2 rfl⟩)
    (fun s A B row ⟨c, hc, hl, hm⟩ hgr hr => ⟨c, hIx c s A B row hc hgr (hrow hr), hkeep hgr hr hl rfl, hkeep hgr hr hm rfl⟩)
    ?_ ⟨hI1, hl1, hm1⟩).mono ?_
  · rintro s x s' W ⟨hi, hl, hm⟩ hrd
    have hlt : D + 1 < W.heap.size := (Array.getElem?_eq_some_iff.1 hl).1
    refine ⟨fn, _, assign, body, run_yield (P := P) hl (hps x), roundIn_of_wpIn hfn (hassign _ x W _ ⟨_, run_beginRound hl rfl, ?_⟩)⟩
    have hlb := World.putObj_heap_same (w := W) (o := .loop { rec_ .ready none with state := .busy }) hlt
    have hmb := (World.putObj_heap_other (w := W) (r := D + 1) (o := .loop { rec_ .ready none with state := .busy }) (show D ≠ D + 1 by omega)).trans hm
    have hkb := hKb W (D + 1) _ (.loop { rec_ .ready none with state := .busy }) (by omega) hl rfl
    have hib := hI.putObj (.loop { rec_ .ready none with state := .busy }) hi (by omega) hl rfl
    have hrb := (hRd x s').putObj (.loop { rec_ .ready none with state := .busy }) hrd (by omega) hl rfl
    refine wpIn_mono (hbody _ s x s' _ hib hrb (by rw [World.putObj_size]; omega)) ?_
    -- what 'endRound' leaves
    have fin_ : ∀ (jump : Option Code) (W3 : World), KeepsFrom D (W.putObj (D + 1) (.loop { rec_ .ready none with state := .busy })) W3 →
        ∃ W4, W4 = W3.putObj (D + 1) (.loop (rec_ (if jump.isNone then .ready else .done) jump)) ∧ (Instr.endRound (D + 1) jump).run P W3 = .ok (.bool jump.isNone) W4 ∧
          W3.heap[D + 1]? = some (.loop { rec_ .ready none with state := .busy }) ∧ W4.heap[D + 1]? = some (.loop (rec_ (if jump.isNone then .ready else .done) jump)) ∧ W4.heap[D]? = some (.deferred (some [])) := fun jump W3 hk3 => by
      have hl3 := hk3.same _ _ (by omega) hlb rfl
      exact ⟨_, rfl, run_endRound (P := P) jump hl3, hl3, World.putObj_heap_same (Array.getElem?_eq_some_iff.1 hl3).1, (World.putObj_heap_other (by omega)).trans (hk3.same _ _ (Nat.le_refl _) hmb rfl)⟩
    rintro e a3 W3 hp
    rcases e with _ | id | t | _ | _ | _
    · obtain ⟨hk3, hkp, hi3⟩ := hp
      obtain ⟨W4, rfl, hr, hl3, hl4, hm4⟩ := fin_ none W3 hk3
      exact ⟨_, _, hr, .inl ⟨rfl, ⟨hI.putObj _ hi3 (by omega) hl3 rfl, hl4, hm4⟩, hKt hkb (hKt hkp (hKb _ _ _ _ (by omega) hl3 rfl))⟩⟩
    all_goals first
      | exact hp.elim
      | (obtain ⟨hk3, hi3⟩ := hp
         obtain ⟨W4, rfl, hr, hl3, hl4, hm4⟩ := fin_ (some _) W3 hk3
         exact ⟨_, _, hr, .inr ⟨rfl, _, (hIx _).putObj _ hi3 (by omega) hl3 rfl, hl4, hm4⟩⟩)
  · rintro e W2 ⟨⟨v, rfl⟩, ⟨s, hf, hi, hl, hm⟩ | ⟨s, c, hi, hl, hm⟩⟩
    · exact ⟨none, _, run_endLoop (P := P) hl (by simp [rec_]), hdone D s _ (Nat.le_refl _) hf (hI.putObj _ hi (by omega) hl rfl) ((World.putObj_heap_other (by omega)).trans hm)⟩
    · exact ⟨some c, _, run_endLoop (P := P) hl (by simp [rec_]), hstop D c s _ (Nat.le_refl _) ((hIx c).putObj _ hi (by omega) hl rfl) ((World.putObj_heap_other (by omega)).trans hm)⟩
end

/-! what speaks of cells abides the loop's book-keeping -/
theorem Has.kept {W W' : World} {row : Option Nat} {g : Nat} {t : TypeId} {cs : Array Value} (h : Has W g t cs) (hg : W.grownBy W' row) (hr : ∀ r, row = some r → ∃ o : Obj, W.heap[r]? = some o ∧ o.isCells = false) : Has W' g t cs :=
  (grownBy_keeps_cells hg hr h rfl).trans h
theorem Has.putObj {W : World} {g l : Nat} {t : TypeId} {cs : Array Value} {o : Obj} (h : Has W g t cs) (o' : Obj) (hl : W.heap[l]? = some o) (ho : o.isCells = false) : Has (W.putObj l o') g t cs :=
  h.kept (grownBy_putObj' W l o') (fun r e => by cases e; exact ⟨o, hl, ho⟩)
theorem below_putObj {B l : Nat} {a w : World} (hb : Below B a w) (hB : B ≤ w.heap.size) (hl : B ≤ l) (o : Obj) : Below B a (w.putObj l o) :=
  hb.grown (grownBy_putObj' w l o) hB (fun k e => by cases e; exact hl)

/-! the way out -/
/-- a type whose variable is one cell -/
def Flat (P : Program) (t : TypeId) : Prop := ∃ d, P.underlying t = some d ∧ d.isRow = false
theorem run_loadVar_flat {P : Program} {t : TypeId} (ht : Flat P t) {w : World} {p : Addr} {v : Value} (hc : w.cell? p = some v) : (loadVar t p).run P w = .ok v w := by
  obtain ⟨d, hu, hd⟩ := ht
  have hagg : (isAgg t).run P w = .ok false w := by
    unfold isAgg
    rw [Sem.run_bind, run_underlying hu w]
    cases d <;> simp_all
  simp [loadVar, Sem.run_bind, hagg, hc]
theorem leaves_cell {P : Program} {fn : Func} {n : Nat} {p : Tmp} {ty : TypeId} (h : fn.results = #[.cell p ty]) (ht : Flat P ty) {tmps : Array Value} {D g : Nat} {w : World} {v : Value} {R : Ending → World → Prop}
    (hp : tmps.getD p undef = .pointer (some ⟨g, 0, none⟩)) (hK : w.heap[D]? = some (.deferred (some []))) (hv : w.cell? ⟨g, 0, none⟩ = some v) (hR : R (.returned v) (w.putObj D (.deferred none))) :
    bodyPostM Fence.wide n P fn R .ret { tmps := tmps, defers := [{ target := .collected D, args := #[] }] } w := by
  refine ⟨by simp, .inl ⟨_, _, rfl, run_takeDeferred hK, ⟨v, ?_, hR⟩⟩⟩
  exact results_one_cell h _ _ g hp _ (run_loadVar_flat ht (cell_kept hv (grownBy_putObj' w D _) (fun r e => by cases e; exact ⟨_, hK, rfl⟩)))
theorem leaves_two {P : Program} {fn : Func} {n : Nat} {p q : Tmp} {ty ty' : TypeId} (h : fn.results = #[.cell p ty, .cell q ty']) (ht : Flat P ty) (ht' : Flat P ty') {tmps : Array Value} {D g g' : Nat} {w : World} {v v' : Value} {R : Ending → World → Prop}
    (hp : tmps.getD p undef = .pointer (some ⟨g, 0, none⟩)) (hq : tmps.getD q undef = .pointer (some ⟨g', 0, none⟩)) (hK : w.heap[D]? = some (.deferred (some []))) (hv : w.cell? ⟨g, 0, none⟩ = some v) (hv' : w.cell? ⟨g', 0, none⟩ = some v')
    (hR : R (.returned (.tuple #[v, v'])) (w.putObj D (.deferred none))) :
    bodyPostM Fence.wide n P fn R .ret { tmps := tmps, defers := [{ target := .collected D, args := #[] }] } w := by
  refine ⟨by simp, .inl ⟨_, _, rfl, run_takeDeferred hK, ⟨.tuple #[v, v'], ?_, hR⟩⟩⟩
  have e1 := run_loadVar_flat ht (cell_kept hv (grownBy_putObj' w D (.deferred none)) (fun r e => by cases e; exact ⟨_, hK, rfl⟩))
  have e2 := run_loadVar_flat ht' (cell_kept hv' (grownBy_putObj' w D (.deferred none)) (fun r e => by cases e; exact ⟨_, hK, rfl⟩))
  rw [Array.getD_eq_getD_getElem?] at hp hq
  simp only [results, h]
  simp [hp, hq, e1, e2, asAddr]
theorem leaves_tmp {P : Program} {fn : Func} {n : Nat} {p : Tmp} (h : fn.results = #[.tmp p]) {tmps : Array Value} {D : Nat} {w : World} {v : Value} {R : Ending → World → Prop}
    (hp : tmps.getD p undef = v) (hK : w.heap[D]? = some (.deferred (some []))) (hR : R (.returned v) (w.putObj D (.deferred none))) :
    bodyPostM Fence.wide n P fn R .ret { tmps := tmps, defers := [{ target := .collected D, args := #[] }] } w := by
  refine ⟨by simp, .inl ⟨_, _, rfl, run_takeDeferred hK, ⟨v, ?_, hR⟩⟩⟩
  rw [← hp]
  exact results_tmp h _ _ _
end Go.Proofs.YtagjolbpmhbifaaGreatDoor

/-! A region that draws its order, within a round of a range over a function: its head only reads, its tail is forced. Nothing of the program. -/
namespace Go.Proofs.YtagjolbpmhbifaaGreatDoor
open Go Go.RowKit
section
variable {P : Program} {lp n : Nat} {ops : Array Oper} {Q : Exit → Act → World → Prop} {a : Act} {w : World}
theorem operIn_round {o : Oper} {K K' : Act → World → Prop} (hnd : ∀ c, o.op ≠ .defer c) (hK : ∀ a w, K a w → K' a w) (h : o.wp P a w K Q) : o.wpIn (Fence.wide.inRound lp) n P a w K' Q := by
  refine ⟨fun _ _ => trivial, ?_⟩
  rw [Fence.inRound_round, Oper.semAt_some _ _ _ hnd]
  unfold Oper.wp at h
  generalize (execOp a.eval o).run P w = r at h ⊢
  unfold Oper.upon at h
  unfold Oper.uponIn
  split at h
  · exact hK _ _ h
  · exact hK _ _ h
  · exact hK _ _ h
  · refine ⟨fun hd => by simp [Fence.inRound, Fence.wide] at hd, CallsIn.inRound lp (callsIn_wide.2 (h.mono fun e w2 h2 => ?_))⟩
    cases e
    · exact hK _ _ h2
    · exact h2
    · exact h2
  · refine ⟨fun hd => by simp [Fence.inRound, Fence.wide] at hd, fun c cs _ => ?_⟩
    obtain ⟨v, w2, h1, h2⟩ := h c cs
    exact ⟨v, w2, hK _ _ h1, stepsIn_wide.2 h2⟩
  · exact h
  · exact h.elim
theorem opIn_round (hlo : ¬ LetsOut Q) {i : Nat} {K K' : Act → World → Prop} (hnd : ∀ o, ops[i]? = some o → ∀ c, o.op ≠ .defer c) (hK : ∀ a w, K a w → K' a w) (h : wpOp P ops Q i K a w) : wpOpIn (Fence.wide.inRound lp) n P ops Q i K' a w := by
  unfold wpOp at h
  unfold wpOpIn
  cases ho : ops[i]? with
  | none => rw [ho] at h; exact hK _ _ h
  | some o =>
    rw [ho] at h
    by_cases hw : Region.wanted o (yielded ops a.tmps) = true
    · simp only [hw, if_true] at h ⊢
      exact operIn_round (hnd o ho) hK (h.resolve_right fun h2 => hlo h2.2)
    · simp only [hw] at h ⊢
      exact ⟨fun _ _ => trivial, hK _ _ h⟩
theorem anyIn_round (hlo : ¬ LetsOut Q) {md : Region.Mode} (hnd : ∀ (i : Nat) (o : Oper), ops[i]? = some o → ∀ c, o.op ≠ .defer c) : ∀ (fuel : Nat) (listed : Array Bool) (a : Act) (w : World), wpAny P md ops Q fuel listed a w → wpAnyIn (Fence.wide.inRound lp) n P md ops Q fuel listed a w
  | 0, _, _, _, h => h
  | fuel + 1, _, _, _, h => ⟨h.1, fun i hi => opIn_round hlo (hnd i) (fun a w => anyIn_round hlo hnd fuel _ a w) (h.2 i hi)⟩
end
theorem wpIn_round_still_tail {P : Program} {lp n id : Nat} {Q : Exit → Act → World → Prop} {a : Act} {w : World} {l : List Oper} (m : Nat) (hm : P.follows .mixedOrders = true) (hB : Region.lexTailB .any l.toArray m = true)
    (hnd : ∀ o ∈ l, ∀ c, o.op ≠ .defer c) (hlo : ¬ LetsOut Q)
    (h : wpStill P l.toArray { w with drawn := w.drawn + 1 } (fun a' => wpList P l.toArray Q (l.drop m) a' { w with drawn := w.drawn + 1 }) (l.take m) a) : (Code.region id l.toArray true).wpIn (Fence.wide.inRound lp) n P Q a w := by
  simp only [Region.lexTailB, Bool.and_eq_true, decide_eq_true_eq] at hB
  obtain ⟨⟨⟨⟨hsel, hn⟩, hs⟩, hc⟩, hlex⟩ := hB
  have hn' : m < l.length := by simpa using hn
  have htl : (l.take m).length = m := by simp; omega
  have hdl : (l.drop m).length = l.toArray.size - m := by simp
  have inv0 : HeadInv .any l.toArray m (Array.replicate l.toArray.size false) :=
    ⟨by simp, fun j oj _ hl => (by rw [getD_replicate_false] at hl; cases hl), fun t _ ht => getD_in (by simpa using ht) (getD_replicate_false _ _)⟩
  have H := wpAnyL_lex (md := .any) (g := l.toArray.size - m) hsel hs hc hn (l.take m) 0 _ a (fun j hj => by
    have hj' : j < m := by rw [htl] at hj; exact hj
    simp [hj']) (by simpa using htl) inv0 (by rw [htl]; exact hlex) h
  refine wpIn_region_any hm (anyIn_round hlo (fun i o ho => hnd o (by
    rw [List.getElem?_toArray] at ho
    exact List.mem_of_getElem? ho)) _ _ _ _ ?_)
  have h2 := wpAny_of_head (Q' := Q) (g := l.toArray.size - m) (fun listed a' hL => by
    have := wpAny_of_seq (md := .any) (Q' := Q) (l.drop m) m listed a' { w with drawn := w.drawn + 1 } (fun j => by simp [List.getElem?_drop]) (by rw [hdl]; exact hL.1) hL.2
    rwa [hdl] at this) _ _ _ H
  rw [htl, show m + (l.toArray.size - m) = l.toArray.size by omega] at h2
  exact h2
end Go.Proofs.YtagjolbpmhbifaaGreatDoor

/-! A range over a function that writes blocks of its own; its body is never left early. Nothing of the program. -/
namespace Go.Proofs.YtagjolbpmhbifaaGreatDoor
open Go Go.RowKit
/-- from block B on, what lay in W lies in W' -/
def Keeps (B : Nat) (W W' : World) : Prop := W.heap.size ≤ W'.heap.size ∧ ∀ k, B ≤ k → k < W.heap.size → W'.heap[k]? = W.heap[k]?
theorem Keeps.refl (B : Nat) (W : World) : Keeps B W W := ⟨Nat.le_refl _, fun _ _ _ => rfl⟩
theorem Keeps.trans {B : Nat} {a b c : World} (h : Keeps B a b) (k : Keeps B b c) : Keeps B a c :=
  ⟨Nat.le_trans h.1 k.1, fun i hi hl => (k.2 i hi (Nat.lt_of_lt_of_le hl h.1)).trans (h.2 i hi hl)⟩
theorem Keeps.up {B B' : Nat} {a b : World} (h : Keeps B a b) (hB : B ≤ B') : Keeps B' a b := ⟨h.1, fun k hk => h.2 k (Nat.le_trans hB hk)⟩
theorem Keeps.below {B : Nat} {a b : World} (h : Below a.heap.size a b) : Keeps B a b := ⟨h.size, fun k _ hl => h.block k hl⟩
theorem Keeps.grown {B g : Nat} {a b : World} (h : a.grownBy b (some g)) (hg : g < B) : Keeps B a b := ⟨h.size, fun k hk hl => h.block k hl (fun e => by injection e; omega)⟩
theorem Keeps.putObj {B l : Nat} (W : World) (o : Obj) (hl : l < B) : Keeps B W (W.putObj l o) := Keeps.grown (grownBy_putObj' W l o) hl
theorem Keeps.at {B : Nat} {a b : World} (h : Keeps B a b) {k : Nat} {o : Obj} (hk : B ≤ k) (ho : a.heap[k]? = some o) : b.heap[k]? = some o := (h.2 k hk (Array.getElem?_eq_some_iff.1 ho).1).trans ho
theorem Keeps.has {B : Nat} {a b : World} (h : Keeps B a b) {g : Nat} {t : TypeId} {cs : Array Value} (hk : B ≤ g) (ho : Has a g t cs) : Has b g t cs := h.at hk ho
/-- what speaks of the blocks under B alone -/
def Stands {σ : Type} (B : Nat) (J : σ → World → Prop) : Prop := ∀ s W W', J s W → Below B W W' → J s W'
theorem below_put_at {B l : Nat} {a w : World} (hb : Below B a w) (hB : B ≤ w.heap.size) (hl : B ≤ l) (o : Obj) : Below B a (w.putObj l o) := below_putObj hb hB hl o
theorem below_put_one {B l : Nat} (w : World) (hl : B ≤ l) (o : Obj) : Below B w (w.putObj l o) :=
  ⟨rfl, rfl, rfl, by rw [World.putObj_size]; exact Nat.le_refl _, fun k hk => World.putObj_heap_other (by omega)⟩
/-- a round of the wide fence, met within another round -/
theorem RoundIn.atWide {P : Program} {m m' l lp : Nat} {f : FuncId} {tmps : Array Value} {assign body : Code} {w : World} {R : Ending → World → Prop} (h : RoundIn Fence.wide m P l f tmps assign body w R) : RoundIn (Fence.wide.inRound lp) m' P l f tmps assign body w R :=
  ⟨trivial, fun c cs _ => h.2 c cs (room_wide _)⟩
/-- the iterator's contract -/
def IterK {σ α : Type} (F : Fence) (n : Nat) (P : Program) (g : Nat) (lb : Array Value) (encs : α → Array Value) (Gd : World → Prop) (s0 : σ) (Rd : Nat → σ → World → α → σ → Prop) (fin : σ → Prop) (w : World) : Prop :=
  ∀ (l : Nat) (J : σ → World → Prop) (W : World), Below w.heap.size w W → Stands W.heap.size J → (∀ s W1, J s W1 → Gd W1) →
    (∀ s x s' W1, J s W1 → W.heap.size ≤ W1.heap.size → Rd W.heap.size s W1 x s' → YieldAt F (n - 1) P l (encs x) W1 fun e W2 => e = .returned (.bool true) ∧ J s' W2 ∧ Keeps W.heap.size W1 W2) →
    J s0 W → CallsIn F n P g (#[.func (.yield l) #[] #[]] ++ lb) W fun e W2 => (∃ v, e = .returned v) ∧ ∃ s, fin s ∧ J s W2 ∧ W.heap.size ≤ W2.heap.size
/-- how a round's body is left -/
def keepPost {σ : Type} (B : Nat) (I : σ → World → Prop) (s : σ) (W : World) : Exit → Act → World → Prop
  | .normal, _, W' => Keeps B W W' ∧ I s W'
  | _, _, _ => False
theorem keepPost_lets {σ : Type} (B : Nat) (I : σ → World → Prop) (s : σ) (W : World) : ¬ LetsOut (keepPost B I s W) := fun ⟨_, _, h⟩ => h
section
variable {F : Fence} {n : Nat} {P : Program}
theorem wpIn_range_keep {σ α : Type} {g : Operand} {ps : Array Tmp} {assign body : Code} {Q : Exit → Act → World → Prop} {a : Act} {w : World}
    (hro : F.round = none) (h1 : 1 ≤ n) {gf : Nat} {lb : Array Value} (hg : a.eval g = .func (.func gf) #[] lb) (hFg : F.fn gf) (eg : ∀ args w, (callFunc gf args).run P w = .ok (.enter gf args) w)
    {encs : α → Array Value} {Gd : World → Prop} {s0 : σ} {Rd : Nat → σ → World → α → σ → Prop} {fin : σ → Prop} {w0 : World}
    (hseq : IterK F (n - 1) P gf lb encs Gd s0 Rd fin w0) (hb0 : Below w0.heap.size w0 w) (hps : ∀ x, (encs x).size = ps.size)
    (I : σ → World → Prop) (hI : Stands w.heap.size I) (hG : ∀ s W, I s W → Gd W) (h0 : I s0 w)
    (Ax : σ → α → σ → Act → World → Prop) (hAx : ∀ x s' a', OwnFrom w.heap.size (fun s W => Ax s x s' a' W))
    (hassign : ∀ (l : Nat) (s : σ) (x : α) (s' : σ) (W : World) (K : Act → World → Prop), I s W → w.heap.size + 2 ≤ W.heap.size → Rd (w.heap.size + 2) s W x s' → (∀ a' W', Keeps w.heap.size W W' → I s W' → Ax s x s' a' W' → K a' W') →
      assign.wpIn (F.inRound l) (n - 1 - 1) P (Exit.then K (fun _ _ _ => False)) { tmps := (ps.zip (encs x)).foldl (fun t (p, v) => t.setIfInBounds p v) a.tmps, defers := [] } W)
    (hbody : ∀ (l : Nat) (s : σ) (x : α) (s' : σ) (a' : Act) (W : World), I s W → w.heap.size + 2 ≤ W.heap.size → Ax s x s' a' W → body.wpIn (F.inRound l) (n - 1 - 1) P (keepPost w.heap.size I s' W) a' W)
    (hdone : ∀ (D : Nat) (s : σ) (W : World), D = w.heap.size → fin s → I s W → W.heap[D]? = some (.deferred (some [])) → Q .normal { a with defers := { target := .collected D, args := #[] } :: a.defers } W) :
    (Code.rangeFunc g ps assign body).wpIn F n P Q a w := by
  refine wpIn_rangeFunc fun fn hfn => ?_
  rw [hro]
  generalize hD : w.heap.size = D at *
  let rec_ : LoopState → Option Code → Loop := fun st pe => { state := st, pending := pe, fn, tmps := a.tmps, params := ps, assign, body, defers := D }
  have hout := run_enterLoop_outer (P := P) (w := w) fn a.tmps ps assign body
  rw [hD] at hout
  generalize hW1 : (w.alloc (.deferred (some []))).alloc (.loop (rec_ .ready none)) = W1
  have hs1 : W1.heap.size = D + 2 := by rw [← hW1]; simp [hD]
  have hm1 : W1.heap[D]? = some (.deferred (some [])) := by
    rw [← hW1, Below.heap_alloc _ _ _ (by simp [hD])]
    have := World.alloc_heap_new w (.deferred (some []))
    rwa [hD] at this
  have hl1 : W1.heap[D + 1]? = some (.loop (rec_ .ready none)) := by
    rw [← hW1]
    have := World.alloc_heap_new (w.alloc (.deferred (some []))) (.loop (rec_ .ready none))
    rwa [World.size_alloc, hD] at this
  have hI1 : I s0 W1 := by
    rw [← hW1]
    exact hI _ _ _ h0 (((Below.refl D w).alloc (by omega) _).alloc (by rw [World.size_alloc]; omega) _)
  have hbw : Below w0.heap.size w0 W1 := by
    rw [← hW1]
    exact (hb0.alloc hb0.size _).alloc (by rw [World.size_alloc]; have := hb0.size; omega) _
  refine ⟨D + 1, [{ target := .collected D, args := #[] }], W1, { target := .fn (.func gf) lb, args := #[.func (.yield (D + 1)) #[] #[]] }, W1, gf,
    #[.func (.yield (D + 1)) #[] #[]] ++ lb, W1, by rw [← hW1]; exact hout, ?_, ?_, ?_, fun _ => h1, ?_⟩
  · simp only [resolve, hg]
    simp [go_sem]
  · intro f' hf'
    simp [Target.leads] at hf'
    subst hf'
    exact hFg
  · simp [invoke, go_sem, eg]
  refine (hseq (D + 1) (fun s W => I s W ∧ W.heap[D + 1]? = some (.loop (rec_ .ready none)) ∧ W.heap[D]? = some (.deferred (some []))) W1 hbw
    (fun s A B hs hb => ⟨hI _ _ _ hs.1 (hb.mono (by omega)), (hb.block _ (by omega)).trans hs.2.1, (hb.block _ (by omega)).trans hs.2.2⟩)
    (fun s A hs => hG _ _ hs.1) ?_ ⟨hI1, hl1, hm1⟩).mono ?_
  · rintro s x s' W ⟨hi, hl, hm⟩ hsz hrd
    rw [hs1] at hsz hrd ⊢
    refine ⟨fn, _, assign, body, run_yield (P := P) hl (hps x), roundIn_of_wpIn hfn (hassign _ s x s' W _ hi hsz hrd ?_)⟩
    intro a' Wa hka hia hax
    have hla := hka.at (Nat.le_succ D) hl
    have hma := hka.at (Nat.le_refl D) hm
    have hsza : D + 2 ≤ Wa.heap.size := Nat.le_trans hsz hka.1
    have hlt : D + 1 < Wa.heap.size := by omega
    refine ⟨_, run_beginRound hla rfl, ?_⟩
    have hlb := World.putObj_heap_same (r := D + 1) (w := Wa) (o := .loop { rec_ .ready none with state := .busy }) hlt
    have hmb := (World.putObj_heap_other (w := Wa) (r := D + 1) (o := .loop { rec_ .ready none with state := .busy }) (show D ≠ D + 1 by omega)).trans hma
    have hib := hI _ _ _ hia (below_put_one (l := D + 1) Wa (by omega) (.loop { rec_ .ready none with state := .busy }))
    have hab := (hAx x s' a').putObj (.loop { rec_ .ready none with state := .busy }) hax (by omega) hla rfl
    refine wpIn_mono (hbody _ s x s' a' _ hib (by rw [World.putObj_size]; omega) hab) ?_
    rintro e a3 W3 hp
    cases e with
    | normal =>
      obtain ⟨hk3, hi3⟩ := hp
      have hl3 := hk3.at (Nat.le_succ D) hlb
      have hm3 := hk3.at (Nat.le_refl D) hmb
      refine ⟨_, _, run_endRound (P := P) none hl3, rfl, ⟨hI _ _ _ hi3 (below_put_one W3 (by omega) _), ?_, ?_⟩, ?_⟩
      · exact World.putObj_heap_same (Array.getElem?_eq_some_iff.1 hl3).1
      · exact (World.putObj_heap_other (by omega)).trans hm3
      · exact (hka.up (B' := D + 2) (by omega)).trans (((Keeps.putObj (B := D + 2) Wa _ (by omega)).trans (hk3.up (by omega))).trans (Keeps.putObj (B := D + 2) W3 _ (by omega)))
    | _ => exact hp.elim
  · rintro e W2 ⟨⟨v, rfl⟩, s, hf, ⟨hi, hl, hm⟩, hsz⟩
    exact ⟨none, _, run_endLoop (P := P) hl (by simp [rec_]), hdone D s _ rfl hf (hI _ _ _ hi (below_put_one W2 (by omega) _)) ((World.putObj_heap_other (by omega)).trans hm)⟩
end
/-- a function without results, left behind its range -/
theorem leaves_none {P : Program} {fn : Func} {n : Nat} (h : fn.results = #[]) {tmps : Array Value} {D : Nat} {w : World} {R : Ending → World → Prop} {e : Exit} (he : e = .ret ∨ e = .normal)
    (hK : w.heap[D]? = some (.deferred (some []))) (hR : ∀ v, R (.returned v) (w.putObj D (.deferred none))) :
    bodyPostM Fence.wide n P fn R e { tmps := tmps, defers := [{ target := .collected D, args := #[] }] } w := by
  rcases he with rfl | rfl
  all_goals
    refine ⟨by simp, .inl ⟨_, _, rfl, run_takeDeferred hK, ⟨_, results_none h _ _ _, hR _⟩⟩⟩
/-! whole arrays within a round -/
theorem wpListIn_of_wp {P : Program} {lp n : Nat} {ops : Array Oper} {rest : List Oper} {op : Oper} {a : Act} {w : World} {Q : Exit → Act → World → Prop} (hw : Region.wanted op (yielded ops a.tmps) = true) (hnd : ∀ c, op.op ≠ .defer c)
    (h : ∀ K : Act → World → Prop, (∀ a w, wpListIn (Fence.wide.inRound lp) n P ops Q rest a w → K a w) → op.wp P a w K Q) : wpListIn (Fence.wide.inRound lp) n P ops Q (op :: rest) a w :=
  wpListIn_step fun K hK => by
    rw [if_pos hw]
    exact operIn_round hnd (fun _ _ h => h) (h K hK)
theorem wpListInR_load {P : Program} {lp n : Nat} {ops : Array Oper} {rest : List Oper} {op : Oper} {a : Act} {w : World} {Q : Exit → Act → World → Prop} (hw : Region.wanted op (yielded ops a.tmps) = true) (ty : TypeId) (x : Operand) (ho : op.op = .load ty x)
    (p v : Value) (hx : a.eval x = p) (hr : (Instr.loadAt ty p).run P w = .ok v w) (h : wpListIn (Fence.wide.inRound lp) n P ops Q rest (a.put op.dst v) w) : wpListIn (Fence.wide.inRound lp) n P ops Q (op :: rest) a w :=
  wpListIn_of_wp hw (fun c => by rw [ho]; exact fun e => by cases e) fun K hK => by
    unfold Oper.wp execOp
    simp only [ho, hx, Sem.run_bind, Sem.run_pure, Result.andThen_ok, hr]
    exact hK _ _ h
theorem wpListInR_store {P : Program} {lp n : Nat} {ops : Array Oper} {rest : List Oper} {op : Oper} {a : Act} {w : World} {Q : Exit → Act → World → Prop} (hw : Region.wanted op (yielded ops a.tmps) = true) (ty : TypeId) (x y : Operand) (ho : op.op = .store ty x y)
    (b o : Nat) (cells : Array Value) (hx : a.eval x = .pointer (some ⟨b, o, none⟩)) (hy : a.eval y = .agg cells)
    (ht : w.there b o cells.size) (hi : (P.info? ty).map (·.size) = some cells.size) (h1 : cells.all (·.oneCell') = true)
    (h : wpListIn (Fence.wide.inRound lp) n P ops Q rest (a.put op.dst undef) (w.setCells b o cells.toList)) : wpListIn (Fence.wide.inRound lp) n P ops Q (op :: rest) a w :=
  wpListIn_of_wp hw (fun c => by rw [ho]; exact fun e => by cases e) fun K hK => wp_store_mid ty x y ho b o cells hx hy ht hi h1 (hK _ _ h)
end Go.Proofs.YtagjolbpmhbifaaGreatDoor

/-! What a call may change: a set of blocks; appends that tell where the new slice lies. Nothing of the program. -/
namespace Go.Proofs.YtagjolbpmhbifaaGreatDoor
open Go Go.RowKit
/-- the world but for the blocks of F, and new ones -/
structure Moved (F : Nat → Prop) (w w' : World) : Prop where
  os : w'.os = w.os
  tape : w'.tape = w.tape
  output : w'.output = w.output
  size : w.heap.size ≤ w'.heap.size
  block : ∀ k, k < w.heap.size → ¬ F k → w'.heap[k]? = w.heap[k]?
section
variable {F G : Nat → Prop} {a w w' w2 : World} {g B : Nat}
theorem Moved.refl (F : Nat → Prop) (w : World) : Moved F w w := ⟨rfl, rfl, rfl, Nat.le_refl _, fun _ _ _ => rfl⟩
theorem Moved.of_below (h : Below w.heap.size w w') : Moved F w w' := ⟨h.os, h.tape, h.output, h.size, fun k hk _ => h.block k hk⟩
theorem Moved.of_grown {row : Option Nat} (h : w.grownBy w' row) (hr : ∀ k, row = some k → F k) : Moved F w w' := ⟨h.os, h.tape, h.output, h.size, fun k hk hf => h.block k hk (fun e => hf (hr k e.symm))⟩
theorem Moved.below (h : Moved F w w') (hF : ∀ k, F k → B ≤ k) (hB : B ≤ w.heap.size) : Below B w w' := ⟨h.os, h.tape, h.output, h.size, fun k hk => h.block k (by omega) (fun hf => by have := hF k hf; omega)⟩
theorem Moved.trans (h : Moved F a w) (k : Moved G w w') (hG : ∀ k, G k → F k ∨ a.heap.size ≤ k) : Moved F a w' :=
  ⟨k.os.trans h.os, k.tape.trans h.tape, k.output.trans h.output, Nat.le_trans h.size k.size, fun j hj hf => (k.block j (Nat.lt_of_lt_of_le hj h.size) (fun hg => (hG j hg).elim hf (fun e => by omega))).trans (h.block j hj hf)⟩
theorem Moved.mono (h : Moved F w w') (hFG : ∀ k, F k → G k) : Moved G w w' := ⟨h.os, h.tape, h.output, h.size, fun k hk hg => h.block k hk (fun hf => hg (hFG k hf))⟩
theorem Moved.then (h : Moved F a w) (k : Below w.heap.size w w') : Moved F a w' := h.trans (G := fun _ => False) (Moved.of_below k) (fun _ e => e.elim)
theorem Moved.drew (h : Moved F a w) : Moved F a w.drew := ⟨h.os, h.tape, h.output, h.size, h.block⟩
theorem Moved.put (h : Moved F a w) (hg : F g ∨ a.heap.size ≤ g) (i : Nat) (u : Value) : Moved F a (w.setCell ⟨g, i, none⟩ u) :=
  h.trans (G := fun k => k = g) ⟨rfl, rfl, rfl, by simp, fun k hk hf => Below.heap_setCell w _ u k hf⟩ (fun k e => by subst e; exact hg)
theorem Moved.putAll (hg : F g ∨ a.heap.size ≤ g) : ∀ (vs : List Value) {w : World} (o : Nat), Moved F a w → Moved F a (w.setCells g o vs)
  | [], _, _, h => h
  | v :: r, _, o, h => Moved.putAll hg r (o + 1) (h.put hg o v)
theorem Has.moved {t : TypeId} {cs : Array Value} (h : Has w g t cs) (hm : Moved F w w') (hg : ¬ F g) : Has w' g t cs := (hm.block g h.lt hg).trans h
theorem OwnB.moved {T : TypeId} {v : Value} {l : List (BitVec 8)} (h : OwnB T B w v l) (hm : Moved F w w') (hv : ∀ k, v.ownBlock = some k → ¬ F k) : OwnB T B w' v l := by
  refine ⟨h.1, ?_⟩
  rcases h.2 with hn | ⟨k, cap, cur, rfl, h1, h2, rest⟩
  · exact .inl hn
  · exact .inr ⟨k, cap, cur, rfl, h1, (hm.block k (Array.getElem?_eq_some_iff.1 h2).1 (hv k rfl)).trans h2, rest⟩
theorem block_add (x : Addr) (i : Nat) : (x.add i).block = x.block := by unfold Addr.add; split <;> rfl
theorem Bytes8.moved {x : Option Addr} {n : Nat} {l : List (BitVec 8)} (h : Bytes8 w x n l) (hm : Moved F w w') (hv : 0 < n → ∀ y, x = some y → ¬ F y.block) : Bytes8 w' x n l := by
  refine ⟨h.1, h.2.1, fun i hi => ?_⟩
  obtain ⟨y, rfl, hy⟩ := h.2.2 i hi
  refine ⟨y, rfl, (World.cell?_of_block (hm.block _ (isSome_lt (by rw [hy]; rfl)) ?_)).trans hy⟩
  rw [block_add]
  exact hv (by omega) y rfl
theorem OwnB.lt_size {T : TypeId} {v : Value} {l : List (BitVec 8)} (h : OwnB T B w v l) : ∀ k, v.ownBlock = some k → B ≤ k ∧ k < w.heap.size := World.ownsRow.lt h
/-- a block of another type is another block -/
theorem OwnB.apart {T t : TypeId} {v : Value} {l : List (BitVec 8)} {cs : Array Value} (h : OwnB T B w v l) (hh : Has w g t cs) (ht : (T == t) = false) : ∀ k, v.ownBlock = some k → k ≠ g := by
  rintro k hk rfl
  rcases h.2 with ⟨rfl, _⟩ | ⟨j, cap, cur, rfl, _, h2, _⟩
  · cases hk
  · have e : j = k := by simpa [Value.ownBlock] using hk
    subst e
    unfold Has at hh
    rw [hh] at h2
    injection h2 with h2
    injection h2 with _ e
    rw [e] at ht
    simp at ht
end
/-- where the new slice lies -/
def Lies (w : World) (v v' : Value) : Prop := ∀ k, v'.ownBlock = some k → v.ownBlock = some k ∨ w.heap.size ≤ k
theorem Lies.refl (w : World) (v : Value) : Lies w v v := fun _ h => .inl h
theorem Lies.of {w : World} {v v' : Value} (h : v'.ownBlock = v.ownBlock ∨ v'.ownBlock = some w.heap.size) : Lies w v v' := fun k hk => by
  rcases h with h | h
  · exact .inl (h ▸ hk)
  · right
    rw [h] at hk
    injection hk with hk
    omega
theorem Lies.trans {w w2 : World} {v v' v2 : Value} (h : Lies w v v') (k : Lies w2 v' v2) (hs : w.heap.size ≤ w2.heap.size) : Lies w v v2 := fun j hj => (k j hj).elim (h j) (fun e => .inr (by omega))
theorem Lies.up {w w2 : World} {v v' : Value} (k : Lies w2 v v') (hs : w.heap.size ≤ w2.heap.size) : Lies w v v' := fun j hj => (k j hj).elim .inl (fun e => .inr (by omega))
section
variable {P : Program}
/-- append(own, a...), a whatever: where the new slice lies -/
theorem wp_append_bytes_at {w : World} {o : Oper} {a : Act} {K : Act → World → Prop} {Q : Exit → Act → World → Prop} (s x : Operand) (t : TypeId)
    (ho : o.op = .call { callee := .builtin .append, args := #[s, x], argTypes := #[t, t] })
    (T : TypeId) (ht : P.underlying t = some (.slice T)) (hinfo : (P.info? T).map (fun i => (i.zero, i.size, i.bytes)) = some (some (.int .u8 0), 1, 1))
    (B : Nat) (v : Value) (l : List (BitVec 8)) (hs : a.eval s = v) (hown : OwnB T B w v l) (ad : Option Addr) (m c : Nat) (l2 : List (BitVec 8)) (hx : a.eval x = .slice ad m c) (hw : Bytes8 w ad m l2) (hc : ad = none → c = 0)
    (h63 : l.length + m ≤ 1099511627776) (hbase : B ≤ w.heap.size)
    (h : ∀ v' w', OwnB T B w' v' (l ++ l2) → w.grownBy w' v.ownBlock → Lies w v v' → K (a.put o.dst v') w') : o.wp P a w K Q := by
  obtain ⟨i0, hi, hz0, hz1, hz2⟩ := info_parts hinfo
  obtain ⟨hl2, hm, hcell⟩ := hw
  rcases ad with _ | ad
  · have h0 : m = 0 := by
      rcases Nat.eq_zero_or_pos m with h0 | h0
      · exact h0
      · obtain ⟨_, e, _⟩ := hcell 0 h0
        cases e
    subst h0
    obtain rfl := List.length_eq_zero_iff.1 hl2
    obtain rfl := hc rfl
    have hrun := run_append_owned_none (P := P) (w := w) B t o.type T i0 1 ht hi v _ _ hown
    unfold Oper.wp
    simp [execOp, ho, resolve, invoke, builtin, hs, hx, hrun, Result.andThen]
    exact h v w (by simpa using hown) (World.grownBy.refl w _) (Lies.refl w v)
  · obtain ⟨v', w', hr, h2, h3, _, h5⟩ := run_append_own_at (P := P) w B t o.type T i0 (.int .u8 0) 1 1 ht hi hz0 hz1 hz2 rfl (by decide) v _ _ hown ad m c (blist l2) (by rw [blist_length, hl2, Nat.mul_one]) (fun j u hj => by
      have hj2 : j < l2.length := by
        have := (List.getElem?_eq_some_iff.1 hj).1
        rwa [blist_length] at this
      obtain ⟨ad', e, hx2⟩ := hcell j (by omega)
      injection e with e
      subst e
      rw [hx2, ← hj, blist_at l2 j hj2]) (blist_one _) (by unfold maxLen; omega) (by omega) hbase
    unfold Oper.wp execOp
    simp only [ho, resolve, invoke, builtin, Sem.run_bind, Sem.run_pure, Result.andThen_ok, List.map_toArray, List.map_cons, List.map_nil, hs, hx, hr]
    exact h v' w' (OwnB.all hl2 h2) h3 (Lies.of h5)
theorem wpList_append_bytes_at {w : World} {ops : Array Oper} {rest : List Oper} {o : Oper} {a : Act} {Q : Exit → Act → World → Prop} (hgd : o.guard = none) (s x : Operand) (t : TypeId)
    (ho : o.op = .call { callee := .builtin .append, args := #[s, x], argTypes := #[t, t] })
    (T : TypeId) (ht : P.underlying t = some (.slice T)) (hinfo : (P.info? T).map (fun i => (i.zero, i.size, i.bytes)) = some (some (.int .u8 0), 1, 1))
    (B : Nat) (v : Value) (l : List (BitVec 8)) (hs : a.eval s = v) (hown : OwnB T B w v l) (ad : Option Addr) (m c : Nat) (l2 : List (BitVec 8)) (hx : a.eval x = .slice ad m c) (hw : Bytes8 w ad m l2) (hc : ad = none → c = 0)
    (h63 : l.length + m ≤ 1099511627776) (hbase : B ≤ w.heap.size)
    (h : ∀ v' w', OwnB T B w' v' (l ++ l2) → w.grownBy w' v.ownBlock → Lies w v v' → wpList P ops Q rest (a.put o.dst v') w') : wpList P ops Q (o :: rest) a w :=
  wpList_plain hgd fun _ hK => wp_append_bytes_at s x t ho T ht hinfo B v l hs hown ad m c l2 hx hw hc h63 hbase fun v' w' h1 h2 h3 => hK _ _ (h v' w' h1 h2 h3)
theorem step_append_bytes_at {w : World} {ops : Array Oper} {o : Oper} {a : Act} {K : Act → World → Prop} {Q : Exit → Act → World → Prop} {E : Prop} (hwt : Region.wanted o (yielded ops a.tmps) = true) (s x : Operand) (t : TypeId)
    (ho : o.op = .call { callee := .builtin .append, args := #[s, x], argTypes := #[t, t] })
    (T : TypeId) (ht : P.underlying t = some (.slice T)) (hinfo : (P.info? T).map (fun i => (i.zero, i.size, i.bytes)) = some (some (.int .u8 0), 1, 1))
    (B : Nat) (v : Value) (l : List (BitVec 8)) (hs : a.eval s = v) (hown : OwnB T B w v l) (ad : Option Addr) (m c : Nat) (l2 : List (BitVec 8)) (hx : a.eval x = .slice ad m c) (hw : Bytes8 w ad m l2) (hc : ad = none → c = 0)
    (h63 : l.length + m ≤ 1099511627776) (hbase : B ≤ w.heap.size)
    (h : ∀ v' w', OwnB T B w' v' (l ++ l2) → w.grownBy w' v.ownBlock → Lies w v v' → K (a.put o.dst v') w') : if Region.wanted o (yielded ops a.tmps) = true then Oper.wp P o a w K Q else E := by
  rw [if_pos hwt]
  exact wp_append_bytes_at s x t ho T ht hinfo B v l hs hown ad m c l2 hx hw hc h63 hbase h
/-- append(own, s...), s a string: where the new slice lies -/
theorem run_append_string_at (w : World) (base : Nat) (t u ty e : TypeId) (i : TypeInfo) (ht : P.underlying t = some (.slice e)) (hu : P.underlying u = some .string) (hi : P.info? e = some i) (hz : i.zero = some (.int .u8 0))
    (hsize : i.size = 1) (hby : i.bytes = 1) (v : Value) (n : Nat) (xs : List Value) (hown : w.ownsRow base e 1 v n xs) (s : ByteArray)
    (h63 : n + s.size ≤ 1099511627776) (hbase : base ≤ w.heap.size) :
    ∃ v' w', (Builtin.append_ #[t, u] ty #[v, .string s]).run P w = .ok v' w' ∧ w'.ownsRow base e 1 v' (n + s.size) (xs ++ Lib.strCells s) ∧ w.grownBy w' v.ownBlock ∧ Lies w v v' := by
  obtain ⟨v', w', hr, h2, h3, _⟩ := Lib.run_append_own_string (P := P) w base t u ty e i ht hu hi hz hsize hby v n xs hown s (by unfold maxLen; omega) (by omega) hbase
  refine ⟨v', w', hr, h2, h3, ?_⟩
  have hxl : xs.length = n := by simpa using hown.1
  rcases hown.2 with ⟨rfl, rfl⟩ | ⟨g, cap, cur, rfl, hbg, hg, hnc, hcm, hcs, htake⟩
  · by_cases hm : s.size = 0
    · rcases h2.2 with ⟨rfl, _⟩ | ⟨g, cap, cur, rfl, _, hg, _⟩
      · exact Lies.refl _ _
      · have hf := Lib.run_firstCells_string (P := P) w 1 s
        rw [hm] at hf
        simp [Builtin.append_, run_underlying ht, run_underlying hu, sizeOf, typeInfo, hi, hsize, Builtin.lenOf, hm, hf] at hr
    · have hq := run_append_nil_string (P := P) w t u ty e i (.int .u8 0) ht hu hi hz s (by omega) (by omega) (by rw [hby]; omega)
      rw [hr] at hq
      injection hq with hq _
      subst hq
      exact Lies.of (.inr rfl)
  · by_cases hroom : n + s.size ≤ cap
    · have hcs' : cur.size = cap := by simpa using hcs
      have hq := Lib.run_append_room_string (P := P) w t u ty e i ht hu hi hsize g n cap cur hg s hroom (by omega)
      rw [hr] at hq
      injection hq with hq _
      subst hq
      exact Lies.of (.inl rfl)
    · have hown' : w.ownsRow base e 1 (.slice (some ⟨g, 0, none⟩) n cap) n xs := ⟨by simpa using hxl, .inr ⟨g, cap, cur, rfl, hbg, hg, hnc, hcm, hcs, htake⟩⟩
      have holds : ∀ j u, xs[j]? = some u → w.cell? ((⟨g, 0, none⟩ : Addr).add j) = some u := hown'.cells (g := g) rfl
      have hq := Lib.run_append_grow_string (P := P) w t u ty e i (.int .u8 0) ht hu hi hz ⟨g, 0, none⟩ n cap xs (by rw [hsize]; simpa using hxl) holds s (by omega) (by omega) (by rw [hby]; exact growslice_fits (by omega) (by omega))
      rw [hr] at hq
      injection hq with hq _
      subst hq
      exact Lies.of (.inr rfl)
theorem strCells_strB' (l : List (BitVec 8)) : Lib.strCells (strB l) = blist l := by
  unfold Lib.strCells strB strOfNums blist
  apply List.ext_getElem?
  intro i
  simp only [List.map_map, List.getElem?_map]
  cases l[i]? with
  | none => rfl
  | some x =>
    have hx := x.isLt
    show some (Value.int .u8 ((UInt8.ofNat (nb8 x).toNat).toNat : Int)) = some (Value.int .u8 (nb8 x))
    rw [show (nb8 x).toNat = x.toNat from rfl, UInt8.toNat_ofNat_of_lt' hx]
    rfl
theorem wp_append_str_at {w : World} {o : Oper} {a : Act} {K : Act → World → Prop} {Q : Exit → Act → World → Prop} (s x : Operand) (t u : TypeId)
    (ho : o.op = .call { callee := .builtin .append, args := #[s, x], argTypes := #[t, u] })
    (T : TypeId) (ht : P.underlying t = some (.slice T)) (hu : P.underlying u = some .string) (hinfo : (P.info? T).map (fun i => (i.zero, i.size, i.bytes)) = some (some (.int .u8 0), 1, 1))
    (B : Nat) (v : Value) (l : List (BitVec 8)) (hs : a.eval s = v) (hown : OwnB T B w v l) (l2 : List (BitVec 8)) (hx : a.eval x = .string (strB l2))
    (h63 : l.length + l2.length ≤ 1099511627776) (hbase : B ≤ w.heap.size)
    (h : ∀ v' w', OwnB T B w' v' (l ++ l2) → w.grownBy w' v.ownBlock → Lies w v v' → K (a.put o.dst v') w') : o.wp P a w K Q := by
  obtain ⟨i0, hi, hz0, hz1, hz2⟩ := info_parts hinfo
  obtain ⟨v', w', hr, h2, h3, h4⟩ := run_append_string_at (P := P) w B t u o.type T i0 ht hu hi hz0 hz1 hz2 v _ _ hown (strB l2) (by rw [strB_size]; exact h63) hbase
  rw [strB_size, strCells_strB'] at h2
  unfold Oper.wp execOp
  simp only [ho, resolve, invoke, builtin, Sem.run_bind, Sem.run_pure, Result.andThen_ok, List.map_toArray, List.map_cons, List.map_nil, hs, hx, hr]
  exact h v' w' (OwnB.all rfl h2) h3 h4
theorem wpList_append_str_at {w : World} {ops : Array Oper} {rest : List Oper} {o : Oper} {a : Act} {Q : Exit → Act → World → Prop} (hgd : o.guard = none) (s x : Operand) (t u : TypeId)
    (ho : o.op = .call { callee := .builtin .append, args := #[s, x], argTypes := #[t, u] })
    (T : TypeId) (ht : P.underlying t = some (.slice T)) (hu : P.underlying u = some .string) (hinfo : (P.info? T).map (fun i => (i.zero, i.size, i.bytes)) = some (some (.int .u8 0), 1, 1))
    (B : Nat) (v : Value) (l : List (BitVec 8)) (hs : a.eval s = v) (hown : OwnB T B w v l) (l2 : List (BitVec 8)) (hx : a.eval x = .string (strB l2))
    (h63 : l.length + l2.length ≤ 1099511627776) (hbase : B ≤ w.heap.size)
    (h : ∀ v' w', OwnB T B w' v' (l ++ l2) → w.grownBy w' v.ownBlock → Lies w v v' → wpList P ops Q rest (a.put o.dst v') w') : wpList P ops Q (o :: rest) a w :=
  wpList_plain hgd fun _ hK => wp_append_str_at s x t u ho T ht hu hinfo B v l hs hown l2 hx h63 hbase fun v' w' h1 h2 h3 => hK _ _ (h v' w' h1 h2 h3)
end
end Go.Proofs.YtagjolbpmhbifaaGreatDoor

/-! Records of several cells: slices of them, how they are read, appended to, written. Nothing of the program. -/
namespace Go.Proofs.YtagjolbpmhbifaaGreatDoor
open Go Go.RowKit Go.ChangeShapes Go.WideShapes
/-- a kind of record: how many cells, which, what is within -/
structure Rec (α : Type) where
  k : Nat
  cells : α → List Value
  ok : α → Prop
  pos : 0 < k
  len : ∀ t, ok t → (cells t).length = k
  one : ∀ t v, v ∈ cells t → v.oneCell' = true
section
variable {α : Type} (R : Rec α)
def Rec.row (L : List α) : List Value := L.flatMap R.cells
theorem Rec.row_app (L M : List α) : R.row (L ++ M) = R.row L ++ R.row M := List.flatMap_append
theorem Rec.row_one (L : List α) : ∀ v ∈ R.row L, v.oneCell' = true := by
  intro v hv
  obtain ⟨t, _, ht⟩ := List.mem_flatMap.1 hv
  exact R.one t v ht
theorem Rec.row_len : ∀ {L : List α}, (∀ t, t ∈ L → R.ok t) → (R.row L).length = L.length * R.k
  | [], _ => by simp [Rec.row]
  | t :: L, h => by
    have ih := Rec.row_len (L := L) (fun u hu => h u (List.mem_cons_of_mem _ hu))
    have h1 := R.len t (h t List.mem_cons_self)
    show (R.cells t ++ R.row L).length = (L.length + 1) * R.k
    rw [List.length_append, h1, ih, Nat.add_mul, Nat.one_mul, Nat.add_comm]
theorem Rec.row_at : ∀ {L : List α} (_ : ∀ t, t ∈ L → R.ok t) (i j : Nat) (t : α), L[i]? = some t → j < R.k → (R.row L)[i * R.k + j]? = (R.cells t)[j]?
  | [], _, i, j, t, hi, _ => by simp at hi
  | u :: L, h, 0, j, t, hi, hj => by
    have h1 := R.len u (h u List.mem_cons_self)
    obtain rfl : u = t := by simpa using hi
    show (R.cells u ++ R.row L)[0 * R.k + j]? = _
    rw [Nat.zero_mul, Nat.zero_add, List.getElem?_append_left (by omega)]
  | u :: L, h, i + 1, j, t, hi, hj => by
    have h1 := R.len u (h u List.mem_cons_self)
    have ih := Rec.row_at (L := L) (fun u hu => h u (List.mem_cons_of_mem _ hu)) i j t (by simpa using hi) hj
    show (R.cells u ++ R.row L)[(i + 1) * R.k + j]? = _
    have e : (i + 1) * R.k + j = R.k + (i * R.k + j) := by rw [Nat.add_mul, Nat.one_mul]; omega
    rw [e, List.getElem?_append_right (by omega), h1, Nat.add_sub_cancel_left, ih]
/-- a slice of records: readable where there are any -/
def Recs (w : World) (a : Option Addr) (n : Nat) (L : List α) : Prop :=
  L.length = n ∧ n ≤ maxLen ∧ (∀ t, t ∈ L → R.ok t) ∧ ∀ (i : Nat) (t : α), L[i]? = some t → ∃ x, a = some x ∧ ∀ (j : Nat) (v : Value), (R.cells t)[j]? = some v → w.cell? (x.add (i * R.k + j)) = some v
/-- v is the call's own slice of records, made since block B; L: its elements -/
def OwnR (T : TypeId) (B : Nat) (w : World) (v : Value) (L : List α) : Prop := (∀ t, t ∈ L → R.ok t) ∧ w.ownsRow B T R.k v L.length (R.row L)
end
section
variable {α : Type} {R : Rec α} {w w' : World} {a : Option Addr} {n : Nat} {L : List α}
theorem Recs.keep (h : Recs R w a n L) (hk : ∀ p : Addr, (w.cell? p).isSome = true → w'.cell? p = w.cell? p) : Recs R w' a n L := by
  refine ⟨h.1, h.2.1, h.2.2.1, fun i t hi => ?_⟩
  obtain ⟨x, rfl, hx⟩ := h.2.2.2 i t hi
  exact ⟨x, rfl, fun j v hj => by rw [hk _ (by rw [hx j v hj]; rfl)]; exact hx j v hj⟩
theorem Recs.below (h : Recs R w a n L) (hb : Below w.heap.size w w') : Recs R w' a n L := h.keep fun _ hp => hb.cell (isSome_lt hp)
theorem Recs.past (h : Recs R w a n L) (o : Obj) : Recs R (w.alloc o) a n L := h.keep fun p hp => World.cell?_alloc_lt w o p (isSome_lt hp)
theorem Recs.draw (h : Recs R w a n L) : Recs R w.drew a n L := h
theorem Recs.draws (h : Recs R w a n L) (m : Nat) : Recs R (w.drewN m) a n L := h
theorem recs_none (R : Rec α) (w : World) : Recs R w none 0 [] := ⟨rfl, by unfold maxLen; omega, (fun _ h => by cases h), fun i t hi => by simp at hi⟩
theorem Recs.moved {F : Nat → Prop} (h : Recs R w a n L) (hm : Moved F w w') (hv : 0 < n → ∀ y, a = some y → ¬ F y.block) : Recs R w' a n L := by
  refine ⟨h.1, h.2.1, h.2.2.1, fun i t hi => ?_⟩
  obtain ⟨x, rfl, hx⟩ := h.2.2.2 i t hi
  refine ⟨x, rfl, fun j v hj => ?_⟩
  have hi' : i < L.length := (List.getElem?_eq_some_iff.1 hi).1
  refine (World.cell?_of_block (hm.block _ (isSome_lt (by rw [hx j v hj]; rfl)) ?_)).trans (hx j v hj)
  rw [block_add]
  exact hv (by have := h.1; omega) x rfl
theorem Recs.okay (h : Recs R w a n L) {i : Nat} {t : α} (hi : L[i]? = some t) : R.ok t := h.2.2.1 t (List.mem_of_getElem? hi)
theorem Recs.get (h : Recs R w a n L) {i : Nat} (hi : i < n) : ∃ t, L[i]? = some t := ⟨L[i]'(by rw [h.1]; exact hi), List.getElem?_eq_getElem _⟩
theorem Recs.field {x : Addr} (h : Recs R w (some x) n L) {i j : Nat} {t : α} {v : Value} (hi : L[i]? = some t) (hj : (R.cells t)[j]? = some v) : w.cell? (x.add (i * R.k + j)) = some v := by
  obtain ⟨y, e, hx⟩ := h.2.2.2 i t hi
  injection e with e
  subst e
  exact hx j v hj
/-- the same as a field's address has it -/
theorem Recs.fieldS {x : Addr} (h : Recs R w (some x) n L) {i j : Nat} {t : α} {v : Value} (hi : L[i]? = some t) (hj : (R.cells t)[j + 1]? = some v) : w.cell? ⟨(x.add (i * R.k)).block, (x.add (i * R.k)).off + (j + 1), none⟩ = some v := by
  have := h.field hi hj
  rwa [← Addr.add_add, Addr.add_succ'] at this
/-- the first m of them -/
theorem Recs.take (h : Recs R w a n L) {m : Nat} (hm : m ≤ n) : Recs R w a m (L.take m) := by
  refine ⟨by rw [List.length_take, h.1]; omega, by have := h.2.1; omega, fun t ht => h.2.2.1 t (List.mem_of_mem_take ht), fun i t hi => ?_⟩
  rw [List.getElem?_take] at hi
  split at hi
  · exact h.2.2.2 i t hi
  · cases hi
variable {T : TypeId} {B : Nat} {v : Value}
theorem OwnR.nil (R : Rec α) (T : TypeId) (B : Nat) (w : World) : OwnR R T B w (.slice none 0 0) [] := ⟨(fun _ h => by cases h), World.ownsRow_nil _ _ _ _⟩
theorem OwnR.empty {w1 : World} {g : Nat} (hB : B ≤ g) (hh : Has w1 g T #[]) : OwnR R T B w1 (.slice (some ⟨g, 0, none⟩) 0 0) [] :=
  ⟨(fun _ h => by cases h), by simp [Rec.row], .inr ⟨g, 0, #[], rfl, hB, hh, Nat.le_refl _, by unfold maxLen; omega, by simp, by simp [Rec.row]⟩⟩
theorem OwnR.all {M : List α} {k : Nat} (hL : ∀ t, t ∈ L → R.ok t) (hM : ∀ t, t ∈ M → R.ok t) (hk : M.length = k) (h : w'.ownsRow B T R.k v (L.length + k) (R.row L ++ R.row M)) : OwnR R T B w' v (L ++ M) := by
  subst hk
  refine ⟨fun l hl => (List.mem_append.1 hl).elim (hL l) (hM l), ?_⟩
  rw [Rec.row_app]
  simpa using h
theorem OwnR.lt (h : OwnR R T B w v L) : ∀ k, v.ownBlock = some k → B ≤ k := fun k hk => (World.ownsRow.lt h.2 k hk).1
theorem OwnR.lt_size (h : OwnR R T B w v L) : ∀ k, v.ownBlock = some k → B ≤ k ∧ k < w.heap.size := World.ownsRow.lt h.2
theorem OwnR.moved {F : Nat → Prop} (h : OwnR R T B w v L) (hm : Moved F w w') (hv : ∀ k, v.ownBlock = some k → ¬ F k) : OwnR R T B w' v L := by
  refine ⟨h.1, h.2.1, ?_⟩
  rcases h.2.2 with hn | ⟨G, cap, cur, rfl, h1, h2, rest⟩
  · exact .inl hn
  · exact .inr ⟨G, cap, cur, rfl, h1, (hm.block G (Array.getElem?_eq_some_iff.1 h2).1 (hv G rfl)).trans h2, rest⟩
theorem OwnR.below (h : OwnR R T B w v L) (hb : Below w.heap.size w w') : OwnR R T B w' v L := by
  refine ⟨h.1, h.2.1, ?_⟩
  rcases h.2.2 with hn | ⟨G, cap, cur, rfl, h1, h2, rest⟩
  · exact .inl hn
  · exact .inr ⟨G, cap, cur, rfl, h1, (hb.block _ (Array.getElem?_eq_some_iff.1 h2).1).trans h2, rest⟩
theorem OwnR.low {B' : Nat} (h : OwnR R T B w v L) (hB : B' ≤ B) : OwnR R T B' w v L := by
  refine ⟨h.1, h.2.1, ?_⟩
  rcases h.2.2 with hn | ⟨G, cap, cur, rfl, h1, h2⟩
  · exact .inl hn
  · exact .inr ⟨G, cap, cur, rfl, by omega, h2⟩
theorem OwnR.draw (h : OwnR R T B w v L) : OwnR R T B w.drew v L := h
theorem OwnR.draws (h : OwnR R T B w v L) (n : Nat) : OwnR R T B (w.drewN n) v L := h
/-- to read it -/
theorem OwnR.shape {K : Nat} (h : OwnR R T B w v L) (hK : L.length = K) : ∃ a c, v = .slice a K c ∧ K ≤ c ∧ (a = none → c = 0) ∧ (∀ x, a = some x → B ≤ x.block ∧ x.block < w.heap.size) ∧ Recs R w a K L := by
  subst hK
  have hlt := h.lt_size
  obtain ⟨hall, hl, ⟨rfl, h0⟩ | ⟨g, cap, cur, rfl, hg, hh, hn, hm, hc, ht⟩⟩ := h
  · obtain rfl := List.length_eq_zero_iff.1 h0
    exact ⟨none, 0, rfl, Nat.le_refl _, fun _ => rfl, (fun x e => by cases e), recs_none R w⟩
  · refine ⟨_, cap, rfl, hn, (fun e => by cases e), (fun x e => by injection e with e; subst e; exact hlt g rfl), rfl, by omega, hall, fun i t hi => ⟨_, rfl, fun j u hj => ?_⟩⟩
    have hi' : i < L.length := (List.getElem?_eq_some_iff.1 hi).1
    have hj' : j < R.k := by
      have := (List.getElem?_eq_some_iff.1 hj).1
      rwa [R.len t (hall t (List.mem_of_getElem? hi))] at this
    have hb : i * R.k + j < L.length * R.k := by
      have := Nat.mul_le_mul_right R.k (show i + 1 ≤ L.length from hi')
      rw [Nat.add_mul, Nat.one_mul] at this
      omega
    rw [Addr.add_mid, Nat.zero_add, (show Has w g T cur from hh).cell, ← hj, ← R.row_at hall i j t hi hj', ← ht, List.getElem?_take, if_pos hb, Array.getElem?_toList]
end
theorem below_own_recs {w0 w w' : World} {row : Option Nat} (hb : Below w0.heap.size w0 w) (hg : w.grownBy w' row) (hr : ∀ k, row = some k → w0.heap.size ≤ k) : Below w0.heap.size w0 w' := hb.grown hg hb.size hr
section
variable {α : Type} {R : Rec α} {P : Program}
theorem Recs.flat {w : World} {x : Addr} {n : Nat} {L : List α} (h : Recs R w (some x) n L) : ∀ j u, (R.row L)[j]? = some u → w.cell? (x.add j) = some u := fun j u hj => by
  obtain ⟨hM, hm, hall, hcell⟩ := h
  have hj2 : j < L.length * R.k := by
    have := (List.getElem?_eq_some_iff.1 hj).1
    rwa [R.row_len hall] at this
  have hk := R.pos
  have hd : j / R.k < L.length := Nat.div_lt_of_lt_mul (by rwa [Nat.mul_comm] at hj2)
  have hmod : j % R.k < R.k := Nat.mod_lt _ hk
  have e2 : j / R.k * R.k + j % R.k = j := by rw [Nat.mul_comm]; exact Nat.div_add_mod j R.k
  have ht : L[j / R.k]? = some L[j / R.k] := List.getElem?_eq_getElem hd
  obtain ⟨y, e, hx2⟩ := hcell (j / R.k) _ ht
  injection e with e
  subst e
  have h4 := R.row_at hall (j / R.k) (j % R.k) _ ht hmod
  rw [e2, hj] at h4
  have h3 := hx2 (j % R.k) u h4.symm
  rwa [e2] at h3
/-- append(own, records...): where the new slice lies -/
theorem wp_append_recs {w : World} {o : Oper} {a : Act} {K : Act → World → Prop} {Q : Exit → Act → World → Prop} (s x : Operand) (t : TypeId)
    (ho : o.op = .call { callee := .builtin .append, args := #[s, x], argTypes := #[t, t] })
    (T : TypeId) (ht : P.underlying t = some (.slice T)) {z : Value} {by_ : Nat} (hinfo : (P.info? T).map (fun i => (i.zero, i.size, i.bytes)) = some (some z, R.k, by_)) (hzk : z.cells.size = R.k) (hby : by_ ≤ 128)
    (B : Nat) (v : Value) (L : List α) (hs : a.eval s = v) (hown : OwnR R T B w v L) (ad : Option Addr) (m c : Nat) (M : List α) (hx : a.eval x = .slice ad m c) (hw : Recs R w ad m M) (hc : ad = none → c = 0)
    (h63 : L.length + m ≤ 1099511627776) (hbase : B ≤ w.heap.size)
    (h : ∀ v' w', OwnR R T B w' v' (L ++ M) → w.grownBy w' v.ownBlock → Lies w v v' → K (a.put o.dst v') w') : o.wp P a w K Q := by
  obtain ⟨i0, hi, hz0, hz1, hz2⟩ := info_parts hinfo
  rcases ad with _ | ad
  · obtain ⟨hM, hm, hall, hcell⟩ := hw
    have h0 : m = 0 := by
      rcases Nat.eq_zero_or_pos m with h0 | h0
      · exact h0
      · obtain ⟨_, e, _⟩ := hcell 0 _ (List.getElem?_eq_getElem (by omega))
        cases e
    subst h0
    obtain rfl := List.length_eq_zero_iff.1 hM
    obtain rfl := hc rfl
    have hrun := run_append_owned_none (P := P) (w := w) B t o.type T i0 R.k ht hi v _ _ hown.2
    unfold Oper.wp
    simp [execOp, ho, resolve, invoke, builtin, hs, hx, hrun, Result.andThen]
    exact h v w (by simpa using hown) (World.grownBy.refl w _) (Lies.refl w v)
  · have hf := hw.flat
    obtain ⟨hM, hm, hall, hcell⟩ := hw
    have hbb : (L.length + m) * by_ ≤ 140737488355328 := Nat.le_trans (Nat.mul_le_mul h63 hby) (by omega)
    obtain ⟨v', w', hr, h2, h3, _, h5⟩ := run_append_own_at (P := P) w B t o.type T i0 z R.k by_ ht hi hz0 hz1 hz2 hzk R.pos v _ _ hown.2 ad m c (R.row M) (by rw [R.row_len hall, hM]) hf (R.row_one _) (by unfold maxLen; omega) hbb hbase
    unfold Oper.wp execOp
    simp only [ho, resolve, invoke, builtin, Sem.run_bind, Sem.run_pure, Result.andThen_ok, List.map_toArray, List.map_cons, List.map_nil, hs, hx, hr]
    exact h v' w' (OwnR.all hown.1 hall hM h2) h3 (Lies.of h5)
theorem wpList_append_recs {w : World} {ops : Array Oper} {rest : List Oper} {o : Oper} {a : Act} {Q : Exit → Act → World → Prop} (hgd : o.guard = none) (s x : Operand) (t : TypeId)
    (ho : o.op = .call { callee := .builtin .append, args := #[s, x], argTypes := #[t, t] })
    (T : TypeId) (ht : P.underlying t = some (.slice T)) {z : Value} {by_ : Nat} (hinfo : (P.info? T).map (fun i => (i.zero, i.size, i.bytes)) = some (some z, R.k, by_)) (hzk : z.cells.size = R.k) (hby : by_ ≤ 128)
    (B : Nat) (v : Value) (L : List α) (hs : a.eval s = v) (hown : OwnR R T B w v L) (ad : Option Addr) (m c : Nat) (M : List α) (hx : a.eval x = .slice ad m c) (hw : Recs R w ad m M) (hc : ad = none → c = 0)
    (h63 : L.length + m ≤ 1099511627776) (hbase : B ≤ w.heap.size)
    (h : ∀ v' w', OwnR R T B w' v' (L ++ M) → w.grownBy w' v.ownBlock → Lies w v v' → wpList P ops Q rest (a.put o.dst v') w') : wpList P ops Q (o :: rest) a w :=
  wpList_plain hgd fun _ hK => wp_append_recs s x t ho T ht hinfo hzk hby B v L hs hown ad m c M hx hw hc h63 hbase fun v' w' h1 h2 h3 => hK _ _ (h v' w' h1 h2 h3)
theorem step_append_recs {w : World} {ops : Array Oper} {o : Oper} {a : Act} {K : Act → World → Prop} {Q : Exit → Act → World → Prop} {E : Prop} (hwt : Region.wanted o (yielded ops a.tmps) = true) (s x : Operand) (t : TypeId)
    (ho : o.op = .call { callee := .builtin .append, args := #[s, x], argTypes := #[t, t] })
    (T : TypeId) (ht : P.underlying t = some (.slice T)) {z : Value} {by_ : Nat} (hinfo : (P.info? T).map (fun i => (i.zero, i.size, i.bytes)) = some (some z, R.k, by_)) (hzk : z.cells.size = R.k) (hby : by_ ≤ 128)
    (B : Nat) (v : Value) (L : List α) (hs : a.eval s = v) (hown : OwnR R T B w v L) (ad : Option Addr) (m c : Nat) (M : List α) (hx : a.eval x = .slice ad m c) (hw : Recs R w ad m M) (hc : ad = none → c = 0)
    (h63 : L.length + m ≤ 1099511627776) (hbase : B ≤ w.heap.size)
    (h : ∀ v' w', OwnR R T B w' v' (L ++ M) → w.grownBy w' v.ownBlock → Lies w v v' → K (a.put o.dst v') w') : if Region.wanted o (yielded ops a.tmps) = true then Oper.wp P o a w K Q else E := by
  rw [if_pos hwt]
  exact wp_append_recs s x t ho T ht hinfo hzk hby B v L hs hown ad m c M hx hw hc h63 hbase h
/-- the records of a block of their own -/
theorem recs_fresh {w : World} {g : Nat} {T : TypeId} {cs : Array Value} {L : List α} (hall : ∀ t, t ∈ L → R.ok t) (hh : Has w g T cs) (hn : L.length ≤ maxLen) (hc : ∀ (j : Nat) (u : Value), (R.row L)[j]? = some u → cs[j]? = some u) : Recs R w (some ⟨g, 0, none⟩) L.length L := by
  refine ⟨rfl, hn, hall, fun i t hi => ⟨_, rfl, fun j u hj => ?_⟩⟩
  have hj' : j < R.k := by
    have := (List.getElem?_eq_some_iff.1 hj).1
    rwa [R.len t (hall t (List.mem_of_getElem? hi))] at this
  rw [Addr.add_mid, Nat.zero_add, hh.cell]
  exact hc _ _ (by rw [R.row_at hall i j t hi hj']; exact hj)
/-- a record is read whole -/
theorem Recs.load {T : TypeId} {d : TypeDesc} (hT : P.underlying T = some d) (hd : d.isRow = true) (hsz : (P.info? T).map (·.size) = some R.k) {w : World} {a : Option Addr} {n i : Nat} {L : List α} {t : α} (h : Recs R w a n L) (hi : L[i]? = some t) :
    ∃ x, a = some x ∧ (Instr.loadAt T (.pointer (some (x.add (i * R.k))))).run P w = .ok (.agg (R.cells t).toArray) w := by
  obtain ⟨x, rfl, hx⟩ := h.2.2.2 i t hi
  refine ⟨x, rfl, ?_⟩
  have hok := h.okay hi
  have h1 := run_loadCells_list (P := P) w (x.add (i * R.k)) (R.cells t) (fun j v hj => by rw [Addr.add_add]; exact hx j v hj)
  rw [R.len t hok] at h1
  cases hq : P.info? T with
  | none => simp [hq] at hsz
  | some inf =>
    have hz : inf.size = R.k := by simpa [hq] using hsz
    have hagg : (isAgg T).run P w = .ok true w := by
      unfold isAgg
      rw [Sem.run_bind, run_underlying hT w]
      cases d <;> first | rfl | (exact absurd hd (by simp [TypeDesc.isRow]))
    simp [Instr.loadAt, Instr.sureAddr, loadVar, Sem.run_bind, hagg, sizeOf, typeInfo, hq, hz, h1]
end
theorem Recs.load_at {α : Type} {R : Rec α} {P : Program} {T : TypeId} {d : TypeDesc} (hT : P.underlying T = some d) (hd : d.isRow = true) (hsz : (P.info? T).map (·.size) = some R.k) {w : World} {x : Addr} {n i : Nat} {L : List α} {t : α} (h : Recs R w (some x) n L) (hi : L[i]? = some t) :
    (Instr.loadAt T (.pointer (some (x.add (i * R.k))))).run P w = .ok (.agg (R.cells t).toArray) w := by
  obtain ⟨y, e, hy⟩ := h.load hT hd hsz hi
  injection e with e
  subst e
  exact hy
section
variable {α : Type} {R : Rec α} {P : Program} {t : α} {z : Array Value}
theorem Rec.there (w : World) (T : TypeId) (hz : z.size = R.k) (h : R.ok t) : (w.alloc (.cells z T)).there w.heap.size 0 (R.cells t).toArray.size :=
  (Has.fresh w T z).there 0 _ (by rw [List.size_toArray, R.len t h, hz]; omega)
theorem Rec.all_one (R : Rec α) (t : α) : (R.cells t).toArray.all (·.oneCell') = true :=
  Array.all_eq_true_iff_forall_mem.2 fun v hv => R.one t v (by simpa using hv)
theorem Rec.size_eq {T : TypeId} (hs : (P.info? T).map (·.size) = some R.k) (h : R.ok t) : (P.info? T).map (·.size) = some (R.cells t).toArray.size := by
  rw [hs, List.size_toArray, R.len t h]
/-- a record that is stored in new memory -/
theorem Rec.new {w w' : World} {T : TypeId} (hz : z.size = R.k) (h : R.ok t) (e : w' = (w.alloc (.cells z T)).setCells w.heap.size 0 (R.cells t)) : Has w' w.heap.size T (R.cells t).toArray ∧ Below w.heap.size w w' := by
  subst e
  refine ⟨?_, below_setAll (Nat.le_refl _) _ 0 ((Below.refl _ _).alloc (Nat.le_refl _) _)⟩
  have := (Has.fresh w T z).putAll (R.cells t) 0
  rwa [putAll_to _ _ 0 (by rw [R.len t h, hz]; omega), List.take_zero, List.nil_append] at this
end
section
variable {α : Type} {R : Rec α} {H : Type} {enc : TypeId × Value → H} {P : Program} {W : World} {base : Nat} {spare : Nat → Bool} {held : Bool}
theorem exists_recs (R : Rec α) (W : World) (x : Addr) : ∀ (n : Nat) (_ : ∀ i, i < n → ∃ t : α, R.ok t ∧ ∀ (j : Nat) (v : Value), (R.cells t)[j]? = some v → W.cell? (x.add (i * R.k + j)) = some v),
    ∃ L : List α, L.length = n ∧ (∀ t, t ∈ L → R.ok t) ∧ ∀ (i : Nat) (t : α), L[i]? = some t → ∀ (j : Nat) (v : Value), (R.cells t)[j]? = some v → W.cell? (x.add (i * R.k + j)) = some v
  | 0, _ => ⟨[], rfl, (fun _ hl => by cases hl), fun i t hi => by simp at hi⟩
  | n + 1, h => by
    obtain ⟨L, h1, h2, h3⟩ := exists_recs R W x n (fun i hi => h i (by omega))
    obtain ⟨t, h4, h5⟩ := h n (by omega)
    refine ⟨L ++ [t], by simp [h1], fun u hu => ?_, fun i u hi => ?_⟩
    · rcases List.mem_append.1 hu with h | h
      · exact h2 u h
      · rw [List.mem_singleton.1 h]; exact h4
    · rcases Nat.lt_or_ge i n with hlt | hge
      · rw [List.getElem?_append_left (by omega)] at hi
        exact h3 i u hi
      · rw [List.getElem?_append_right (by omega), h1] at hi
        have e : i = n := by
          rcases Nat.eq_or_lt_of_le hge with e | e
          · exact e.symm
          · rw [List.getElem?_eq_none (by simp; omega)] at hi; cases hi
        subst e
        rw [Nat.sub_self] at hi
        injection hi with hi
        subst hi
        exact h5
/-- a slice of records as a cell that was read -/
theorem open_recs {t T : TypeId} (ht : P.underlying t = some (.slice T)) (hC : P.cellsOf T = R.k)
    (hone : ∀ {fuel : Nat} {cs : List Value} {x : DataW H × List MemPlace}, DataW.trod enc P W base spare held fuel T cs = some x → ∃ t : α, cs = R.cells t ∧ R.ok t)
    {fuel : Nat} {c : Value} {y : DataW H × List MemPlace} (hf : DataW.trod enc P W base spare held fuel t [c] = some y) :
    ∃ (a : Option Addr) (n q : Nat) (L : List α), c = .slice a n q ∧ Recs R W a n L ∧ n ≤ q ∧ (a = none → q = 0) := by
  rcases Go.Deep.open_slice ht hf with ⟨hcs, _⟩ | ⟨x, len, cap, m, q, D, Pl, hcs, _, hl, hm, hmm, _, hcell⟩
  · obtain ⟨rfl, _⟩ := List.cons.inj hcs
    exact ⟨none, 0, 0, [], rfl, recs_none R W, Nat.le_refl _, fun _ => rfl⟩
  · obtain ⟨rfl, _⟩ := List.cons.inj hcs
    obtain ⟨L, h1, h2, h3⟩ := exists_recs R W x len (fun i hi => by
      obtain ⟨cs, hcs, htr⟩ := hcell i (by split at hmm <;> omega)
      obtain ⟨t, rfl, hok⟩ := hone htr
      rw [hC] at hcs
      obtain ⟨_, hlen, hat⟩ := World.cells?_some hcs
      refine ⟨t, hok, fun j u hj => ?_⟩
      have hjk : j < R.k := by
        have := (List.getElem?_eq_some_iff.1 hj).1
        rwa [R.len t hok] at this
      rw [← Addr.add_add, hat j hjk, hj])
    exact ⟨some x, len, cap, L, rfl, ⟨h1, by omega, h2, fun i t hi => ⟨x, rfl, h3 i t hi⟩⟩, hl, fun e => by cases e⟩
end
theorem putAll_size : ∀ (vs : List Value) (cs : Array Value) (o : Nat), (putAll cs o vs).size = cs.size
  | [], _, _ => rfl
  | v :: vs, cs, o => by
    show (putAll (cs.setIfInBounds o v) (o + 1) vs).size = cs.size
    rw [putAll_size vs, Array.size_setIfInBounds]
/-- a slice whose elements may be written: in a block of its own, made since block B -/
def Rowed (T : TypeId) (k B : Nat) (w : World) (a : Option Addr) (n : Nat) : Prop := n = 0 ∨ ∃ g cur, a = some ⟨g, 0, none⟩ ∧ B ≤ g ∧ Has w g T cur ∧ n * k ≤ cur.size
section
variable {T : TypeId} {k B n q : Nat} {w w' : World} {a : Option Addr}
theorem OwnR.rowed {α : Type} {R : Rec α} {L : List α} (h : OwnR R T B w (.slice a n q) L) : Rowed T R.k B w a n := by
  obtain ⟨_, hl, ⟨e, h0⟩ | ⟨g, cap, cur, e, hg, hh, hn, hm, hc, ht⟩⟩ := h
  · injection e with e1 e2 e3
    exact .inl e2
  · injection e with e1 e2 e3
    subst e1
    refine .inr ⟨g, cur, rfl, hg, hh, ?_⟩
    rw [hc, e2]
    exact Nat.mul_le_mul_right _ hn
theorem Rowed.below (h : Rowed T k B w a n) (hb : Below w.heap.size w w') : Rowed T k B w' a n := by
  rcases h with h | ⟨g, cur, e, hB, hh, hs⟩
  · exact .inl h
  · exact .inr ⟨g, cur, e, hB, hh.under hb hh.lt, hs⟩
theorem Rowed.moved {F : Nat → Prop} (h : Rowed T k B w a n) (hm : Moved F w w') (hF : ∀ g, B ≤ g → g < w.heap.size → ¬ F g) : Rowed T k B w' a n := by
  rcases h with h | ⟨g, cur, e, hB, hh, hs⟩
  · exact .inl h
  · exact .inr ⟨g, cur, e, hB, hh.moved hm (hF g hB hh.lt), hs⟩
theorem Rowed.open (h : Rowed T k B w a n) {i : Nat} (hi : i < n) : ∃ g cur, a = some ⟨g, 0, none⟩ ∧ B ≤ g ∧ Has w g T cur ∧ n * k ≤ cur.size := by
  rcases h with h | h
  · omega
  · exact h
theorem Has.ne_type {t t' : TypeId} {g g' : Nat} {cs cs' : Array Value} (h : Has w g t cs) (h' : Has w g' t' cs') (hT : t ≠ t') : g ≠ g' := by
  rintro rfl
  unfold Has at h h'
  rw [h] at h'
  injection h' with e
  injection e with _ e2
  exact hT e2
theorem Rowed.aside {t : TypeId} {g : Nat} {cur : Array Value} (h : Rowed T k B w a n) (hh : Has w g t cur) (hT : T ≠ t) (o : Nat) (vs : List Value) : Rowed T k B (w.setCells g o vs) a n := by
  rcases h with h | ⟨g', cur', e, hB, hh', hs⟩
  · exact .inl h
  · exact .inr ⟨g', cur', e, hB, hh'.asideAll (hh'.ne_type hh hT) vs o, hs⟩
theorem Rowed.put {g : Nat} {cur : Array Value} (hB : B ≤ g) (hh : Has w g T cur) (hs : n * k ≤ cur.size) (o : Nat) (vs : List Value) : Rowed T k B (w.setCells g o vs) (some ⟨g, 0, none⟩) n :=
  .inr ⟨g, _, rfl, hB, hh.putAll vs o, by rw [putAll_size]; exact hs⟩
end
end Go.Proofs.YtagjolbpmhbifaaGreatDoor

/-! Arrays of bytes compared. Nothing of the program. -/
namespace Go.Proofs.YtagjolbpmhbifaaGreatDoor
open Go Go.RowKit
section
variable {P : Program} (w : World)
theorem run_part_byte {e : TypeId} (he : P.underlying e = some (.int .u8)) (hs : (P.info? e).map (·.size) = some 1) (l : List (BitVec 8)) (i : Nat) (hi : i < l.length) : (part e (blist l).toArray i).run P w = .ok (.int .u8 (nb8 (cb l i))) w := by
  cases hq : P.info? e with
  | none => simp [hq] at hs
  | some j =>
    have hz : j.size = 1 := by simpa [hq] using hs
    have hat := blist_at l i hi
    have hagg : (isAgg e).run P w = .ok false w := by
      unfold isAgg
      rw [Sem.run_bind, run_underlying he w]
      simp
    simp [part, sizeOf, typeInfo, hq, hz, hat, hagg]
theorem cb_ne {l m : List (BitVec 8)} {k : Nat} (hl : l.length = k) (hm : m.length = k) : l = m ↔ ∀ i, i < k → cb l i = cb m i := by
  constructor
  · rintro rfl _ _; rfl
  · intro h
    apply List.ext_getElem (hl.trans hm.symm)
    intro i h1 h2
    have := h i (by omega)
    unfold cb at this
    rw [List.getD_eq_getElem?_getD, List.getD_eq_getElem?_getD, List.getElem?_eq_getElem h1, List.getElem?_eq_getElem h2] at this
    exact this
theorem loop_eq {l m : List (BitVec 8)} {k : Nat} (f : Nat → Option Bool × Unit → Sem (ForInStep (Option Bool × Unit)))
    (hf : ∀ i s', i < k → (f i s').run P w = if cb l i = cb m i then .ok (.yield (none, ())) w else .ok (.done (some false, ())) w) :
    ∀ (r s : Nat), s + r = k → ∃ b : Bool, (b = true ↔ ∀ i, s ≤ i → i < k → cb l i = cb m i) ∧ (forIn (List.range' s r) ((none, ()) : Option Bool × Unit) f).run P w = .ok (if b = true then none else some false, ()) w := by
  intro r
  induction r with
  | zero =>
    intro s hs
    exact ⟨true, ⟨(fun _ i h1 h2 => by omega), fun _ => rfl⟩, by simp⟩
  | succ r ih =>
    intro s hs
    rw [List.range'_succ, List.forIn_cons, Sem.run_bind, hf s _ (by omega)]
    by_cases hx : cb l s = cb m s
    · rw [if_pos hx]
      simp only [Result.andThen_ok]
      obtain ⟨b, hb, he⟩ := ih (s + 1) (by omega)
      refine ⟨b, ⟨fun h i h1 h2 => ?_, fun h => hb.2 (fun i h1 h2 => h i (by omega) h2)⟩, he⟩
      rcases Nat.lt_or_ge s i with h3 | h3
      · exact hb.1 h i h3 h2
      · obtain rfl : i = s := by omega
        exact hx
    · rw [if_neg hx]
      exact ⟨false, ⟨(fun h => by cases h), fun h => absurd (h s (Nat.le_refl _) (by omega)) hx⟩, by simp⟩
theorem run_equal_bytes {t e : TypeId} {k d : Nat} (ht : P.underlying t = some (.array k e)) (he : P.underlying e = some (.int .u8)) (hs : (P.info? e).map (·.size) = some 1) (l m : List (BitVec 8)) (hl : l.length = k) (hm : m.length = k) :
    (Op.equalIn (d + 2) t (.agg (blist l).toArray) (.agg (blist m).toArray)).run P w = .ok (decide (l = m)) w := by
  cases hq : P.info? e with
  | none => simp [hq] at hs
  | some j =>
    have hz : j.size = 1 := by simpa [hq] using hs
    have hsz : (sizeOf e).run P w = .ok 1 w := by simp [sizeOf, typeInfo, hq, hz]
    rw [Op.equalIn]
    simp only [Sem.run_bind, run_underlying ht, Result.andThen_ok, hsz, Std.Legacy.Range.forIn_eq_forIn_range', Std.Legacy.Range.size, Nat.sub_zero, Nat.add_one_sub_one, Nat.div_one, Nat.mul_one]
    have step : ∀ (f : Nat → Option Bool × Unit → Sem (ForInStep (Option Bool × Unit))), (∀ i s', i < k → (f i s').run P w = if cb l i = cb m i then .ok (.yield (none, ())) w else .ok (.done (some false, ())) w) →
        (forIn (List.range' 0 k) ((none, ()) : Option Bool × Unit) f).run P w = .ok (if l = m then none else some false, ()) w := fun f hf => by
      obtain ⟨b, hb, he⟩ := loop_eq w f hf k 0 (by omega)
      rw [he]
      by_cases h : l = m
      · rw [if_pos h, if_pos (hb.2 (fun i _ hi => (cb_ne hl hm).1 h i hi))]
      · rw [if_neg h, if_neg (fun hbt => h ((cb_ne hl hm).2 (fun i hi => hb.1 hbt i (Nat.zero_le _) hi)))]
    rw [step _ (fun i s' hi => ?_)]
    · by_cases h : l = m
      · simp [h]
      · simp [h]
    · have h1 := run_part_byte (P := P) w he (by simp [hq, hz]) l i (by omega)
      have h2 := run_part_byte (P := P) w he (by simp [hq, hz]) m i (by omega)
      have h3 := run_equalIn_int (P := P) w d e .u8 .u8 (nb8 (cb l i)) (nb8 (cb m i)) he
      rw [Sem.run_bind, h1, Result.andThen_ok, Sem.run_bind, h2, Result.andThen_ok, Sem.run_bind, h3, Result.andThen_ok]
      by_cases hx : cb l i = cb m i
      · rw [if_pos hx, show (nb8 (cb l i) == nb8 (cb m i)) = true by rw [hx]; simp]
        rfl
      · rw [if_neg hx, show (nb8 (cb l i) == nb8 (cb m i)) = false by simpa [u8_inj] using hx]
        rfl
theorem run_eql_hash {t e : TypeId} {k : Nat} (ht : P.underlying t = some (.array k e)) (he : P.underlying e = some (.int .u8)) (hs : (P.info? e).map (·.size) = some 1) (l m : List (BitVec 8)) (hl : l.length = k) (hm : m.length = k) :
    (binOp .eql t (.agg (blist l).toArray) (.agg (blist m).toArray)).run P w = .ok (.bool (decide (l = m))) w := by
  rw [run_eql_struct, run_equal_bytes w ht he hs l m hl hm]
  rfl
theorem run_neq_hash {t e : TypeId} {k : Nat} (ht : P.underlying t = some (.array k e)) (he : P.underlying e = some (.int .u8)) (hs : (P.info? e).map (·.size) = some 1) (l m : List (BitVec 8)) (hl : l.length = k) (hm : m.length = k) :
    (binOp .neq t (.agg (blist l).toArray) (.agg (blist m).toArray)).run P w = .ok (.bool (!decide (l = m))) w := by
  rw [run_neq_struct, run_equal_bytes w ht he hs l m hl hm]
  rfl
end
/-- two arrays compared, in a region that draws -/
theorem yieldsIf_eql {P : Program} {ops : Array Oper} {S : World → Prop} {op : Oper} {a : Act} (hw : Region.wanted op (yielded ops a.tmps) = true) (t e yt : TypeId) (k : Nat) (x y : Operand) (ho : op.op = .binOp .eql t x y yt)
    (l m : List (BitVec 8)) (hx : a.eval x = .agg (blist l).toArray) (hy : a.eval y = .agg (blist m).toArray) (hg : P.eqGuardType P.depth t = false) (ht : P.underlying t = some (.array k e)) (he : P.underlying e = some (.int .u8)) (hs : (P.info? e).map (·.size) = some 1) (hl : l.length = k) (hm : m.length = k) :
    YieldsIf P ops S op (.bool (decide (l = m))) a :=
  .inl ⟨hw, fun w _ => by
    unfold execOp
    simp only [ho, hx, hy, Sem.run_bind, run_eqGuard_agg w .eql t x y _ _ hg, Result.andThen_ok, run_eql_hash w ht he hs l m hl hm, Sem.run_pure]⟩
theorem yieldsIf_eql_same {P : Program} {ops : Array Oper} {S : World → Prop} {op : Oper} {a : Act} (hw : Region.wanted op (yielded ops a.tmps) = true) (t e yt : TypeId) (k : Nat) (x y : Operand) (ho : op.op = .binOp .eql t x y yt)
    (l : List (BitVec 8)) (hx : a.eval x = .agg (blist l).toArray) (hy : a.eval y = .agg (blist l).toArray) (hg : P.eqGuardType P.depth t = false) (ht : P.underlying t = some (.array k e)) (he : P.underlying e = some (.int .u8)) (hs : (P.info? e).map (·.size) = some 1) (hl : l.length = k) :
    YieldsIf P ops S op (.bool true) a := by
  have h := yieldsIf_eql (S := S) hw t e yt k x y ho l l hx hy hg ht he hs hl hl
  rwa [decide_eq_true rfl] at h
theorem yieldsIf_neq {P : Program} {ops : Array Oper} {S : World → Prop} {op : Oper} {a : Act} (hw : Region.wanted op (yielded ops a.tmps) = true) (t e yt : TypeId) (k : Nat) (x y : Operand) (ho : op.op = .binOp .neq t x y yt)
    (l m : List (BitVec 8)) (hx : a.eval x = .agg (blist l).toArray) (hy : a.eval y = .agg (blist m).toArray) (hg : P.eqGuardType P.depth t = false) (ht : P.underlying t = some (.array k e)) (he : P.underlying e = some (.int .u8)) (hs : (P.info? e).map (·.size) = some 1) (hl : l.length = k) (hm : m.length = k) :
    YieldsIf P ops S op (.bool (!decide (l = m))) a :=
  .inl ⟨hw, fun w _ => by
    unfold execOp
    simp only [ho, hx, hy, Sem.run_bind, run_eqGuard_agg w .neq t x y _ _ hg, Result.andThen_ok, run_neq_hash w ht he hs l m hl hm, Sem.run_pure]⟩
theorem yieldsIf_neq_same {P : Program} {ops : Array Oper} {S : World → Prop} {op : Oper} {a : Act} (hw : Region.wanted op (yielded ops a.tmps) = true) (t e yt : TypeId) (k : Nat) (x y : Operand) (ho : op.op = .binOp .neq t x y yt)
    (l : List (BitVec 8)) (hx : a.eval x = .agg (blist l).toArray) (hy : a.eval y = .agg (blist l).toArray) (hg : P.eqGuardType P.depth t = false) (ht : P.underlying t = some (.array k e)) (he : P.underlying e = some (.int .u8)) (hs : (P.info? e).map (·.size) = some 1) (hl : l.length = k) :
    YieldsIf P ops S op (.bool false) a := by
  have h := yieldsIf_neq (S := S) hw t e yt k x y ho l l hx hy hg ht he hs hl hl
  rwa [decide_eq_true rfl] at h
end Go.Proofs.YtagjolbpmhbifaaGreatDoor

/-! Strings as lists of bytes: each is one, and which are the same. Nothing of the program. -/
namespace Go.Proofs.YtagjolbpmhbifaaGreatDoor
open Go Go.RowKit
theorem str_of (s : ByteArray) : ∃ l, s = strB l := by
  refine ⟨s.data.toList.map fun x => BitVec.ofNat 8 x.toNat, ?_⟩
  unfold strB strOfNums
  apply ByteArray.ext
  apply Array.ext'
  simp only [List.map_map]
  apply List.ext_getElem?
  intro i
  rw [List.getElem?_map]
  cases s.data.toList[i]? with
  | none => rfl
  | some x =>
    show some x = some (UInt8.ofNat (nb8 (BitVec.ofNat 8 x.toNat)).toNat)
    congr 1
    have hx := x.toNat_lt
    have : (nb8 (BitVec.ofNat 8 x.toNat)).toNat = x.toNat := by
      show (BitVec.ofNat 8 x.toNat).toNat = x.toNat
      rw [BitVec.toNat_ofNat]
      omega
    rw [this, UInt8.ofNat_toNat]
theorem strB_inj {l m : List (BitVec 8)} : strB l = strB m ↔ l = m := by
  constructor
  · intro h
    have h2 : (strB l).data.toList = (strB m).data.toList := by rw [h]
    unfold strB strOfNums at h2
    simp only [List.map_map] at h2
    refine List.map_inj_right (f := ((fun n : Int => UInt8.ofNat n.toNat) ∘ nb8)) ?_ |>.1 (by simpa using h2)
    intro x y hxy
    have h3 := congrArg UInt8.toNat hxy
    simp only [Function.comp_apply, nb8, Int.toNat_natCast, UInt8.toNat_ofNat'] at h3
    apply BitVec.eq_of_toNat_eq
    have := x.isLt
    have := y.isLt
    omega
  · rintro rfl; rfl
theorem strB_beq (l m : List (BitVec 8)) : ((strB l).toList == (strB m).toList) = decide (l = m) := by
  by_cases h : l = m
  · subst h
    simp
  · rw [decide_eq_false h]
    refine beq_eq_false_iff_ne.2 (fun e => h (strB_inj.1 ?_))
    rw [ByteArray.toList_eq, ByteArray.toList_eq] at e
    exact ByteArray.ext (Array.ext' e)
end Go.Proofs.YtagjolbpmhbifaaGreatDoor

/-! A struct of one-cell fields that came in by value: the reading of each field. Nothing of the program. -/
namespace Go.Proofs.YtagjolbpmhbifaaGreatDoor
open Go Go.RowKit Go.ChangeShapes Go.WideShapes
section
variable {H : Type} {enc : TypeId × Value → H} {P : Program} {W : World} {base : Nat} {v : Value} {d : DataW H} {p : List MemPlace}
theorem arg_fields {t : TypeId} {fs : Array Field} (hs : P.underlying t = some (.struct fs)) (hone : Go.Deep.oneCellFields P fs = true) (hC : P.cellsOf t = fs.size) (o : Value.okWide P W .any base t v) (h : DataW.Trod enc P W 0 (fun _ => true) true t v d p) :
    ∃ cs : List Value, v = .agg cs.toArray ∧ cs.length = fs.size ∧ ∀ (j : Nat) (f : Field) (c : Value), fs[j]? = some f → cs[j]? = some c → ∃ n y, DataW.trod enc P W 0 (fun _ => true) true n f.type [c] = some y := by
  obtain ⟨cs, rfl, hsz⟩ := okWide_struct hs o
  obtain ⟨fuel, hf⟩ := h
  obtain ⟨xs, n, _, _, _, hlen, hg⟩ := DataW.trod_struct hs hf
  refine ⟨cs.toList, rfl, by rw [Array.length_toList, hsz, hC], fun j f c hj hc => ?_⟩
  obtain ⟨e1, e2⟩ := Go.Deep.hone_of hone j f hj
  have hx := hg j f hj
  have hone' : (((Value.agg cs).cells.toList.drop f.offset).take (P.cellsOf f.type)) = [c] := by
    rw [e1, e2]
    show (cs.toList.drop j).take 1 = [c]
    obtain ⟨hl, rfl⟩ := List.getElem?_eq_some_iff.1 hc
    rw [List.drop_eq_getElem_cons hl]
    rfl
  rw [hone'] at hx
  have hjl : j < xs.length := by
    have := (Array.getElem?_eq_some_iff.1 hj).1
    omega
  rw [List.getElem?_eq_getElem hjl] at hx
  exact ⟨n, _, hx⟩
theorem field_words {t e : TypeId} {n : Nat} {c : Value} {y : DataW H × List MemPlace} (ht : P.underlying t = some (.slice e)) (he : P.underlying e = some (.int .u32)) (hc : P.cellsOf e = 1) (h : DataW.trod enc P W 0 (fun _ => true) true n t [c] = some y) :
    ∃ (a : Option Addr) (k q : Nat) (l : List (BitVec 32)), c = .slice a k q ∧ Words32 W a k l ∧ k ≤ q ∧ (a = none → q = 0) := by
  rcases open_ints ht he hc h with ⟨hcs, _⟩ | ⟨x, l, cp, zs, hcs, _, hl, hm, hz, _, hcell, hwz⟩
  · obtain ⟨rfl, _⟩ := List.cons.inj hcs
    obtain ⟨l, hl⟩ := words_of_row (w := W) (.inl ⟨rfl, rfl, rfl, rfl⟩)
    exact ⟨_, _, _, l, rfl, hl, Nat.le_refl _, fun _ => rfl⟩
  · obtain ⟨rfl, _⟩ := List.cons.inj hcs
    obtain ⟨l, hw⟩ := words_of_row (w := W) (.inr ⟨_, rfl, hl, hm, by simpa using hz, hcell, hwz⟩)
    exact ⟨_, _, _, l, rfl, hw, hl, fun e => by cases e⟩
theorem field_int {t : TypeId} {n : Nat} {c : Value} {y : DataW H × List MemPlace} (ht : P.underlying t = some (.int .i64)) (h : DataW.trod enc P W 0 (fun _ => true) true n t [c] = some y) :
    ∃ z : Int, c = .int .i64 z ∧ (-9223372036854775808 ≤ z ∧ z < 9223372036854775808) := by
  obtain ⟨z, hcs, _, hw⟩ := DataW.trod_int ht h
  obtain ⟨rfl, _⟩ := List.cons.inj hcs
  have := bounds_i64 hw
  exact ⟨z, rfl, by omega⟩
theorem field_bytes {t e : TypeId} {n : Nat} {c : Value} {y : DataW H × List MemPlace} (ht : P.underlying t = some (.slice e)) (he : P.underlying e = some (.int .u8)) (hc : P.cellsOf e = 1) (h : DataW.trod enc P W 0 (fun _ => true) true n t [c] = some y) :
    ∃ (a : Option Addr) (k q : Nat) (l : List (BitVec 8)), c = .slice a k q ∧ Bytes8 W a k l ∧ k ≤ q ∧ (a = none → q = 0) := by
  rcases open_ints ht he hc h with ⟨hcs, _⟩ | ⟨x, l, cp, zs, hcs, _, hl, hm, hz, _, hcell, hwz⟩
  · obtain ⟨rfl, _⟩ := List.cons.inj hcs
    exact ⟨_, _, _, [], rfl, bytes_none W, Nat.le_refl _, fun _ => rfl⟩
  · obtain ⟨rfl, _⟩ := List.cons.inj hcs
    obtain ⟨l, hw⟩ := bytes_of_row (w := W) (.inr ⟨_, rfl, hl, hm, by simpa using hz, hcell, hwz⟩)
    exact ⟨_, _, _, l, rfl, hw, hl, fun e => by cases e⟩
theorem field_u64 {t : TypeId} {n : Nat} {c : Value} {y : DataW H × List MemPlace} (ht : P.underlying t = some (.int .u64)) (h : DataW.trod enc P W 0 (fun _ => true) true n t [c] = some y) :
    ∃ z : BitVec 64, c = .int .u64 (nb64 z) := by
  obtain ⟨z, hcs, _, hw⟩ := DataW.trod_int ht h
  obtain ⟨rfl, _⟩ := List.cons.inj hcs
  have := bounds_u64 hw
  obtain ⟨x, rfl⟩ := u64_of_bounds this.1 (by omega)
  exact ⟨x, rfl⟩
end
end Go.Proofs.YtagjolbpmhbifaaGreatDoor

/-! a drawn region by hand: what is held is all but some blocks; stores of whole rows. Nothing of the program. -/
namespace Go.Proofs.YtagjolbpmhbifaaGreatDoor
open Go Go.RowKit
def HeldM (F : Nat → Prop) (w0 w : World) : Prop := Moved F w0 w
theorem HeldM.refl (F : Nat → Prop) (w : World) : HeldM F w w := Moved.refl F w
theorem HeldM.out {F : Nat → Prop} {w0 w : World} (h : HeldM F w0 w) : Moved F w0 w := h
theorem HeldM.of {F : Nat → Prop} {w0 w : World} (h : Moved F w0 w) : HeldM F w0 w := h
theorem heldM_grow {P : Program} {ops : Array Oper} {Q : Exit → Act → World → Prop} {md : Region.Mode} {F : Nat → Prop} {w0 w1 : World} (h : Moved F w0 w1) {fuel : Nat} {listed : Array Bool} {a : Act} {w : World} (g : wpAnyH P md ops Q (HeldM F w1) fuel listed a w) : wpAnyH P md ops Q (HeldM F w0) fuel listed a w :=
  wpAnyH_mono (fun _ k => h.trans k (fun _ e => .inl e)) g
theorem step_store_row {P : Program} {w : World} {ops : Array Oper} {o : Oper} {a : Act} {K : Act → World → Prop} {Q : Exit → Act → World → Prop} {E : Prop} (hwt : Region.wanted o (yielded ops a.tmps) = true) (ty : TypeId) (x y : Operand) (ho : o.op = .store ty x y)
    (b off : Nat) (cells : Array Value) (hx : a.eval x = .pointer (some ⟨b, off, none⟩)) (hy : a.eval y = .agg cells) (ht : w.there b off cells.size) (hi : (P.info? ty).map (·.size) = some cells.size) (h1 : cells.all (·.oneCell') = true) (hd : o.dst = none)
    (h : K a (w.setCells b off cells.toList)) : if Region.wanted o (yielded ops a.tmps) = true then Oper.wp P o a w K Q else E := by
  rw [if_pos hwt]
  exact wp_store_mid ty x y ho b off cells hx hy ht hi h1 (by rw [hd]; exact h)
theorem yieldsIf_load_agg {P : Program} {ops : Array Oper} {S : World → Prop} {op : Oper} {a : Act} (hw : Region.wanted op (yielded ops a.tmps) = true) (ty : TypeId) (x : Operand) (ho : op.op = .load ty x)
    (p v : Value) (hx : a.eval x = p) (hr : ∀ w, S w → (Instr.loadAt ty p).run P w = .ok v w) : YieldsIf P ops S op v a :=
  .inl ⟨hw, fun w hSw => by
    unfold execOp
    simp only [ho, hx, Sem.run_bind, Sem.run_pure, Result.andThen_ok, hr w hSw]⟩
theorem results_two_cells {P : Program} {fn : Func} {p q : Tmp} {ty uy : TypeId} (h : fn.results = #[.cell p ty, .cell q uy]) (tmps : Array Value) (w : World) (g k : Nat) (hp : tmps.getD p undef = .pointer (some ⟨g, 0, none⟩)) (hq : tmps.getD q undef = .pointer (some ⟨k, 0, none⟩))
    (v u : Value) (hv : (loadVar ty ⟨g, 0, none⟩).run P w = .ok v w) (hu : (loadVar uy ⟨k, 0, none⟩).run P w = .ok u w) : (results fn tmps).run P w = .ok (.tuple #[v, u]) w := by
  rw [Array.getD_eq_getD_getElem?] at hp hq
  simp only [results, h]
  simp [hp, hq, hv, hu, asAddr]
end Go.Proofs.YtagjolbpmhbifaaGreatDoor

/-! Slices of ints: how they are read and appended to, compared. Nothing of the program's own. -/
namespace Go.Proofs.YtagjolbpmhbifaaGreatDoor
open Go Go.RowKit Go.ChangeShapes Go.WideShapes
theorem info_num : (Tryz.prog.info? 3).map (fun i => (i.zero, i.size, i.bytes)) = some (some (.int .i64 0), 1, 8) := by kernel_rfl
/-- the place i of a list of numbers -/
def cn (l : List (Int)) (i : Nat) : Int := l.getD i 0
/-! the slices -/
def nlist (l : List (Int)) : List Value := l.map fun x => .int .i64 (x)
theorem nlist_length (l : List (Int)) : (nlist l).length = l.length := by simp [nlist]
theorem nlist_at (l : List (Int)) (i : Nat) (h : i < l.length) : (nlist l)[i]? = some (.int .i64 ((cn l i))) := by
  rw [nlist, List.getElem?_map, cn, List.getD_eq_getElem?_getD, List.getElem?_eq_getElem h]; rfl
theorem nlist_one (l : List (Int)) : ∀ v ∈ nlist l, v.oneCell' = true := by
  intro v hv
  rw [nlist, List.mem_map] at hv
  obtain ⟨x, _, rfl⟩ := hv
  rfl
theorem nlist_app (l m : List (Int)) : nlist (l ++ m) = nlist l ++ nlist m := by simp [nlist]
/-- a slice of numbers: its elements l, readable where there are any -/
def Nums (w : World) (a : Option Addr) (n : Nat) (l : List (Int)) : Prop :=
  l.length = n ∧ n ≤ maxLen ∧ ∀ i, i < n → ∃ x, a = some x ∧ w.cell? (x.add i) = some (.int .i64 ((cn l i)))
theorem Nums.keep {w w' : World} {a : Option Addr} {n : Nat} {l : List (Int)} (h : Nums w a n l) (hk : ∀ p : Addr, (w.cell? p).isSome = true → w'.cell? p = w.cell? p) : Nums w' a n l := by
  refine ⟨h.1, h.2.1, fun i hi => ?_⟩
  obtain ⟨x, rfl, hx⟩ := h.2.2 i hi
  exact ⟨x, rfl, by rw [hk _ (by rw [hx]; rfl)]; exact hx⟩
theorem Nums.below {w w' : World} {a : Option Addr} {n : Nat} {l : List (Int)} (h : Nums w a n l) (hb : Below w.heap.size w w') : Nums w' a n l :=
  h.keep fun _ hp => hb.cell (isSome_lt hp)
theorem Nums.past {w : World} {a : Option Addr} {n : Nat} {l : List (Int)} (h : Nums w a n l) (o : Obj) : Nums (w.alloc o) a n l := h.keep fun p hp => World.cell?_alloc_lt w o p (isSome_lt hp)
theorem Nums.draw {w : World} {a : Option Addr} {n : Nat} {l : List (Int)} (h : Nums w a n l) : Nums w.drew a n l := h
theorem Nums.draws {w : World} {a : Option Addr} {n : Nat} {l : List (Int)} (h : Nums w a n l) (m : Nat) : Nums (w.drewN m) a n l := h
theorem nums_none (w : World) : Nums w none 0 [] := ⟨rfl, by unfold maxLen; omega, fun i hi => by omega⟩
/-- v is the call's own slice of numbers, made since block B; l: its elements -/
def OwnN (T : TypeId) (B : Nat) (w : World) (v : Value) (l : List (Int)) : Prop := w.ownsRow B T 1 v l.length (nlist l)
section
variable {T : TypeId} {B : Nat} {w w' : World} {v : Value} {l : List (Int)}
theorem OwnN.nil (T : TypeId) (B : Nat) (w : World) : OwnN T B w (.slice none 0 0) [] := World.ownsRow_nil _ _ _ _
theorem OwnN.all {m : List (Int)} {k : Nat} (hk : m.length = k) (h : w'.ownsRow B T 1 v (l.length + k) (nlist l ++ nlist m)) : OwnN T B w' v (l ++ m) := by
  subst hk
  unfold OwnN
  rw [nlist_app]
  simpa using h
theorem OwnN.lt (h : OwnN T B w v l) : ∀ k, v.ownBlock = some k → B ≤ k := fun k hk => (World.ownsRow.lt h k hk).1
theorem OwnN.below (h : OwnN T B w v l) (hb : Below w.heap.size w w') : OwnN T B w' v l := by
  refine ⟨h.1, ?_⟩
  rcases h.2 with hn | ⟨G, cap, cur, rfl, h1, h2, rest⟩
  · exact .inl hn
  · exact .inr ⟨G, cap, cur, rfl, h1, (hb.block _ (Array.getElem?_eq_some_iff.1 h2).1).trans h2, rest⟩
theorem OwnN.low {B' : Nat} (h : OwnN T B w v l) (hB : B' ≤ B) : OwnN T B' w v l := by
  refine ⟨h.1, ?_⟩
  rcases h.2 with hn | ⟨G, cap, cur, rfl, h1, h2⟩
  · exact .inl hn
  · exact .inr ⟨G, cap, cur, rfl, by omega, h2⟩
theorem OwnN.draws (h : OwnN T B w v l) (n : Nat) : OwnN T B (w.drewN n) v l := h
/-- to read it -/
theorem OwnN.shape {K : Nat} (h : OwnN T B w v l) (hK : l.length = K) : ∃ a c, v = .slice a K c ∧ K ≤ c ∧ (a = none → c = 0) ∧ Nums w a K l := by
  subst hK
  obtain ⟨hl, ⟨rfl, h0⟩ | ⟨g, cap, cur, rfl, hg, hh, hn, hm, hc, ht⟩⟩ := h
  · obtain rfl := List.length_eq_zero_iff.1 h0
    exact ⟨none, 0, rfl, Nat.le_refl _, fun _ => rfl, nums_none w⟩
  · refine ⟨_, cap, rfl, hn, (fun e => by cases e), rfl, by omega, fun i hi => ⟨_, rfl, ?_⟩⟩
    rw [Addr.add_mid, Nat.zero_add, (show Has w g T cur from hh).cell i, ← nlist_at l i hi, ← ht, List.getElem?_take, if_pos (by omega), Array.getElem?_toList]
end
theorem below_own_rown {w0 w w' : World} {row : Option Nat} (hb : Below w0.heap.size w0 w) (hg : w.grownBy w' row) (hr : ∀ k, row = some k → w0.heap.size ≤ k) : Below w0.heap.size w0 w' := hb.grown hg hb.size hr
/-- the empty slice as a literal -/
theorem OwnN.empty {T : TypeId} {B : Nat} {w1 : World} {g : Nat} (hB : B ≤ g) (hh : Has w1 g T #[]) : OwnN T B w1 (.slice (some ⟨g, 0, none⟩) 0 0) [] :=
  ⟨rfl, .inr ⟨g, 0, #[], rfl, hB, hh, Nat.le_refl _, by unfold maxLen; omega, rfl, rfl⟩⟩
/-- append(own, a...), a whatever -/
theorem wpList_append_nums {P : Program} {w : World} {ops : Array Oper} {rest : List Oper} {o : Oper} {a : Act} {Q : Exit → Act → World → Prop} (hgd : o.guard = none) (s x : Operand) (t : TypeId)
    (ho : o.op = .call { callee := .builtin .append, args := #[s, x], argTypes := #[t, t] })
    (T : TypeId) (ht : P.underlying t = some (.slice T)) (hinfo : (P.info? T).map (fun i => (i.zero, i.size, i.bytes)) = some (some (.int .i64 0), 1, 8))
    (B : Nat) (v : Value) (l : List (Int)) (hs : a.eval s = v) (hown : OwnN T B w v l) (ad : Option Addr) (m c : Nat) (l2 : List (Int)) (hx : a.eval x = .slice ad m c) (hw : Nums w ad m l2) (hc : ad = none → c = 0)
    (h63 : l.length + m ≤ 1099511627776) (hbase : B ≤ w.heap.size)
    (h : ∀ v' w', OwnN T B w' v' (l ++ l2) → w.grownBy w' v.ownBlock → wpList P ops Q rest (a.put o.dst v') w') : wpList P ops Q (o :: rest) a w := by
  obtain ⟨i0, hi, hz0, hz1, hz2⟩ := info_parts hinfo
  obtain ⟨hl2, hm, hcell⟩ := hw
  rcases ad with _ | ad
  · have h0 : m = 0 := by
      rcases Nat.eq_zero_or_pos m with h0 | h0
      · exact h0
      · obtain ⟨_, e, _⟩ := hcell 0 h0
        cases e
    subst h0
    obtain rfl := List.length_eq_zero_iff.1 hl2
    obtain rfl := hc rfl
    exact wpList_append_own_none hgd s x t ho B T i0 1 ht hi v _ _ hs hown hx (h v w (by simpa using hown) (World.grownBy.refl w _))
  · refine wpList_append_own w hgd s x t ho B T i0 (.int .i64 0) 1 8 ht hi hz0 hz1 hz2 rfl (by decide) v _ _ hs hown ad m c (nlist l2) hx (by rw [nlist_length, hl2, Nat.mul_one]) (fun j u hj => ?_) (nlist_one _) (by unfold maxLen; omega) (by omega) hbase ?_
    · have hj2 : j < l2.length := by
        have := (List.getElem?_eq_some_iff.1 hj).1
        rwa [nlist_length] at this
      obtain ⟨ad', e, hx2⟩ := hcell j (by omega)
      injection e with e
      subst e
      rw [hx2, ← hj, nlist_at l2 j hj2]
    · intro v' w' h1 h2 _
      exact h v' w' (OwnN.all hl2 h1) h2
section
variable {H : Type} {enc : TypeId × Value → H} {P : Program} {W : World} {base : Nat} {v : Value} {d : DataW H} {p : List MemPlace}
theorem arg_nums {t e : TypeId} (ht : P.underlying t = some (.slice e)) (he : P.underlying e = some (.int .i64)) (hc : P.cellsOf e = 1) (o : Value.okWide P W .any base t v) (h : DataW.Trod enc P W 0 (fun _ => true) true t v d p) :
    ∃ (a : Option Addr) (n c : Nat) (l : List Int), v = .slice a n c ∧ Nums W a n l ∧ n ≤ c ∧ (a = none → c = 0) := by
  obtain ⟨a, n, c, rfl⟩ := okWide_slice ht o
  obtain ⟨fuel, hf⟩ := h
  refine ⟨a, n, c, ?_⟩
  rcases open_ints ht he hc hf with ⟨hcs, _⟩ | ⟨x, l, cp, zs, hcs, _, hl, hm, hz, _, hcell, hwz⟩
  · simp [Value.cells] at hcs
    obtain ⟨rfl, rfl, rfl⟩ := hcs
    exact ⟨[], rfl, nums_none W, Nat.le_refl _, fun _ => rfl⟩
  · simp [Value.cells] at hcs
    obtain ⟨rfl, rfl, rfl⟩ := hcs
    have hz' : zs.length = c := by simpa using hz
    refine ⟨zs.take n, rfl, ⟨by simp; omega, by omega, fun i hi => ⟨_, rfl, ?_⟩⟩, hl, fun e => by cases e⟩
    rw [hcell i (by omega)]
    congr 2
    unfold cn
    rw [List.getD_eq_getElem?_getD, List.getD_eq_getElem?_getD, List.getElem?_take, if_pos hi]
end
theorem getDi_ext {la lb : List (Int)} (h : la.length = lb.length) (he : ∀ i, i < la.length → la.getD i 0 = lb.getD i 0) : la = lb := by
  apply List.ext_getElem h
  intro i h1 h2
  have := he i h1
  rwa [List.getD_eq_getElem?_getD, List.getD_eq_getElem?_getD, List.getElem?_eq_getElem h1, List.getElem?_eq_getElem h2] at this
end Go.Proofs.YtagjolbpmhbifaaGreatDoor

/-! errors as numbers: gossamernum's Num and Is -/
namespace Go.Proofs.YtagjolbpmhbifaaGreatDoor
open Go Go.RowKit
/-- an error of package api, by its number -/
abbrev erro (z : Int) : Value := .iface 68 (.int .i64 z)
/-- none at 0 -/
def errn (z : Int) : Value := if z = 0 then .nilIface else erro z
theorem num_nil (w : World) : Calls Tryz.prog 19 #[.nilIface] w fun e w' => e = .returned (.int .i64 0) ∧ w = w' := by
  go_enter Tryz.func19, Tryz.ntmps19
  go_wp2
  go_ret
  exact ⟨rfl, rfl⟩
theorem num_err (z : Int) (hz : (z != 0) = true) (w : World) : Calls Tryz.prog 19 #[erro z] w fun e w' => e = .returned (.int .i64 z) ∧ w = w' := by
  have hta : ∀ w : World, (Instr.typeAssert (.iface 68 (.int .i64 z)) 43 68 true).run Tryz.prog w = .ok (.tuple #[.int .i64 z, .bool true]) w := fun w => by kernel_rfl
  go_enter Tryz.func19, Tryz.ntmps19
  go_wp2
  go_ret
  exact ⟨rfl, rfl⟩
theorem num_any (z : Int) (w : World) : Calls Tryz.prog 19 #[errn z] w fun e w' => e = .returned (.int .i64 z) ∧ w = w' := by
  unfold errn
  split
  · rename_i h
    subst h
    exact num_nil w
  · rename_i h
    exact num_err z (by simp [h]) w
theorem is_erro (z : Int) (hz : (z != 0) = true) (w : World) : Calls Tryz.prog 22 #[erro z, .int .i64 z] w fun e w' => e = .returned (.bool true) ∧ w = w' := by
  go_enter Tryz.func22, Tryz.ntmps22
  go_wp2_with (first | (go_at_call 19; refine (num_err z hz _).mono ?_; rintro e w1 ⟨rfl, rfl⟩))
  go_ret
  exact ⟨rfl, rfl⟩
end Go.Proofs.YtagjolbpmhbifaaGreatDoor

/-! append(own, make([]byte, m)...): zeros behind a slice of bytes that the call has made. Nothing of the program. -/
namespace Go.Proofs.YtagjolbpmhbifaaGreatDoor
open Go Go.RowKit Go.ChangeShapes Go.WideShapes
theorem zero_bytes (m : Nat) : Builtin.zeroCells #[.int .u8 0] m = (blist (List.replicate m 0#8)).toArray := by
  apply Array.ext'
  apply List.ext_getElem?
  intro j
  by_cases hj : j < m
  · simp [Builtin.zeroCells, blist, hj, Nat.mod_one, nb8]
  · simp [Builtin.zeroCells, blist, hj]
theorem run_append_zeros {P : Program} (w : World) (t tn ty e : TypeId) (i : TypeInfo) (k kn : IntKind) (ht : P.underlying t = some (.slice e)) (htn : P.underlying tn = some (.int kn)) (hi : P.info? e = some i) (hz : i.zero = some (.int .u8 0)) (hs : i.size = 1) (hb : i.bytes = 1)
    (B g n cap : Nat) (l : List (BitVec 8)) (hown : OwnB e B w (.slice (some ⟨g, 0, none⟩) n cap) l) (m : Nat) (h0 : 0 < m) (hbase : B ≤ w.heap.size) (h63 : l.length + m ≤ 1099511627776) :
    ∃ v' w', (Builtin.append_ #[t, tn] ty #[.slice (some ⟨g, 0, none⟩) n cap, .int k (m : Int)]).run P w = .ok v' w' ∧ OwnB e B w' v' (l ++ List.replicate m 0#8) ∧ w.grownBy w' (some g) := by
  obtain ⟨hxl, ⟨e1, _⟩ | ⟨g', cap', cur, e1, hbg, hg, hnc, hcm, hcs, htake⟩⟩ := hown
  · cases e1
  · injection e1 with e1 e2 e3
    injection e1 with e1
    injection e1 with e1
    subst e1 e3
    subst e2
    rw [Nat.mul_one] at hcs htake
    have hn : m ≠ 0 := by omega
    have hw : IntKind.i64.wrap (m : Int) = m := by rw [IntKind.wrap_i64]; omega
    have hneg : ¬ ((m : Int) < 0) := by omega
    have h48i : ¬ (281474976710656 < (m : Int)) := by omega
    have hzc : Builtin.zeroCells (Value.int .u8 0).cells m = (blist (List.replicate m 0#8)).toArray := zero_bytes m
    have hlr : (blist (List.replicate m 0#8)).length = m := by rw [blist_length, List.length_replicate]
    have hall : blist (l ++ List.replicate m 0#8) = blist l ++ blist (List.replicate m 0#8) := blist_app _ _
    have hlen : (blist (l ++ List.replicate m 0#8)).length = (l ++ List.replicate m 0#8).length * 1 := by rw [blist_length, Nat.mul_one]
    have hll : (l ++ List.replicate m 0#8).length = l.length + m := by simp
    by_cases hroom : l.length + m ≤ cap
    · have hfit : l.length + 0 + (blist (List.replicate m 0#8)).length ≤ cur.size := by omega
      have hst := run_storeCells_at P g l.length e (blist (List.replicate m 0#8)) 0 cur w hg hfit (blist_one _)
      rw [Nat.add_zero] at hst
      refine ⟨.slice (some ⟨g, 0, none⟩) (l.length + m) cap, w.setRow g (cur.toList.take l.length ++ blist (List.replicate m 0#8) ++ cur.toList.drop (l.length + (blist (List.replicate m 0#8)).length)).toArray, ?_, ⟨hlen, .inr ⟨g, cap, _, by rw [hll], hbg, setRow_heap w g cur _ e _ hg, by rw [hll]; exact hroom, hcm, ?_, ?_⟩⟩, ⟨rfl, rfl, rfl, by simp, fun k _ hk => setRow_other w g k _ (fun e => hk (by rw [e]))⟩⟩
      · simp [Builtin.append_, run_underlying ht, run_underlying htn, sizeOf, typeInfo, zeroValue, hi, hz, hs, hb, asInt, asIntOf, hw, hn, hneg, h48i, hroom, hzc, Addr.add_lit, hst]
      · simp only [List.size_toArray, List.length_append, List.length_take, List.length_drop, Array.length_toList, Nat.mul_one]
        omega
      · rw [Nat.mul_one, hll, hall, htake]
        rw [← show (blist l ++ blist (List.replicate m 0#8)).length = l.length + m by rw [List.length_append, blist_length, hlr]]
        exact List.take_left
    · have hn' : ¬ (l.length + m ≤ cap) := hroom
      have h63' : ¬ (9223372036854775807 < ((l.length : Int) + (m : Int))) := by omega
      have h48' : ¬ (281474976710656 < Builtin.nextslicecap (l.length + m) cap) := by
        have := growslice_fits (bytes := 1) (show cap < l.length + m by omega) (by omega)
        omega
      have holds : ∀ j u, (blist l)[j]? = some u → w.drew.cell? ((⟨g, 0, none⟩ : Addr).add j) = some u := fun j u hu =>
        World.ownsRow.cells (w := w) (base := B) (e := e) (size := 1) (v := .slice (some ⟨g, 0, none⟩) l.length cap) (n := l.length) ⟨hxl, .inr ⟨g, cap, cur, rfl, hbg, hg, hnc, hcm, by rw [Nat.mul_one]; exact hcs, by rw [Nat.mul_one]; exact htake⟩⟩ rfl j u hu
      have hfo := run_firstCells_some (P := P) w.drew 1 l.length ⟨g, 0, none⟩ l.length cap (blist l) (by rw [blist_length, Nat.mul_one]) holds
      have hge := grownCap_ge w (l.length + m) cap e
      have hcm' : grownCap w (l.length + m) cap e ≤ maxLen := grownCap_le_maxLen w (l.length + m) cap e (by unfold maxLen; omega)
      refine ⟨.slice (some ⟨w.heap.size, 0, none⟩) (l.length + m) (grownCap w (l.length + m) cap e), w.drew.alloc (.cells ((blist l).toArray ++ (blist (List.replicate m 0#8)).toArray ++ Builtin.zeroCells (Value.int .u8 0).cells (grownCap w (l.length + m) cap e - (l.length + m))) e), ?_, ⟨hlen, .inr ⟨w.heap.size, _, _, by rw [hll], hbase, heap_alloc_new w.drew _, by rw [hll]; exact hge, hcm', ?_, ?_⟩⟩, ⟨rfl, rfl, rfl, by simp, fun k hk _ => Below.heap_alloc w.drew _ k hk⟩⟩
      · simp [Builtin.append_, run_underlying ht, run_underlying htn, sizeOf, typeInfo, zeroValue, hi, hz, hs, hb, asInt, asIntOf, hw, hn, hneg, h48i, hn', h63', h48', hzc, Question.forced, hfo, newRow, grownCap]
        congr 2
        apply Array.ext'
        simp [List.append_assoc]
      · simp only [Array.size_append, List.size_toArray, size_zeroCells, blist_length, List.length_replicate, Nat.mul_one]
        show l.length + m + (grownCap w (l.length + m) cap e - (l.length + m)) * 1 = _
        omega
      · simp only [Array.toList_append, List.append_assoc]
        rw [Nat.mul_one, hll, hall, ← List.append_assoc]
        rw [← show (blist l ++ blist (List.replicate m 0#8)).length = l.length + m by rw [List.length_append, blist_length, hlr]]
        exact List.take_left
/-- append(own, a...) and append(own, make([]byte, m)...), as steps of a region that draws its order -/
theorem step_append_bytes {P : Program} {w : World} {ops : Array Oper} {o : Oper} {a : Act} {K : Act → World → Prop} {Q : Exit → Act → World → Prop} {E : Prop} (hwt : Region.wanted o (yielded ops a.tmps) = true) (s x : Operand) (t : TypeId)
    (ho : o.op = .call { callee := .builtin .append, args := #[s, x], argTypes := #[t, t] })
    (T : TypeId) (ht : P.underlying t = some (.slice T)) (hinfo : (P.info? T).map (fun i => (i.zero, i.size, i.bytes)) = some (some (.int .u8 0), 1, 1))
    (B : Nat) (v : Value) (l : List (BitVec 8)) (hs : a.eval s = v) (hown : OwnB T B w v l) (ad : Option Addr) (m c : Nat) (l2 : List (BitVec 8)) (hx : a.eval x = .slice ad m c) (hw : Bytes8 w ad m l2) (hc : ad = none → c = 0)
    (h63 : l.length + m ≤ 1099511627776) (hbase : B ≤ w.heap.size)
    (h : ∀ v' w', OwnB T B w' v' (l ++ l2) → w.grownBy w' v.ownBlock → (v ≠ .slice none 0 0 → v' ≠ .slice none 0 0) → K (a.put o.dst v') w') : if Region.wanted o (yielded ops a.tmps) = true then Oper.wp P o a w K Q else E := by
  rw [if_pos hwt]
  obtain ⟨i0, hi, hz0, hz1, hz2⟩ := info_parts hinfo
  obtain ⟨hl2, hm, hcell⟩ := hw
  rcases ad with _ | ad
  · have h0 : m = 0 := by
      rcases Nat.eq_zero_or_pos m with h0 | h0
      · exact h0
      · obtain ⟨_, e, _⟩ := hcell 0 h0
        cases e
    subst h0
    obtain rfl := List.length_eq_zero_iff.1 hl2
    obtain rfl := hc rfl
    have hrun := run_append_owned_none (P := P) (w := w) B t o.type T i0 1 ht hi v _ _ hown
    unfold Oper.wp
    simp [execOp, ho, resolve, invoke, builtin, hs, hx, hrun, Result.andThen]
    exact h v w (by simpa using hown) (World.grownBy.refl w _) id
  · refine wp_append_own w s x t ho B T i0 (.int .u8 0) 1 1 ht hi hz0 hz1 hz2 rfl (by decide) v _ _ hs hown ad m c (blist l2) hx (by rw [blist_length, hl2, Nat.mul_one]) (fun j u hj => ?_) (blist_one _) (by unfold maxLen; omega) (by omega) hbase ?_
    · have hj2 : j < l2.length := by
        have := (List.getElem?_eq_some_iff.1 hj).1
        rwa [blist_length] at this
      obtain ⟨ad', e, hx2⟩ := hcell j (by omega)
      injection e with e
      subst e
      rw [hx2, ← hj, blist_at l2 j hj2]
    · intro v' w' h1 h2 h3
      exact h v' w' (OwnB.all hl2 h1) h2 (fun g e => g (h3.1 e).1)
theorem step_append_zeros {P : Program} {w : World} {ops : Array Oper} {o : Oper} {a : Act} {K : Act → World → Prop} {Q : Exit → Act → World → Prop} {E : Prop} (hwt : Region.wanted o (yielded ops a.tmps) = true) (s x : Operand) (t tn : TypeId)
    (ho : o.op = .call { callee := .builtin .append, args := #[s, x], argTypes := #[t, tn] })
    (T : TypeId) (k kn : IntKind) (ht : P.underlying t = some (.slice T)) (htn : P.underlying tn = some (.int kn)) (hinfo : (P.info? T).map (fun i => (i.zero, i.size, i.bytes)) = some (some (.int .u8 0), 1, 1))
    (B g n cap : Nat) (l : List (BitVec 8)) (hs : a.eval s = .slice (some ⟨g, 0, none⟩) n cap) (hown : OwnB T B w (.slice (some ⟨g, 0, none⟩) n cap) l) (m : Nat) (h0 : 0 < m) (hx : a.eval x = .int k (m : Int))
    (h63 : l.length + m ≤ 1099511627776) (hbase : B ≤ w.heap.size)
    (h : ∀ v' w', OwnB T B w' v' (l ++ List.replicate m 0#8) → w.grownBy w' (some g) → K (a.put o.dst v') w') : if Region.wanted o (yielded ops a.tmps) = true then Oper.wp P o a w K Q else E := by
  rw [if_pos hwt]
  obtain ⟨i0, hi, hz0, hz1, hz2⟩ := info_parts hinfo
  obtain ⟨v', w', hr, h1, h2⟩ := run_append_zeros (P := P) w t tn o.type T i0 k kn ht htn hi hz0 hz1 hz2 B g n cap l hown m h0 hbase h63
  exact Go.Lib.wp_append_run w s x t tn ho _ _ hs hx v' w' hr (h v' w' h1 h2)
/-- a slice of the call's own that isn't nil stays so -/
theorem OwnB.some {T : TypeId} {B K : Nat} {w : World} {v : Value} {l : List (BitVec 8)} (h : OwnB T B w v l) (hK : l.length = K) (h0 : v ≠ .slice none 0 0) : ∃ g c, v = .slice (some ⟨g, 0, none⟩) K c ∧ K ≤ c ∧ Bytes8 w (some ⟨g, 0, none⟩) K l := by
  obtain ⟨a, c, rfl, h1, _, h2⟩ := h.shape hK
  obtain ⟨_, ⟨e, _⟩ | ⟨g, cap, cur, e, _⟩⟩ := h
  · exact absurd e h0
  · injection e with e1 e2 e3
    subst e1
    exact ⟨g, c, rfl, h1, h2⟩
end Go.Proofs.YtagjolbpmhbifaaGreatDoor

/-! Slices of digests that are the call's own: what they hold, appended to; loads in a drawn region -/
namespace Go.Proofs.YtagjolbpmhbifaaGreatDoor
open Go Go.RowKit
set_option maxRecDepth 100000
/-- the cells of a list of digests -/
def hrow (L : List (List (BitVec 8))) : List Value := L.flatMap blist
theorem hrow_app (L M : List (List (BitVec 8))) : hrow (L ++ M) = hrow L ++ hrow M := List.flatMap_append
theorem hrow_len : ∀ {L : List (List (BitVec 8))}, (∀ l, l ∈ L → l.length = 32) → (hrow L).length = L.length * 32
  | [], _ => rfl
  | a :: r, h => by
    show (blist a ++ hrow r).length = _
    rw [List.length_append, blist_length, h a (by simp), hrow_len (L := r) (fun l hl => h l (by simp [hl])), List.length_cons]
    omega
theorem hrow_at : ∀ {L : List (List (BitVec 8))} (_ : ∀ l, l ∈ L → l.length = 32) (i j : Nat), i < L.length → j < 32 → (hrow L)[i * 32 + j]? = some (.int .u8 (nb8 (cb (L.getD i []) j)))
  | [], _, _, _, hi, _ => absurd hi (Nat.not_lt_zero _)
  | a :: r, h, i, j, hi, hj => by
    have ha := h a (by simp)
    show (blist a ++ hrow r)[i * 32 + j]? = _
    rcases i with _ | i
    · rw [List.getElem?_append_left (by rw [blist_length, ha]; omega), Nat.zero_mul, Nat.zero_add, blist_at a j (by omega)]
      rfl
    · rw [List.getElem?_append_right (by rw [blist_length, ha]; omega), blist_length, ha, show (i + 1) * 32 + j - 32 = i * 32 + j by omega]
      simp only [List.length_cons] at hi
      rw [hrow_at (L := r) (fun l hl => h l (by simp [hl])) i j (by omega) hj]
      rfl
theorem hrow_one (L : List (List (BitVec 8))) : ∀ v ∈ hrow L, v.oneCell' = true := by
  intro v hv
  obtain ⟨l, _, hl⟩ := List.mem_flatMap.1 hv
  exact blist_one l v hl
/-- v is the call's own slice of digests, made since block B; L: its elements -/
def OwnH (T : TypeId) (B : Nat) (w : World) (v : Value) (L : List (List (BitVec 8))) : Prop := (∀ l, l ∈ L → l.length = 32) ∧ w.ownsRow B T 32 v L.length (hrow L)
section
variable {T : TypeId} {B : Nat} {w w' : World} {v : Value} {L : List (List (BitVec 8))}
theorem OwnH.nil (T : TypeId) (B : Nat) (w : World) : OwnH T B w (.slice none 0 0) [] := ⟨(fun _ h => by cases h), World.ownsRow_nil _ _ _ _⟩
theorem OwnH.empty {w1 : World} {g : Nat} (hB : B ≤ g) (hh : Has w1 g T #[]) : OwnH T B w1 (.slice (some ⟨g, 0, none⟩) 0 0) [] :=
  ⟨(fun _ h => by cases h), rfl, .inr ⟨g, 0, #[], rfl, hB, hh, Nat.le_refl _, by unfold maxLen; omega, rfl, rfl⟩⟩
theorem OwnH.all {M : List (List (BitVec 8))} {k : Nat} (hL : ∀ l, l ∈ L → l.length = 32) (hM : ∀ l, l ∈ M → l.length = 32) (hk : M.length = k) (h : w'.ownsRow B T 32 v (L.length + k) (hrow L ++ hrow M)) : OwnH T B w' v (L ++ M) := by
  subst hk
  refine ⟨fun l hl => (List.mem_append.1 hl).elim (hL l) (hM l), ?_⟩
  rw [hrow_app]
  simpa using h
theorem OwnH.lt (h : OwnH T B w v L) : ∀ k, v.ownBlock = some k → B ≤ k := fun k hk => (World.ownsRow.lt h.2 k hk).1
theorem OwnH.below (h : OwnH T B w v L) (hb : Below w.heap.size w w') : OwnH T B w' v L := by
  refine ⟨h.1, h.2.1, ?_⟩
  rcases h.2.2 with hn | ⟨G, cap, cur, rfl, h1, h2, rest⟩
  · exact .inl hn
  · exact .inr ⟨G, cap, cur, rfl, h1, (hb.block _ (Array.getElem?_eq_some_iff.1 h2).1).trans h2, rest⟩
theorem OwnH.low {B' : Nat} (h : OwnH T B w v L) (hB : B' ≤ B) : OwnH T B' w v L := by
  refine ⟨h.1, h.2.1, ?_⟩
  rcases h.2.2 with hn | ⟨G, cap, cur, rfl, h1, h2⟩
  · exact .inl hn
  · exact .inr ⟨G, cap, cur, rfl, by omega, h2⟩
theorem OwnH.draws (h : OwnH T B w v L) (n : Nat) : OwnH T B (w.drewN n) v L := h
theorem rows_none (w : World) : Rows8 32 w none 0 [] := ⟨rfl, by unfold maxLen; omega, (fun _ h => by cases h), fun i hi => by omega⟩
/-- to read it -/
theorem OwnH.shape {K : Nat} (h : OwnH T B w v L) (hK : L.length = K) : ∃ a c, v = .slice a K c ∧ K ≤ c ∧ (a = none → c = 0) ∧ Rows8 32 w a K L := by
  subst hK
  obtain ⟨hall, hl, ⟨rfl, h0⟩ | ⟨g, cap, cur, rfl, hg, hh, hn, hm, hc, ht⟩⟩ := h
  · obtain rfl := List.length_eq_zero_iff.1 h0
    exact ⟨none, 0, rfl, Nat.le_refl _, fun _ => rfl, rows_none w⟩
  · refine ⟨_, cap, rfl, hn, (fun e => by cases e), rfl, by omega, hall, fun i hi => ⟨_, rfl, fun j hj => ?_⟩⟩
    rw [Addr.add_mid, Nat.zero_add, (show Has w g T cur from hh).cell (i * 32 + j), ← hrow_at hall i j hi hj, ← ht, List.getElem?_take, if_pos (by omega), Array.getElem?_toList]
end
theorem below_own_rowh {w0 w w' : World} {row : Option Nat} (hb : Below w0.heap.size w0 w) (hg : w.grownBy w' row) (hr : ∀ k, row = some k → w0.heap.size ≤ k) : Below w0.heap.size w0 w' := hb.grown hg hb.size hr
theorem z32_size : (Value.agg z32).cells.size = 32 := by rfl
theorem info_hash : (Tryz.prog.info? 30).map (fun i => (i.zero, i.size, i.bytes)) = some (some (.agg z32), 32, 32) := by kernel_rfl
/-- append(own, h), its literal behind: as a step of a region that draws -/
theorem step_append_hash {w : World} {ops : Array Oper} {o : Oper} {a : Act} {K : Act → World → Prop} {Q : Exit → Act → World → Prop} {E : Prop} (hwt : Region.wanted o (yielded ops a.tmps) = true) (s x : Operand) (t : TypeId)
    (ho : o.op = .call { callee := .builtin .append, args := #[s, x], argTypes := #[t, t] })
    (T : TypeId) (ht : Tryz.prog.underlying t = some (.slice T)) (hinfo : (Tryz.prog.info? T).map (fun i => (i.zero, i.size, i.bytes)) = some (some (.agg z32), 32, 32))
    (B : Nat) (v : Value) (L : List (List (BitVec 8))) (hs : a.eval s = v) (hown : OwnH T B w v L) (l : List (BitVec 8)) (hl : l.length = 32) (W : World) (hW : W = w.alloc (.cells (blist l).toArray T)) (hx : a.eval x = .slice (some ⟨w.heap.size, 0, none⟩) 1 1)
    (h63 : L.length + 1 ≤ 1099511627776) (hbase : B ≤ w.heap.size)
    (h : ∀ v' w', OwnH T B w' v' (L ++ [l]) → (w.alloc (.cells (blist l).toArray T)).grownBy w' v.ownBlock → K (a.put o.dst v') w') : if Region.wanted o (yielded ops a.tmps) = true then Oper.wp Tryz.prog o a W K Q else E := by
  subst hW
  rw [if_pos hwt]
  obtain ⟨i0, hi, hz0, hz1, hz2⟩ := info_parts hinfo
  refine wp_append_own (w.alloc (.cells (blist l).toArray T)) s x t ho B T i0 (.agg z32) 32 32 ht hi hz0 hz1 hz2 z32_size (by decide) v _ _ hs (World.ownsRow.alloc hown.2 _) ⟨w.heap.size, 0, none⟩ 1 1 (hrow [l]) hx (by rw [hrow_len (by simpa using hl)]; rfl) (fun j u hj => ?_) (hrow_one _) (by unfold maxLen; omega) (by omega) (by rw [World.size_alloc]; omega) ?_
  · have e : hrow [l] = blist l := by simp [hrow]
    rw [e] at hj
    rw [Addr.add_mid, Nat.zero_add, (Has.fresh w T _).cell, ← Array.getElem?_toList]
    exact hj
  · intro v' w' h1 h2 _
    exact h v' w' (OwnH.all hown.1 (by simpa using hl) rfl h1) h2
/-- append(own, rows...) -/
theorem step_append_rows {w : World} {ops : Array Oper} {o : Oper} {a : Act} {K : Act → World → Prop} {Q : Exit → Act → World → Prop} {E : Prop} (hwt : Region.wanted o (yielded ops a.tmps) = true) (s x : Operand) (t : TypeId)
    (ho : o.op = .call { callee := .builtin .append, args := #[s, x], argTypes := #[t, t] })
    (T : TypeId) (ht : Tryz.prog.underlying t = some (.slice T)) (hinfo : (Tryz.prog.info? T).map (fun i => (i.zero, i.size, i.bytes)) = some (some (.agg z32), 32, 32))
    (B : Nat) (v : Value) (L : List (List (BitVec 8))) (hs : a.eval s = v) (hown : OwnH T B w v L) (ad : Option Addr) (m c : Nat) (M : List (List (BitVec 8))) (hx : a.eval x = .slice ad m c) (hw : Rows8 32 w ad m M) (hc : ad = none → c = 0)
    (h63 : L.length + m ≤ 1099511627776) (hbase : B ≤ w.heap.size)
    (h : ∀ v' w', OwnH T B w' v' (L ++ M) → w.grownBy w' v.ownBlock → K (a.put o.dst v') w') : if Region.wanted o (yielded ops a.tmps) = true then Oper.wp Tryz.prog o a w K Q else E := by
  rw [if_pos hwt]
  obtain ⟨i0, hi, hz0, hz1, hz2⟩ := info_parts hinfo
  obtain ⟨hM, hm, hall, hcell⟩ := hw
  rcases ad with _ | ad
  · have h0 : m = 0 := by
      rcases Nat.eq_zero_or_pos m with h0 | h0
      · exact h0
      · obtain ⟨_, e, _⟩ := hcell 0 h0
        cases e
    subst h0
    obtain rfl := List.length_eq_zero_iff.1 hM
    obtain rfl := hc rfl
    have hrun := run_append_owned_none (P := Tryz.prog) (w := w) B t o.type T i0 32 ht hi v _ _ hown.2
    unfold Oper.wp
    simp [execOp, ho, resolve, invoke, builtin, hs, hx, hrun, Result.andThen]
    exact h v w (by simpa using hown) (World.grownBy.refl w _)
  · refine wp_append_own w s x t ho B T i0 (.agg z32) 32 32 ht hi hz0 hz1 hz2 z32_size (by decide) v _ _ hs hown.2 ad m c (hrow M) hx (by rw [hrow_len hall, hM]) (fun j u hj => ?_) (hrow_one _) (by unfold maxLen; omega) (by omega) hbase ?_
    · have hj2 : j < M.length * 32 := by
        have := (List.getElem?_eq_some_iff.1 hj).1
        rwa [hrow_len hall] at this
      obtain ⟨ad', e, hx2⟩ := hcell (j / 32) (by omega)
      injection e with e
      subst e
      have e2 : j / 32 * 32 + j % 32 = j := by omega
      have h3 := hx2 (j % 32) (by omega)
      rw [e2] at h3
      rw [h3, ← hj, ← hrow_at hall (j / 32) (j % 32) (by omega) (by omega), e2]
    · intro v' w' h1 h2 _
      exact h v' w' (OwnH.all hown.1 hall hM h1) h2
/-- the same in a region in its order -/
theorem wpList_append_rows {w : World} {ops : Array Oper} {rest : List Oper} {o : Oper} {a : Act} {Q : Exit → Act → World → Prop} (hgd : o.guard = none) (s x : Operand) (t : TypeId)
    (ho : o.op = .call { callee := .builtin .append, args := #[s, x], argTypes := #[t, t] })
    (T : TypeId) (ht : Tryz.prog.underlying t = some (.slice T)) (hinfo : (Tryz.prog.info? T).map (fun i => (i.zero, i.size, i.bytes)) = some (some (.agg z32), 32, 32))
    (B : Nat) (v : Value) (L : List (List (BitVec 8))) (hs : a.eval s = v) (hown : OwnH T B w v L) (ad : Option Addr) (m c : Nat) (M : List (List (BitVec 8))) (hx : a.eval x = .slice ad m c) (hw : Rows8 32 w ad m M) (hc : ad = none → c = 0)
    (h63 : L.length + m ≤ 1099511627776) (hbase : B ≤ w.heap.size)
    (h : ∀ v' w', OwnH T B w' v' (L ++ M) → w.grownBy w' v.ownBlock → wpList Tryz.prog ops Q rest (a.put o.dst v') w') : wpList Tryz.prog ops Q (o :: rest) a w := by
  obtain ⟨i0, hi, hz0, hz1, hz2⟩ := info_parts hinfo
  obtain ⟨hM, hm, hall, hcell⟩ := hw
  rcases ad with _ | ad
  · have h0 : m = 0 := by
      rcases Nat.eq_zero_or_pos m with h0 | h0
      · exact h0
      · obtain ⟨_, e, _⟩ := hcell 0 h0
        cases e
    subst h0
    obtain rfl := List.length_eq_zero_iff.1 hM
    obtain rfl := hc rfl
    exact wpList_append_own_none hgd s x t ho B T i0 32 ht hi v _ _ hs hown.2 hx (h v w (by simpa using hown) (World.grownBy.refl w _))
  · refine wpList_append_own w hgd s x t ho B T i0 (.agg z32) 32 32 ht hi hz0 hz1 hz2 z32_size (by decide) v _ _ hs hown.2 ad m c (hrow M) hx (by rw [hrow_len hall, hM]) (fun j u hj => ?_) (hrow_one _) (by unfold maxLen; omega) (by omega) hbase ?_
    · have hj2 : j < M.length * 32 := by
        have := (List.getElem?_eq_some_iff.1 hj).1
        rwa [hrow_len hall] at this
      obtain ⟨ad', e, hx2⟩ := hcell (j / 32) (by omega)
      injection e with e
      subst e
      have e2 : j / 32 * 32 + j % 32 = j := by omega
      have h3 := hx2 (j % 32) (by omega)
      rw [e2] at h3
      rw [h3, ← hj, ← hrow_at hall (j / 32) (j % 32) (by omega) (by omega), e2]
    · intro v' w' h1 h2 _
      exact h v' w' (OwnH.all hown.1 hall hM h1) h2
/-! a slice literal of one digest -/
theorem zeros_hash : (Array.range (1 * 32)).map (z32[· % z32.size]!) = z32 := by kernel_rfl
theorem fill_hash (l : List (BitVec 8)) (hl : l.length = 32) : Instr.fill (fun i => some (i * 32, 32)) ((Array.range (1 * 32)).map (z32[· % z32.size]!)) [(0, .agg (blist l).toArray)] = some (blist l).toArray := by
  rw [zeros_hash]
  match l, hl with
  | [x0, x1, x2, x3, x4, x5, x6, x7, x8, x9, x10, x11, x12, x13, x14, x15, x16, x17, x18, x19, x20, x21, x22, x23, x24, x25, x26, x27, x28, x29, x30, x31], _ =>
    have hc : ∀ cs : Array Value, (Value.agg cs).cells = cs := fun _ => rfl
    simp [Instr.fill, hc, blist]
theorem run_build_hash {P : Program} {t T : TypeId} (ht : P.underlying t = some (.slice T)) (hi : (P.info? T).map (fun i => (i.zero, i.size, i.bytes)) = some (some (.agg z32), 32, 32)) (l : List (BitVec 8)) (hl : l.length = 32) (w : World) :
    (Instr.buildSlice t 1 #[(0, .agg (blist l).toArray)]).run P w = .ok (.slice (some ⟨w.heap.size, 0, none⟩) 1 1) (w.alloc (.cells (blist l).toArray T)) := by
  obtain ⟨i0, hi0, hz0, hz1, hz2⟩ := info_parts hi
  have hf := fill_hash l hl
  have hz : (Value.agg z32).cells = z32 := rfl
  simp at hf
  simp [Instr.buildSlice, Sem.run_bind, run_underlying ht, sizeOf, typeInfo, zeroValue, hi0, hz0, hz1, hz, newRow, hf]
theorem step_build_hash {P : Program} {w : World} {ops : Array Oper} {o : Oper} {a : Act} {K : Act → World → Prop} {Q : Exit → Act → World → Prop} {E : Prop} (hwt : Region.wanted o (yielded ops a.tmps) = true) (x : Operand) (t : TypeId)
    (ho : o.op = .buildSlice t 1 #[(0, x)]) (T : TypeId) (ht : P.underlying t = some (.slice T)) (hi : (P.info? T).map (fun i => (i.zero, i.size, i.bytes)) = some (some (.agg z32), 32, 32))
    (l : List (BitVec 8)) (hl : l.length = 32) (hx : a.eval x = .agg (blist l).toArray)
    (h : K (a.put o.dst (.slice (some ⟨w.heap.size, 0, none⟩) 1 1)) (w.alloc (.cells (blist l).toArray T))) : if Region.wanted o (yielded ops a.tmps) = true then Oper.wp P o a w K Q else E := by
  rw [if_pos hwt]
  have hr := run_build_hash (P := P) ht hi l hl w
  unfold Oper.wp execOp
  simp only [ho, List.map_toArray, List.map_cons, List.map_nil, hx, Sem.run_bind, Sem.run_pure, Result.andThen_ok, hr]
  exact h
/-- a load whose run is known, in a region that draws -/
theorem yieldsIf_load_run {P : Program} {ops : Array Oper} {S : World → Prop} {op : Oper} {a : Act} (hw : Region.wanted op (yielded ops a.tmps) = true) (ty : TypeId) (x : Operand) (ho : op.op = .load ty x)
    (p v : Value) (hx : a.eval x = p) (hS : ∀ w, S w → (Instr.loadAt ty p).run P w = .ok v w) : YieldsIf P ops S op v a :=
  .inl ⟨hw, fun w hw' => by
    unfold execOp
    simp only [ho, hx, Sem.run_bind, Sem.run_pure, Result.andThen_ok, hS w hw']⟩
end Go.Proofs.YtagjolbpmhbifaaGreatDoor

/-! []byte(s) of a string: the row that it answers, and an append to it. Nothing of the program. -/
namespace Go.Proofs.YtagjolbpmhbifaaGreatDoor
open Go Go.RowKit Go.ChangeShapes Go.WideShapes
/-- a row that a conversion made: marked behind its end alone -/
def ConvRow (e : TypeId) (B : Nat) (w : World) (v : Value) (l : List (BitVec 8)) : Prop :=
  ∃ g c cur, v = .slice (some ⟨g, 0, none⟩) l.length c ∧ B ≤ g ∧ w.heap[g]? = some (.cells cur e (c, c + 1)) ∧ cur.size = c ∧ l.length ≤ c ∧ c ≤ maxLen ∧ cur.toList.take l.length = blist l
section
variable {P : Program} {e : TypeId} {B : Nat} {w w' : World} {v : Value} {l : List (BitVec 8)}
theorem conv_below (w : World) (e : TypeId) (s : ByteArray) : Below w.heap.size w (Lib.bytesWorld w e s) := by
  refine ⟨?_, ?_, ?_, by rw [Lib.bytesWorld_size]; omega, fun k hk => Lib.bytesWorld_at_old w e s k hk⟩ <;> rfl
theorem conv_row (w : World) (e : TypeId) (l : List (BitVec 8)) (hl : l.length ≤ 1000000) : ConvRow e w.heap.size (Lib.bytesWorld w e (strB l)) (.slice (some ⟨w.heap.size, 0, none⟩) l.length (grownCap w l.length 0 e)) l := by
  have hge := grownCap_ge w l.length 0 e
  have hsz : (Lib.bytesCells w e (strB l)).size = grownCap w l.length 0 e := by
    simp only [Lib.bytesCells, Array.size_append, Array.size_map, Array.size_replicate]
    have h1 : (strB l).data.size = l.length := strB_size l
    rw [h1, strB_size]
    omega
  refine ⟨w.heap.size, _, Lib.bytesCells w e (strB l), rfl, Nat.le_refl _, ?_, hsz, hge, grownCap_le_maxLen w _ _ e (by unfold maxLen; omega), ?_⟩
  · have h2 := Lib.bytesWorld_at_new w e (strB l)
    rw [hsz] at h2
    exact h2
  · have h3 : (Lib.bytesCells w e (strB l)).toList = blist l ++ List.replicate (grownCap w (strB l).size 0 e - (strB l).size) (.int .u8 0) := by
      rw [← strCells_strB' l]
      simp [Lib.bytesCells, Lib.strCells]
    rw [h3, ← blist_length l]
    exact List.take_left
theorem ConvRow.below (h : ConvRow e B w v l) (hb : Below w.heap.size w w') : ConvRow e B w' v l := by
  obtain ⟨g, c, cur, h1, h2, h3, h4⟩ := h
  exact ⟨g, c, cur, h1, h2, by rw [hb.block g (Array.getElem?_eq_some_iff.1 h3).1]; exact h3, h4⟩
theorem ConvRow.low {B' : Nat} (h : ConvRow e B w v l) (hB : B' ≤ B) : ConvRow e B' w v l := by
  obtain ⟨g, c, cur, h1, h2, h3⟩ := h
  exact ⟨g, c, cur, h1, Nat.le_trans hB h2, h3⟩
theorem ConvRow.shape {K : Nat} (h : ConvRow e B w v l) (hK : l.length = K) : ∃ g c, v = .slice (some ⟨g, 0, none⟩) K c ∧ K ≤ c ∧ B ≤ g ∧ Bytes8 w (some ⟨g, 0, none⟩) K l := by
  obtain ⟨g, c, cur, rfl, hB, hg, hc, hl, hm, ht⟩ := h
  subst hK
  refine ⟨g, c, rfl, hl, hB, rfl, by omega, fun i hi => ⟨_, rfl, ?_⟩⟩
  rw [Addr.add_mid, Nat.zero_add, cell_of_row _ _ i cur e _ hg, ← Array.getElem?_toList]
  have h1 : (cur.toList.take l.length)[i]? = cur.toList[i]? := List.getElem?_take_of_lt hi
  rw [← h1, ht]
  exact blist_at l i hi
theorem storeCells_marked (P : Program) (g o : Nat) (t : TypeId) (c : Nat) : ∀ (vs : List Value) (i : Nat) (cur : Array Value) (w : World), w.heap[g]? = some (.cells cur t (c, c + 1)) → cur.size = c → o + i + vs.length ≤ c → (∀ v ∈ vs, v.oneCell' = true) →
    (storeCells ⟨g, o, none⟩ vs i).run P w = .ok () (w.setRow g (cur.toList.take (o + i) ++ vs ++ cur.toList.drop (o + i + vs.length)).toArray)
  | [], i, cur, w, hg, _, _, _ => by
    simp only [storeCells, List.append_nil, List.length_nil, Nat.add_zero, List.take_append_drop, Array.toArray_toList]
    rw [setRow_self w g cur t _ hg]
    rfl
  | v :: rest, i, cur, w, hg, hc, hl, h1 => by
    have hi : o + i < cur.size := by simp at hl; omega
    have hadd : (⟨g, o, none⟩ : Addr).add i = ⟨g, o + i, none⟩ := by unfold Addr.add; split <;> simp_all
    have hcell : w.cell? ⟨g, o + i, none⟩ = some cur[o + i] := by simp [World.cell?, hg, hi]
    have hfro : w.frozen? ⟨g, o + i, none⟩ = false := by
      simp only [World.frozen?, hg, Bool.and_eq_false_iff, decide_eq_false_iff_not]
      left
      omega
    have hst : (store ((⟨g, o, none⟩ : Addr).add i) v).run P w = .ok () (w.setRow g (cur.setIfInBounds (o + i) v)) := by
      rw [hadd, run_store P w _ v _ (h1 v (by simp)), hcell]
      simp [hfro, setCell_eq_setRow w g (o + i) cur t (c, c + 1) v hg]
    have ih := storeCells_marked P g o t c rest (i + 1) (cur.setIfInBounds (o + i) v) (w.setRow g (cur.setIfInBounds (o + i) v)) (setRow_heap w g cur _ t _ hg) (by simpa using hc) (by simp at hl ⊢; omega) (fun x hx => h1 x (by simp [hx]))
    simp only [storeCells, Sem.run_bind, hst, Result.andThen_ok, ih, setRow_setRow]
    congr 3
    have e := list_seg_step cur.toList (o + i) v rest (by simp at hl ⊢; omega)
    simpa [Array.toList_setIfInBounds, Nat.add_assoc] using e
theorem append_room_marked (t ty e : TypeId) (i : TypeInfo) (ht : P.underlying t = some (.slice e)) (hi : P.info? e = some i) (his : i.size = 1)
    (g n c : Nat) (cur : Array Value) (hg : w.heap[g]? = some (.cells cur e (c, c + 1))) (hc : cur.size = c)
    (a : Addr) (m q : Nat) (news : List Value) (hl : news.length = m) (hnews : ∀ j u, news[j]? = some u → w.cell? (a.add j) = some u) (h1 : ∀ u ∈ news, u.oneCell' = true) (hroom : n + m ≤ c) :
    (Builtin.append_ #[t, t] ty #[.slice (some ⟨g, 0, none⟩) n c, .slice (some a) m q]).run P w =
      .ok (.slice (some ⟨g, 0, none⟩) (n + m) c) (w.setRow g (cur.toList.take n ++ news ++ cur.toList.drop (n + news.length)).toArray) := by
  have hf := run_firstCells_some (P := P) w i.size m a m q news (by rw [his]; omega) hnews
  have hst := storeCells_marked P g n e c news 0 cur w hg hc (by omega) h1
  simp only [Nat.add_zero] at hst
  rw [his] at hf
  simp [Builtin.append_, run_underlying ht, sizeOf, typeInfo, hi, his, Builtin.lenOf, hroom, hf, Addr.add_lit, hst]
/-- append(conversion, bytes...): what can be read of it -/
theorem run_append_conv (t ty e : TypeId) (i : TypeInfo) (ht : P.underlying t = some (.slice e)) (hi : P.info? e = some i) (hz : i.zero = some (.int .u8 0)) (his : i.size = 1) (hib : i.bytes = 1)
    (h : ConvRow e B w v l) (hB : B ≤ w.heap.size) (ad : Addr) (m q : Nat) (M : List (BitVec 8)) (hM : Bytes8 w (some ad) m M) (hs : l.length + m ≤ 1000000) :
    ∃ x c w', (Builtin.append_ #[t, t] ty #[v, .slice (some ad) m q]).run P w = .ok (.slice (some x) (l.length + m) c) w' ∧ Bytes8 w' (some x) (l.length + m) (l ++ M) ∧ l.length + m ≤ c ∧ Below B w w' := by
  obtain ⟨g, c, cur, rfl, hBg, hg, hc, hlc, hm, htk⟩ := h
  have hMl : (blist M).length = m := by rw [blist_length]; exact hM.1
  have hnews : ∀ j u, (blist M)[j]? = some u → w.cell? (ad.add j) = some u := fun j u hj => by
    have hj2 : j < M.length := by
      have e := (List.getElem?_eq_some_iff.1 hj).1
      rwa [blist_length] at e
    obtain ⟨y, hy, hc⟩ := hM.2.2 j (by rw [← hM.1]; exact hj2)
    injection hy with hy
    subst hy
    rw [hc, ← hj, blist_at M j hj2]
  have read : ∀ (w2 : World) (g2 : Nat) (cs : Array Value) (fz : Nat × Nat), w2.heap[g2]? = some (.cells cs e fz) → (∃ r, cs.toList = blist (l ++ M) ++ r) → Bytes8 w2 (some ⟨g2, 0, none⟩) (l.length + m) (l ++ M) := fun w2 g2 cs fz h2 h3 => by
    obtain ⟨r, h3⟩ := h3
    have hlen : (l ++ M).length = l.length + m := by rw [List.length_append, hM.1]
    refine ⟨hlen, by unfold maxLen; omega, fun j hj => ⟨_, rfl, ?_⟩⟩
    rw [Addr.add_mid, Nat.zero_add, cell_of_row _ _ j cs e fz h2, ← Array.getElem?_toList, h3, List.getElem?_append_left (by rw [blist_length]; omega)]
    exact blist_at (l ++ M) j (by omega)
  by_cases hroom : l.length + m ≤ c
  · have hr := append_room_marked (P := P) t ty e i ht hi his g l.length c cur hg hc ad m q (blist M) hMl hnews (blist_one M) hroom
    refine ⟨_, c, _, hr, ?_, hroom, ⟨rfl, rfl, rfl, by simp, fun k hk => setRow_other w g k _ (by omega)⟩⟩
    refine read _ g _ _ (setRow_heap w g cur _ e _ hg) ⟨cur.toList.drop (l.length + (blist M).length), ?_⟩
    rw [htk, blist_app]
  · have holds : ∀ j u, (blist l)[j]? = some u → w.cell? ((⟨g, 0, none⟩ : Addr).add j) = some u := fun j u hj => by
      have hj2 : j < l.length := by
        have e := (List.getElem?_eq_some_iff.1 hj).1
        rwa [blist_length] at e
      rw [Addr.add_mid, Nat.zero_add, cell_of_row _ _ j cur e _ hg, ← Array.getElem?_toList]
      have h1 : (cur.toList.take l.length)[j]? = cur.toList[j]? := List.getElem?_take_of_lt hj2
      rw [← h1, htk]
      exact hj
    have hr := run_append_grow (P := P) w t ty e i (.int .u8 0) ht hi hz ⟨g, 0, none⟩ l.length c (blist l) (by rw [his, blist_length, Nat.mul_one]) holds ad m q (blist M) (by rw [his, Nat.mul_one]; exact hMl) hnews (by omega) (by omega) (growslice_fits (by omega) (by rw [hib]; omega))
    have hge := grownCap_ge w (l.length + m) c e
    refine ⟨_, _, _, hr, ?_, hge, ⟨rfl, rfl, rfl, by simp, fun k hk => heap_alloc_old w.drew _ (by show k < w.heap.size; omega)⟩⟩
    have hH : (w.drew.alloc (.cells ((blist l).toArray ++ (blist M).toArray ++ Builtin.zeroCells (Value.int .u8 0).cells (grownCap w (l.length + m) c e - (l.length + m))) e)).heap[w.heap.size]? = some (.cells ((blist l).toArray ++ (blist M).toArray ++ Builtin.zeroCells (Value.int .u8 0).cells (grownCap w (l.length + m) c e - (l.length + m))) e (0, 0)) := heap_alloc_new w.drew _
    refine read _ w.heap.size _ (0, 0) hH ⟨(Builtin.zeroCells (Value.int .u8 0).cells (grownCap w (l.length + m) c e - (l.length + m))).toList, ?_⟩
    rw [Array.toList_append, Array.toList_append, blist_app]
/-- the operations, for the walk -/
theorem wpList_convert_run {P : Program} {ops : Array Oper} {rest : List Oper} {o : Oper} {a : Act} {w w' : World} {Q : Exit → Act → World → Prop} (hgd : o.guard = none) (src dst : TypeId) (x : Operand) (ho : o.op = .convert src dst x)
    (v r : Value) (hx : a.eval x = v) (hr : (convert src dst v).run P w = .ok r w') (h : wpList P ops Q rest (a.put o.dst r) w') : wpList P ops Q (o :: rest) a w :=
  wpList_plain hgd fun K hK => by
    unfold Oper.wp execOp
    simp only [ho, hx, Sem.run_bind, Sem.run_pure, Result.andThen_ok, hr]
    exact hK _ _ h
theorem wpList_append_conv {P : Program} {ops : Array Oper} {rest : List Oper} {o : Oper} {a : Act} {w : World} {Q : Exit → Act → World → Prop} (hgd : o.guard = none) (s x : Operand) (t e : TypeId)
    (ho : o.op = .call { callee := .builtin .append, args := #[s, x], argTypes := #[t, t] }) (ht : P.underlying t = some (.slice e)) (hinfo : (P.info? e).map (fun i => (i.zero, i.size, i.bytes)) = some (some (.int .u8 0), 1, 1))
    {B : Nat} {l : List (BitVec 8)} {v : Value} (hs : a.eval s = v) (h : ConvRow e B w v l) (hB : B ≤ w.heap.size) (ad : Addr) (m q : Nat) (M : List (BitVec 8)) (hx : a.eval x = .slice (some ad) m q) (hM : Bytes8 w (some ad) m M) (hl : l.length + m ≤ 1000000)
    (hk : ∀ y c w', Bytes8 w' (some y) (l.length + m) (l ++ M) → l.length + m ≤ c → Below B w w' → wpList P ops Q rest (a.put o.dst (.slice (some y) (l.length + m) c)) w') : wpList P ops Q (o :: rest) a w :=
  wpList_plain hgd fun K hK => by
    obtain ⟨i, hi, hz, his, hib⟩ := info_parts hinfo
    obtain ⟨y, c, w', hr, h1, h2, h3⟩ := run_append_conv (P := P) t o.type e i ht hi hz his hib h hB ad m q M hM hl
    unfold Oper.wp execOp
    simp only [ho, resolve, invoke, builtin, Sem.run_bind, Sem.run_pure, Result.andThen_ok, List.map_toArray, List.map_cons, List.map_nil, hs, hx, hr]
    exact hK _ _ (hk y c w' h1 h2 h3)
end
end Go.Proofs.YtagjolbpmhbifaaGreatDoor

/-! A slice literal of one record. Nothing of the program. -/
namespace Go.Proofs.YtagjolbpmhbifaaGreatDoor
open Go Go.RowKit Go.ChangeShapes Go.WideShapes
/-! a slice literal of one record -/
theorem fold_row : ∀ (l pre b r : List Value), b.length = l.length → (l.zipIdx pre.length).foldl (fun acc (p : Value × Nat) => acc.setIfInBounds (0 + p.2) p.1) (pre ++ b ++ r).toArray = (pre ++ l ++ r).toArray
  | [], pre, b, r, hb => by
    obtain rfl := List.length_eq_zero_iff.1 hb
    rfl
  | v :: l, pre, [], r, hb => by cases hb
  | v :: l, pre, b0 :: b, r, hb => by
    rw [List.zipIdx_cons, List.foldl_cons]
    have e : (pre ++ b0 :: b ++ r).toArray.setIfInBounds (0 + pre.length) v = ((pre ++ [v]) ++ b ++ r).toArray := by
      rw [List.setIfInBounds_toArray, Nat.zero_add]
      congr 1
      simp
    have ih := fold_row l (pre ++ [v]) b r (by simpa using hb)
    rw [List.length_append] at ih
    simp only
    rw [e]
    rw [show pre.length + [v].length = pre.length + 1 from rfl] at ih
    rw [ih]
    simp
theorem fill_row {k : Nat} (cs zs : Array Value) (hc : cs.size = k) (hz : zs.size = k) : Instr.fill (fun i => some (i * k, k)) zs [(0, .agg cs)] = some cs := by
  have h := fold_row cs.toList [] zs.toList [] (by rw [Array.length_toList, Array.length_toList, hc, hz])
  have hcc : (Value.agg cs).cells = cs := rfl
  unfold Instr.fill
  simp only [Nat.zero_mul, hcc, hc, hz, ne_eq, not_true_eq_false, Nat.zero_add, gt_iff_lt, Nat.lt_irrefl, decide_false, Bool.or_self, Bool.false_eq_true, if_false]
  unfold Instr.fill
  congr 1
  rw [← Array.foldl_toList, Array.toList_zipIdx]
  simpa using h
theorem run_build_row {P : Program} {t T : TypeId} {z : Array Value} {k by_ : Nat} (ht : P.underlying t = some (.slice T)) (hi : (P.info? T).map (fun i => (i.zero, i.size, i.bytes)) = some (some (.agg z), k, by_)) (hk : 0 < k) (hk2 : k ≤ 16777216) (cs : Array Value) (hc : cs.size = k) (w : World) :
    (Instr.buildSlice t 1 #[(0, .agg cs)]).run P w = .ok (.slice (some ⟨w.heap.size, 0, none⟩) 1 1) (w.alloc (.cells cs T)) := by
  obtain ⟨i0, hi0, hz0, hz1, hz2⟩ := info_parts hi
  have hf := fill_row cs ((Array.range (1 * k)).map (z[· % z.size]!)) hc (by simp)
  have hz : (Value.agg z).cells = z := rfl
  have hne : ¬ k = 0 := by omega
  have hgt : ¬ 16777216 < k := by omega
  simp at hf
  simp [Instr.buildSlice, Sem.run_bind, run_underlying ht, sizeOf, typeInfo, zeroValue, hi0, hz0, hz1, hz, newRow, hf, hne, hgt]
theorem wpList_build_row {P : Program} {w : World} {ops : Array Oper} {rest : List Oper} {o : Oper} {a : Act} {Q : Exit → Act → World → Prop} (hgd : o.guard = none) (x : Operand) (t : TypeId) (ho : o.op = .buildSlice t 1 #[(0, x)])
    (T : TypeId) {z : Array Value} {k by_ : Nat} (ht : P.underlying t = some (.slice T)) (hi : (P.info? T).map (fun i => (i.zero, i.size, i.bytes)) = some (some (.agg z), k, by_)) (hk : 0 < k) (hk2 : k ≤ 16777216) (cs : Array Value) (hc : cs.size = k) (hx : a.eval x = .agg cs)
    (h : wpList P ops Q rest (a.put o.dst (.slice (some ⟨w.heap.size, 0, none⟩) 1 1)) (w.alloc (.cells cs T))) : wpList P ops Q (o :: rest) a w :=
  wpList_plain hgd fun K hK => by
    have hr := run_build_row (P := P) ht hi hk hk2 cs hc w
    unfold Oper.wp execOp
    simp only [ho, List.map_toArray, List.map_cons, List.map_nil, hx, Sem.run_bind, Sem.run_pure, Result.andThen_ok, hr]
    exact hK _ _ h
end Go.Proofs.YtagjolbpmhbifaaGreatDoor

/-! A cell of a record written, in a slice of one's own. Nothing of the program. -/
namespace Go.Proofs.YtagjolbpmhbifaaGreatDoor
open Go Go.RowKit Go.ChangeShapes Go.WideShapes
section
variable {α : Type} {R : Rec α}
theorem Rec.row_set {s' : α} {j : Nat} {x : Value} (hj : j < R.k) : ∀ {L : List α} (_ : ∀ t, t ∈ L → R.ok t) (i : Nat) (s : α), L[i]? = some s → R.cells s' = (R.cells s).set j x → R.row (L.set i s') = (R.row L).set (i * R.k + j) x
  | [], _, i, s, hi, _ => by simp at hi
  | u :: L, h, 0, s, hi, hx => by
    obtain rfl : u = s := by simpa using hi
    have h1 := R.len u (h u List.mem_cons_self)
    show R.cells s' ++ R.row L = (R.cells u ++ R.row L).set (0 * R.k + j) x
    rw [Nat.zero_mul, Nat.zero_add, List.set_append_left _ _ (by omega), hx]
  | u :: L, h, i + 1, s, hi, hx => by
    have h1 := R.len u (h u List.mem_cons_self)
    have ih := Rec.row_set hj (L := L) (fun u hu => h u (List.mem_cons_of_mem _ hu)) i s (by simpa using hi) hx
    show R.cells u ++ R.row (L.set i s') = (R.cells u ++ R.row L).set ((i + 1) * R.k + j) x
    have e : (i + 1) * R.k + j = R.k + (i * R.k + j) := by rw [Nat.add_mul, Nat.one_mul]; omega
    rw [e, List.set_append_right _ _ (by omega), h1, Nat.add_sub_cancel_left, ih]
theorem OwnR.setCell {T : TypeId} {B g n q i j : Nat} {w : World} {L : List α} {s s' : α} {x : Value} (h : OwnR R T B w (.slice (some ⟨g, 0, none⟩) n q) L) (hs : L[i]? = some s) (hok : R.ok s') (hj : j < R.k) (hx : R.cells s' = (R.cells s).set j x) :
    OwnR R T B (w.setCell ⟨g, i * R.k + j, none⟩ x) (.slice (some ⟨g, 0, none⟩) n q) (L.set i s') := by
  obtain ⟨hall, hl, ⟨e, h0⟩ | ⟨G, cap, cur, e, hg, hh, hn, hm, hc, ht⟩⟩ := h
  · cases e
  · injection e with e1 e2 e3
    injection e1 with e1
    injection e1 with e1
    subst e1
    subst e2
    subst e3
    have hmem : ∀ t, t ∈ L.set i s' → R.ok t := fun t ht' => by
      rcases List.mem_or_eq_of_mem_set ht' with h1 | h1
      · exact hall t h1
      · rw [h1]; exact hok
    have hH : Has (w.setCell ⟨g, i * R.k + j, none⟩ x) g T (cur.setIfInBounds (i * R.k + j) x) := (show Has w g T cur from hh).put _ _
    refine ⟨hmem, R.row_len hmem, .inr ⟨g, q, _, by rw [List.length_set], hg, hH, by rw [List.length_set]; exact hn, hm, by rw [Array.size_setIfInBounds]; exact hc, ?_⟩⟩
    rw [Rec.row_set hj hall i s hs hx, Array.toList_setIfInBounds, List.take_set, List.length_set, ht]
end
theorem ownr_block {α : Type} {R : Rec α} {T : TypeId} {B k : Nat} {w : World} {v : Value} {L : List α} (h : OwnR R T B w v L) (hk : v.ownBlock = some k) : ∃ cs, Has w k T cs := by
  rcases h.2.2 with ⟨rfl, _⟩ | ⟨j, cap, cur, rfl, _, h2, _⟩
  · cases hk
  · have e : j = k := by simpa [Value.ownBlock] using hk
    subst e
    exact ⟨cur, h2⟩
theorem ownr_ne {α β : Type} {R : Rec α} {R' : Rec β} {T T' : TypeId} {B B' : Nat} {w : World} {a a' : Option Addr} {n n' q q' : Nat} {L : List α} {L' : List β} (hT : (T == T') = false) (h : OwnR R T B w (.slice a n q) L) (h' : OwnR R' T' B' w (.slice a' n' q') L') {j : Nat} (hj : (Value.slice a n q).ownBlock = some j) (hj' : (Value.slice a' n' q').ownBlock = some j) : False := by
  obtain ⟨cs, hh⟩ := ownr_block h hj
  obtain ⟨cs', hh'⟩ := ownr_block h' hj'
  exact Has.ne_type hh hh' (by intro e; rw [e] at hT; simp at hT) rfl
/-- two results: a variable's cells, a slot -/
theorem results_cellslot {P : Program} {fn : Func} {p q : Tmp} {ty : TypeId} (h : fn.results = #[.cell p ty, .tmp q]) (tmps : Array Value) (w : World) (g : Nat) (hp : tmps.getD p undef = .pointer (some ⟨g, 0, none⟩))
    (v u : Value) (hv : (loadVar ty ⟨g, 0, none⟩).run P w = .ok v w) (hu : tmps.getD q undef = u) : (results fn tmps).run P w = .ok (.tuple #[v, u]) w := by
  rw [Array.getD_eq_getD_getElem?] at hp hu
  simp only [results, h]
  simp [hp, hu, hv, asAddr]
end Go.Proofs.YtagjolbpmhbifaaGreatDoor
