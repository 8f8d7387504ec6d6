/- PackBack's sizes; what it puts -/
import Derived.Test.YtndcpclichpkaaaPkY
import Derived.Test.YtndcpclichpkaaaPkB1
namespace Go.Proofs.Ytndcpclichpkaaa
open Go Go.RowKit Go.ChangeShapes Go.WideShapes
def Pk.szOf (z : Int) : Nat := 2 ^ ((BitVec.ofInt 64 z).toNat % 4)
theorem szOf_cases (z : Int) : Pk.szOf z = 1 ∨ Pk.szOf z = 2 ∨ Pk.szOf z = 4 ∨ Pk.szOf z = 8 := by
  unfold Pk.szOf
  have h : (BitVec.ofInt 64 z).toNat % 4 < 4 := Nat.mod_lt _ (by omega)
  generalize (BitVec.ofInt 64 z).toNat % 4 = q at h
  match q, h with
  | 0, _ => exact .inl rfl
  | 1, _ => exact .inr (.inl rfl)
  | 2, _ => exact .inr (.inr (.inl rfl))
  | 3, _ => exact .inr (.inr (.inr rfl))
theorem szOf_ok (z : Int) : Pk.okSize (Pk.szOf z : Int) := by
  unfold Pk.okSize
  have := szOf_cases z
  omega
theorem shl_sz (z : Int) (t : TypeId) : binOp .shl t (.int .i64 1) (.int .u64 (nb64 (BitVec.ofInt 64 z % 4#64))) = pure (.int .i64 (Pk.szOf z : Int)) := by
  unfold Pk.szOf
  have e : nb64 (BitVec.ofInt 64 z % 4#64) = (((BitVec.ofInt 64 z).toNat % 4 : Nat) : Int) := by
    unfold nb64
    rw [BitVec.toNat_umod]
    rfl
  rw [e]
  have h : (BitVec.ofInt 64 z).toNat % 4 < 4 := Nat.mod_lt _ (by omega)
  generalize (BitVec.ofInt 64 z).toNat % 4 = q at h
  match q, h with
  | 0, _ => rfl
  | 1, _ => rfl
  | 2, _ => rfl
  | 3, _ => rfl
def Pk.putB (t : Pk.Th) : List (BitVec 8) := if t.kind = 0 then Pk.num t.n (Pk.szOf t.size) else if t.kind = 1 then Pk.count (t.n >>> 1).toNat else if t.kind = 2 then Pk.text t.s else t.h
theorem putB_len {t : Pk.Th} (hs : t.s.length ≤ 3000) (hh : t.h.length = 32) : (Pk.putB t).length ≤ 4000 := by
  unfold Pk.putB
  have h1 := num_len t.n (Pk.szOf t.size)
  have h2 := Pk.count_le (t.n >>> 1).toNat
  have h3 : (Pk.text t.s).length ≤ 3009 := by
    unfold Pk.text
    rw [List.length_append]
    have := Pk.count_le t.s.length
    omega
  split
  · omega
  · split
    · omega
    · split
      · omega
      · omega
theorem half_lt (x : BitVec 64) : (x >>> 1).toNat < 9223372036854775808 := by
  rw [BitVec.toNat_ushiftRight, Nat.shiftRight_eq_div_pow]
  have := x.isLt
  omega
theorem half_wrap (x : BitVec 64) : wrap64 (nb64 (x >>> 1)) = ((x >>> 1).toNat : Int) := ofInt_toInt64 _ (half_lt x)
theorem half_wrap2 (x : BitVec 64) : IntKind.i64.wrap (nb64 (x >>> 1)) = ((x >>> 1).toNat : Int) := by
  have := half_lt x
  rw [IntKind.wrap_i64]; unfold nb64; omega
theorem put_drop {L : List Pk.Th} {i : Nat} {t : Pk.Th} (h : L[i]? = some t) : ((L.drop i).map Pk.putB).flatten = Pk.putB t ++ ((L.drop (i + 1)).map Pk.putB).flatten := by
  obtain ⟨hi, e⟩ := List.getElem?_eq_some_iff.1 h
  rw [List.drop_eq_getElem_cons hi, e]
  rfl
theorem put_take {L : List Pk.Th} {i : Nat} {t : Pk.Th} (h : L[i]? = some t) : ((L.take (i + 1)).map Pk.putB).flatten = ((L.take i).map Pk.putB).flatten ++ Pk.putB t := by
  obtain ⟨hi, e⟩ := List.getElem?_eq_some_iff.1 h
  rw [List.take_succ_eq_append_getElem hi, e]
  simp
end Go.Proofs.Ytndcpclichpkaaa
