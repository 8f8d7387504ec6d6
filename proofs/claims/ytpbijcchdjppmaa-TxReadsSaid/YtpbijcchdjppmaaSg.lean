/- Strings as lists of bytes: each is one, and which are the same. Nothing of the program. -/
import Derived.Test.YtpbijcchdjppmaaBb
import Derived.Test.YtpbijcchdjppmaaEq
namespace Go.Proofs.Ytpbijcchdjppmaa
open Go Go.RowKit
theorem str_of (s : ByteArray) : ∃ l, s = strB l := by
  refine ⟨s.data.toList.map fun x => BitVec.ofNat 8 x.toNat, ?_⟩
  unfold strB strOfNums
  apply ByteArray.ext
  apply Array.ext'
  simp only [List.map_map]
  apply List.ext_getElem?
  intro i
  rw [List.getElem?_map]
  cases s.data.toList[i]? with
  | none => rfl
  | some x =>
    show some x = some (UInt8.ofNat (nb8 (BitVec.ofNat 8 x.toNat)).toNat)
    congr 1
    have hx := x.toNat_lt
    have : (nb8 (BitVec.ofNat 8 x.toNat)).toNat = x.toNat := by
      show (BitVec.ofNat 8 x.toNat).toNat = x.toNat
      rw [BitVec.toNat_ofNat]
      omega
    rw [this, UInt8.ofNat_toNat]
theorem strB_inj {l m : List (BitVec 8)} : strB l = strB m ↔ l = m := by
  constructor
  · intro h
    have h2 : (strB l).data.toList = (strB m).data.toList := by rw [h]
    unfold strB strOfNums at h2
    simp only [List.map_map] at h2
    refine List.map_inj_right (f := ((fun n : Int => UInt8.ofNat n.toNat) ∘ nb8)) ?_ |>.1 (by simpa using h2)
    intro x y hxy
    have h3 := congrArg UInt8.toNat hxy
    simp only [Function.comp_apply, nb8, Int.toNat_natCast, UInt8.toNat_ofNat'] at h3
    apply BitVec.eq_of_toNat_eq
    have := x.isLt
    have := y.isLt
    omega
  · rintro rfl; rfl
theorem strB_beq (l m : List (BitVec 8)) : ((strB l).toList == (strB m).toList) = decide (l = m) := by
  by_cases h : l = m
  · subst h
    simp
  · rw [decide_eq_false h]
    refine beq_eq_false_iff_ne.2 (fun e => h (strB_inj.1 ?_))
    rw [ByteArray.toList_eq, ByteArray.toList_eq] at e
    exact ByteArray.ext (Array.ext' e)
end Go.Proofs.Ytpbijcchdjppmaa
