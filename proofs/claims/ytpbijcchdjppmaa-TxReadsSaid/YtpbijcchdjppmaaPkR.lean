/- the reference's Num, Count, Text, Hash -/
import Derived.Test.YtpbijcchdjppmaaRows
import Derived.Test.YtpbijcchdjppmaaPkM
import Derived.Test.YtpbijcchdjppmaaHa
import Derived.Test.YtpbijcchdjppmaaAz
import Derived.Lib.Hide
import Derived.Lib.AppendStr
import Derived.IntWalk
import Derived.Deep.Cut
import Derived.BigQuiet
import Derived.OwnWalk
import Derived.StillTailTactics
namespace Go.Proofs.Ytpbijcchdjppmaa
open Go Go.RowKit Go.ChangeShapes Go.WideShapes
/-- as a slice of one's own is answered -/
def BytesPost8 (T : TypeId) (B : Nat) (l : List (BitVec 8)) (w0 : World) (e : Ending) (w' : World) : Prop := ∃ v, e = .returned v ∧ OwnB T B w' v l ∧ Below w0.heap.size w0 w'
theorem below_lit8 {w0 w w' : World} {T : TypeId} {cs : Array Value} {v : Value} {l : List (BitVec 8)} (hb : Below w0.heap.size w0 w) (ho : OwnB T w0.heap.size w v l) (hg : (w.alloc (.cells cs T)).grownBy w' v.ownBlock) : Below w0.heap.size w0 w' :=
  below_own_rowb (hb.alloc hb.size _) hg ho.lt
theorem ownB_of_has {T : TypeId} {B : Nat} {w1 : World} {g n : Nat} {l : List (BitVec 8)} (hB : B ≤ g) (hh : Has w1 g T (blist l).toArray) (hl : l.length = n) (hn : n ≤ 1000000) : OwnB T B w1 (.slice (some ⟨g, 0, none⟩) n n) l := by
  subst hl
  exact ⟨by rw [blist_length, Nat.mul_one], .inr ⟨g, l.length, (blist l).toArray, rfl, hB, hh, Nat.le_refl _, by unfold maxLen; omega, by rw [List.size_toArray, blist_length, Nat.mul_one], List.take_of_length_le (by rw [blist_length, Nat.mul_one]; exact Nat.le_refl _)⟩⟩
set_option maxRecDepth 100000 in
set_option maxHeartbeats 4000000 in
theorem rnum_1 (x : BitVec 64) (w : World) :
    Calls Try.prog 67 #[.int .u64 (nb64 x), .int .i64 1] w (BytesPost8 5 w.heap.size (Pk.le x 1) w) := by
  go_enter Try.func67, Try.ntmps67
  go_wp2
  go_loopw [0, 5, 6] (fun xv bv iv wr => ∃ i : Nat, i ≤ 1 ∧ iv = .int .i64 i ∧ xv = .int .u64 (nb64 (x >>> (8 * i))) ∧ OwnB 5 w.heap.size wr bv (Pk.le x i) ∧ Below w.heap.size w wr) (fun _ _ iv _ => 1 - (intOf iv).toNat)
  case atStart => exact ⟨0, Nat.zero_le _, rfl, by simp, OwnB.nil _ _ _, Below.refl _ _⟩
  case round =>
    obtain ⟨i, hi, rfl, rfl, ho, hb⟩ := hrel
    by_cases hlt : i < 1
    · have hii : (i : Int) < 1 := by omega
      obtain ⟨y, hy⟩ : ∃ y, y = x >>> (8 * i) := ⟨_, rfl⟩
      have HX := Lib.hid (show Pk.le x (i + 1) = Pk.le x i ++ [(y % 256#64).setWidth 8] by rw [Pk.rem_low, hy]; exact Pk.le_snoc x i)
      have HY := Lib.hid (show y / 256#64 = x >>> (8 * (i + 1)) by rw [hy]; exact Pk.quo_shr x i)
      rw [← hy]
      have hle : (Pk.le x i).length + 1 ≤ 1099511627776 := by rw [Pk.le_len]; omega
      clear hy
      go_wp2_with (first
        | (at_builtin; refine wpList_append_lit rfl (.tmp 27) (.tmp 31) 38 rfl 5 Try.underlying38 info_byte w.heap.size _ (Pk.le x i) rfl ho 1 [(y % 256#64).setWidth 8] rfl #[.int .u8 (nb8 ((y % 256#64).setWidth 8))] rfl rfl hle hb.size ?_; intro v2 w2 h2 h3))
      go_roundw
      case rel => exact ⟨i + 1, by omega, by go_num, by rw [HY.out], by rw [HX.out]; exact h2, below_lit8 hb ho h3⟩
      case measure => (simp [intOf]; try omega)
    · have hin : i = 1 := by omega
      subst hin
      have hii : ¬ (1 : Int) < 1 := by omega
      go_wp2
      go_ret
      exact ⟨_, rfl, ho, hb⟩
set_option maxRecDepth 100000 in
set_option maxHeartbeats 4000000 in
theorem rnum_2 (x : BitVec 64) (w : World) :
    Calls Try.prog 67 #[.int .u64 (nb64 x), .int .i64 2] w (BytesPost8 5 w.heap.size (Pk.le x 2) w) := by
  go_enter Try.func67, Try.ntmps67
  go_wp2
  go_loopw [0, 5, 6] (fun xv bv iv wr => ∃ i : Nat, i ≤ 2 ∧ iv = .int .i64 i ∧ xv = .int .u64 (nb64 (x >>> (8 * i))) ∧ OwnB 5 w.heap.size wr bv (Pk.le x i) ∧ Below w.heap.size w wr) (fun _ _ iv _ => 2 - (intOf iv).toNat)
  case atStart => exact ⟨0, Nat.zero_le _, rfl, by simp, OwnB.nil _ _ _, Below.refl _ _⟩
  case round =>
    obtain ⟨i, hi, rfl, rfl, ho, hb⟩ := hrel
    by_cases hlt : i < 2
    · have hii : (i : Int) < 2 := by omega
      obtain ⟨y, hy⟩ : ∃ y, y = x >>> (8 * i) := ⟨_, rfl⟩
      have HX := Lib.hid (show Pk.le x (i + 1) = Pk.le x i ++ [(y % 256#64).setWidth 8] by rw [Pk.rem_low, hy]; exact Pk.le_snoc x i)
      have HY := Lib.hid (show y / 256#64 = x >>> (8 * (i + 1)) by rw [hy]; exact Pk.quo_shr x i)
      rw [← hy]
      have hle : (Pk.le x i).length + 1 ≤ 1099511627776 := by rw [Pk.le_len]; omega
      clear hy
      go_wp2_with (first
        | (at_builtin; refine wpList_append_lit rfl (.tmp 27) (.tmp 31) 38 rfl 5 Try.underlying38 info_byte w.heap.size _ (Pk.le x i) rfl ho 1 [(y % 256#64).setWidth 8] rfl #[.int .u8 (nb8 ((y % 256#64).setWidth 8))] rfl rfl hle hb.size ?_; intro v2 w2 h2 h3))
      go_roundw
      case rel => exact ⟨i + 1, by omega, by go_num, by rw [HY.out], by rw [HX.out]; exact h2, below_lit8 hb ho h3⟩
      case measure => (simp [intOf]; try omega)
    · have hin : i = 2 := by omega
      subst hin
      have hii : ¬ (2 : Int) < 2 := by omega
      go_wp2
      go_ret
      exact ⟨_, rfl, ho, hb⟩
set_option maxRecDepth 100000 in
set_option maxHeartbeats 4000000 in
theorem rnum_4 (x : BitVec 64) (w : World) :
    Calls Try.prog 67 #[.int .u64 (nb64 x), .int .i64 4] w (BytesPost8 5 w.heap.size (Pk.le x 4) w) := by
  go_enter Try.func67, Try.ntmps67
  go_wp2
  go_loopw [0, 5, 6] (fun xv bv iv wr => ∃ i : Nat, i ≤ 4 ∧ iv = .int .i64 i ∧ xv = .int .u64 (nb64 (x >>> (8 * i))) ∧ OwnB 5 w.heap.size wr bv (Pk.le x i) ∧ Below w.heap.size w wr) (fun _ _ iv _ => 4 - (intOf iv).toNat)
  case atStart => exact ⟨0, Nat.zero_le _, rfl, by simp, OwnB.nil _ _ _, Below.refl _ _⟩
  case round =>
    obtain ⟨i, hi, rfl, rfl, ho, hb⟩ := hrel
    by_cases hlt : i < 4
    · have hii : (i : Int) < 4 := by omega
      obtain ⟨y, hy⟩ : ∃ y, y = x >>> (8 * i) := ⟨_, rfl⟩
      have HX := Lib.hid (show Pk.le x (i + 1) = Pk.le x i ++ [(y % 256#64).setWidth 8] by rw [Pk.rem_low, hy]; exact Pk.le_snoc x i)
      have HY := Lib.hid (show y / 256#64 = x >>> (8 * (i + 1)) by rw [hy]; exact Pk.quo_shr x i)
      rw [← hy]
      have hle : (Pk.le x i).length + 1 ≤ 1099511627776 := by rw [Pk.le_len]; omega
      clear hy
      go_wp2_with (first
        | (at_builtin; refine wpList_append_lit rfl (.tmp 27) (.tmp 31) 38 rfl 5 Try.underlying38 info_byte w.heap.size _ (Pk.le x i) rfl ho 1 [(y % 256#64).setWidth 8] rfl #[.int .u8 (nb8 ((y % 256#64).setWidth 8))] rfl rfl hle hb.size ?_; intro v2 w2 h2 h3))
      go_roundw
      case rel => exact ⟨i + 1, by omega, by go_num, by rw [HY.out], by rw [HX.out]; exact h2, below_lit8 hb ho h3⟩
      case measure => (simp [intOf]; try omega)
    · have hin : i = 4 := by omega
      subst hin
      have hii : ¬ (4 : Int) < 4 := by omega
      go_wp2
      go_ret
      exact ⟨_, rfl, ho, hb⟩
set_option maxRecDepth 100000 in
set_option maxHeartbeats 4000000 in
theorem rnum_8 (x : BitVec 64) (w : World) :
    Calls Try.prog 67 #[.int .u64 (nb64 x), .int .i64 8] w (BytesPost8 5 w.heap.size (Pk.le x 8) w) := by
  go_enter Try.func67, Try.ntmps67
  go_wp2
  go_loopw [0, 5, 6] (fun xv bv iv wr => ∃ i : Nat, i ≤ 8 ∧ iv = .int .i64 i ∧ xv = .int .u64 (nb64 (x >>> (8 * i))) ∧ OwnB 5 w.heap.size wr bv (Pk.le x i) ∧ Below w.heap.size w wr) (fun _ _ iv _ => 8 - (intOf iv).toNat)
  case atStart => exact ⟨0, Nat.zero_le _, rfl, by simp, OwnB.nil _ _ _, Below.refl _ _⟩
  case round =>
    obtain ⟨i, hi, rfl, rfl, ho, hb⟩ := hrel
    by_cases hlt : i < 8
    · have hii : (i : Int) < 8 := by omega
      obtain ⟨y, hy⟩ : ∃ y, y = x >>> (8 * i) := ⟨_, rfl⟩
      have HX := Lib.hid (show Pk.le x (i + 1) = Pk.le x i ++ [(y % 256#64).setWidth 8] by rw [Pk.rem_low, hy]; exact Pk.le_snoc x i)
      have HY := Lib.hid (show y / 256#64 = x >>> (8 * (i + 1)) by rw [hy]; exact Pk.quo_shr x i)
      rw [← hy]
      have hle : (Pk.le x i).length + 1 ≤ 1099511627776 := by rw [Pk.le_len]; omega
      clear hy
      go_wp2_with (first
        | (at_builtin; refine wpList_append_lit rfl (.tmp 27) (.tmp 31) 38 rfl 5 Try.underlying38 info_byte w.heap.size _ (Pk.le x i) rfl ho 1 [(y % 256#64).setWidth 8] rfl #[.int .u8 (nb8 ((y % 256#64).setWidth 8))] rfl rfl hle hb.size ?_; intro v2 w2 h2 h3))
      go_roundw
      case rel => exact ⟨i + 1, by omega, by go_num, by rw [HY.out], by rw [HX.out]; exact h2, below_lit8 hb ho h3⟩
      case measure => (simp [intOf]; try omega)
    · have hin : i = 8 := by omega
      subst hin
      have hii : ¬ (8 : Int) < 8 := by omega
      go_wp2
      go_ret
      exact ⟨_, rfl, ho, hb⟩
theorem rnum_no (x : BitVec 64) (z : Int) (hz : ¬ Pk.okSize z) (w : World) :
    Calls Try.prog 67 #[.int .u64 (nb64 x), .int .i64 z] w (BytesPost8 5 w.heap.size [] w) := by
  unfold Pk.okSize at hz
  have h1 : (z != 1) = true := by simp; omega
  have h2 : (z != 2) = true := by simp; omega
  have h4 : (z != 4) = true := by simp; omega
  have h8 : (z != 8) = true := by simp; omega
  clear hz
  go_enter Try.func67, Try.ntmps67
  go_wp2
  go_ret
  exact ⟨_, rfl, OwnB.nil _ _ _, Below.refl _ _⟩
theorem rnum8_any (x : BitVec 64) (z : Int) (w : World) : Calls Try.prog 67 #[.int .u64 (nb64 x), .int .i64 z] w (BytesPost8 5 w.heap.size (Pk.num x z) w) := by
  unfold Pk.num
  by_cases h : Pk.okSize z
  · rw [if_pos h]
    rcases h with rfl | rfl | rfl | rfl
    · exact rnum_1 x w
    · exact rnum_2 x w
    · exact rnum_4 x w
    · exact rnum_8 x w
  · rw [if_neg h]
    exact rnum_no x z h w
end Go.Proofs.Ytpbijcchdjppmaa
