/- integers, counts, texts as bytes. Nothing of the program. · the reference's Num, Count, Text, Hash · the reference's Count, Text, Hash · the reference's Text, Hash; strings -/
import Derived.Test.YtagjolbpmhbifaaGreatDoorLz
import Derived.Test.YtagjolbpmhbifaaGreatDoorRows
import Derived.Lib.Hide
import Derived.Lib.AppendStr
import Derived.IntWalk
import Derived.Deep.Cut
import Derived.BigQuiet
import Derived.OwnWalk
import Derived.StillTailTactics
/-! integers, counts, texts as bytes. Nothing of the program. -/
namespace Go.Proofs.YtagjolbpmhbifaaGreatDoor.Pk
open Go.Proofs.YtagjolbpmhbifaaGreatDoor
/-- the low k bytes of a number, low byte first -/
def le (x : BitVec 64) (k : Nat) : List (BitVec 8) := (List.range k).map fun i => (x >>> (8 * i)).setWidth 8
theorem le_len (x : BitVec 64) (k : Nat) : (le x k).length = k := by simp [le]
theorem le_snoc (x : BitVec 64) (k : Nat) : le x (k + 1) = le x k ++ [(x >>> (8 * k)).setWidth 8] := by unfold le; rw [List.range_succ, List.map_append]; rfl
theorem quo_shr (x : BitVec 64) (k : Nat) : (x >>> (8 * k)) / 256#64 = x >>> (8 * (k + 1)) := by
  apply BitVec.eq_of_toNat_eq
  simp only [BitVec.toNat_udiv, BitVec.toNat_ushiftRight, BitVec.toNat_ofNat, Nat.shiftRight_eq_div_pow]
  rw [Nat.div_div_eq_div_mul, show 8 * (k + 1) = 8 * k + 8 by omega, Nat.pow_add]
theorem rem_low (y : BitVec 64) : (y % 256#64).setWidth 8 = y.setWidth 8 := by
  apply BitVec.eq_of_toNat_eq
  rw [BitVec.toNat_setWidth, BitVec.toNat_setWidth, BitVec.toNat_umod, show (256#64).toNat = 256 from rfl]
  omega
/-- a size that there is -/
def okSize (z : Int) : Prop := z = 1 ∨ z = 2 ∨ z = 4 ∨ z = 8
instance (z : Int) : Decidable (okSize z) := by unfold okSize; infer_instance
def num (x : BitVec 64) (z : Int) : List (BitVec 8) := if okSize z then le x z.toNat else []
def count (n : Int) : List (BitVec 8) :=
  if n < 0 then [] else if n ≤ 252 then le (BitVec.ofInt 64 n) 1 else if n ≤ 65535 then [253#8] ++ le (BitVec.ofInt 64 n) 2 else if n ≤ 4294967295 then [254#8] ++ le (BitVec.ofInt 64 n) 4 else [255#8] ++ le (BitVec.ofInt 64 n) 8
def text (s : List (BitVec 8)) : List (BitVec 8) := count s.length ++ s
theorem count_le (n : Int) : (count n).length ≤ 9 := by
  unfold count
  split
  · simp
  · split
    · rw [le_len]; omega
    · split
      · simp [le_len]
      · split <;> simp [le_len]
end Go.Proofs.YtagjolbpmhbifaaGreatDoor.Pk

/-! the reference's Num, Count, Text, Hash -/
namespace Go.Proofs.YtagjolbpmhbifaaGreatDoor
open Go Go.RowKit Go.ChangeShapes Go.WideShapes
/-- as a slice of one's own is answered -/
def BytesPost8 (T : TypeId) (B : Nat) (l : List (BitVec 8)) (w0 : World) (e : Ending) (w' : World) : Prop := ∃ v, e = .returned v ∧ OwnB T B w' v l ∧ Below w0.heap.size w0 w'
theorem below_lit8 {w0 w w' : World} {T : TypeId} {cs : Array Value} {v : Value} {l : List (BitVec 8)} (hb : Below w0.heap.size w0 w) (ho : OwnB T w0.heap.size w v l) (hg : (w.alloc (.cells cs T)).grownBy w' v.ownBlock) : Below w0.heap.size w0 w' :=
  below_own_rowb (hb.alloc hb.size _) hg ho.lt
theorem ownB_of_has {T : TypeId} {B : Nat} {w1 : World} {g n : Nat} {l : List (BitVec 8)} (hB : B ≤ g) (hh : Has w1 g T (blist l).toArray) (hl : l.length = n) (hn : n ≤ 1000000) : OwnB T B w1 (.slice (some ⟨g, 0, none⟩) n n) l := by
  subst hl
  exact ⟨by rw [blist_length, Nat.mul_one], .inr ⟨g, l.length, (blist l).toArray, rfl, hB, hh, Nat.le_refl _, by unfold maxLen; omega, by rw [List.size_toArray, blist_length, Nat.mul_one], List.take_of_length_le (by rw [blist_length, Nat.mul_one]; exact Nat.le_refl _)⟩⟩
set_option maxRecDepth 100000 in
set_option maxHeartbeats 4000000 in
theorem rnum_1 (x : BitVec 64) (w : World) :
    Calls Tryz.prog 125 #[.int .u64 (nb64 x), .int .i64 1] w (BytesPost8 5 w.heap.size (Pk.le x 1) w) := by
  go_enter Tryz.func125, Tryz.ntmps125
  go_wp2
  go_loopw [0, 5, 6] (fun xv bv iv wr => ∃ i : Nat, i ≤ 1 ∧ iv = .int .i64 i ∧ xv = .int .u64 (nb64 (x >>> (8 * i))) ∧ OwnB 5 w.heap.size wr bv (Pk.le x i) ∧ Below w.heap.size w wr) (fun _ _ iv _ => 1 - (intOf iv).toNat)
  case atStart => exact ⟨0, Nat.zero_le _, rfl, by simp, OwnB.nil _ _ _, Below.refl _ _⟩
  case round =>
    obtain ⟨i, hi, rfl, rfl, ho, hb⟩ := hrel
    by_cases hlt : i < 1
    · have hii : (i : Int) < 1 := by omega
      obtain ⟨y, hy⟩ : ∃ y, y = x >>> (8 * i) := ⟨_, rfl⟩
      have HX := Lib.hid (show Pk.le x (i + 1) = Pk.le x i ++ [(y % 256#64).setWidth 8] by rw [Pk.rem_low, hy]; exact Pk.le_snoc x i)
      have HY := Lib.hid (show y / 256#64 = x >>> (8 * (i + 1)) by rw [hy]; exact Pk.quo_shr x i)
      rw [← hy]
      have hle : (Pk.le x i).length + 1 ≤ 1099511627776 := by rw [Pk.le_len]; omega
      clear hy
      go_wp2_with (first
        | (at_builtin; refine wpList_append_lit rfl (.tmp 27) (.tmp 31) 116 rfl 5 Tryz.underlying116 info_byte w.heap.size _ (Pk.le x i) rfl ho 1 [(y % 256#64).setWidth 8] rfl #[.int .u8 (nb8 ((y % 256#64).setWidth 8))] rfl rfl hle hb.size ?_; intro v2 w2 h2 h3))
      go_roundw
      case rel => exact ⟨i + 1, by omega, by go_num, by rw [HY.out], by rw [HX.out]; exact h2, below_lit8 hb ho h3⟩
      case measure => (simp [intOf]; try omega)
    · have hin : i = 1 := by omega
      subst hin
      have hii : ¬ (1 : Int) < 1 := by omega
      go_wp2
      go_ret
      exact ⟨_, rfl, ho, hb⟩
set_option maxRecDepth 100000 in
set_option maxHeartbeats 4000000 in
theorem rnum_2 (x : BitVec 64) (w : World) :
    Calls Tryz.prog 125 #[.int .u64 (nb64 x), .int .i64 2] w (BytesPost8 5 w.heap.size (Pk.le x 2) w) := by
  go_enter Tryz.func125, Tryz.ntmps125
  go_wp2
  go_loopw [0, 5, 6] (fun xv bv iv wr => ∃ i : Nat, i ≤ 2 ∧ iv = .int .i64 i ∧ xv = .int .u64 (nb64 (x >>> (8 * i))) ∧ OwnB 5 w.heap.size wr bv (Pk.le x i) ∧ Below w.heap.size w wr) (fun _ _ iv _ => 2 - (intOf iv).toNat)
  case atStart => exact ⟨0, Nat.zero_le _, rfl, by simp, OwnB.nil _ _ _, Below.refl _ _⟩
  case round =>
    obtain ⟨i, hi, rfl, rfl, ho, hb⟩ := hrel
    by_cases hlt : i < 2
    · have hii : (i : Int) < 2 := by omega
      obtain ⟨y, hy⟩ : ∃ y, y = x >>> (8 * i) := ⟨_, rfl⟩
      have HX := Lib.hid (show Pk.le x (i + 1) = Pk.le x i ++ [(y % 256#64).setWidth 8] by rw [Pk.rem_low, hy]; exact Pk.le_snoc x i)
      have HY := Lib.hid (show y / 256#64 = x >>> (8 * (i + 1)) by rw [hy]; exact Pk.quo_shr x i)
      rw [← hy]
      have hle : (Pk.le x i).length + 1 ≤ 1099511627776 := by rw [Pk.le_len]; omega
      clear hy
      go_wp2_with (first
        | (at_builtin; refine wpList_append_lit rfl (.tmp 27) (.tmp 31) 116 rfl 5 Tryz.underlying116 info_byte w.heap.size _ (Pk.le x i) rfl ho 1 [(y % 256#64).setWidth 8] rfl #[.int .u8 (nb8 ((y % 256#64).setWidth 8))] rfl rfl hle hb.size ?_; intro v2 w2 h2 h3))
      go_roundw
      case rel => exact ⟨i + 1, by omega, by go_num, by rw [HY.out], by rw [HX.out]; exact h2, below_lit8 hb ho h3⟩
      case measure => (simp [intOf]; try omega)
    · have hin : i = 2 := by omega
      subst hin
      have hii : ¬ (2 : Int) < 2 := by omega
      go_wp2
      go_ret
      exact ⟨_, rfl, ho, hb⟩
set_option maxRecDepth 100000 in
set_option maxHeartbeats 4000000 in
theorem rnum_4 (x : BitVec 64) (w : World) :
    Calls Tryz.prog 125 #[.int .u64 (nb64 x), .int .i64 4] w (BytesPost8 5 w.heap.size (Pk.le x 4) w) := by
  go_enter Tryz.func125, Tryz.ntmps125
  go_wp2
  go_loopw [0, 5, 6] (fun xv bv iv wr => ∃ i : Nat, i ≤ 4 ∧ iv = .int .i64 i ∧ xv = .int .u64 (nb64 (x >>> (8 * i))) ∧ OwnB 5 w.heap.size wr bv (Pk.le x i) ∧ Below w.heap.size w wr) (fun _ _ iv _ => 4 - (intOf iv).toNat)
  case atStart => exact ⟨0, Nat.zero_le _, rfl, by simp, OwnB.nil _ _ _, Below.refl _ _⟩
  case round =>
    obtain ⟨i, hi, rfl, rfl, ho, hb⟩ := hrel
    by_cases hlt : i < 4
    · have hii : (i : Int) < 4 := by omega
      obtain ⟨y, hy⟩ : ∃ y, y = x >>> (8 * i) := ⟨_, rfl⟩
      have HX := Lib.hid (show Pk.le x (i + 1) = Pk.le x i ++ [(y % 256#64).setWidth 8] by rw [Pk.rem_low, hy]; exact Pk.le_snoc x i)
      have HY := Lib.hid (show y / 256#64 = x >>> (8 * (i + 1)) by rw [hy]; exact Pk.quo_shr x i)
      rw [← hy]
      have hle : (Pk.le x i).length + 1 ≤ 1099511627776 := by rw [Pk.le_len]; omega
      clear hy
      go_wp2_with (first
        | (at_builtin; refine wpList_append_lit rfl (.tmp 27) (.tmp 31) 116 rfl 5 Tryz.underlying116 info_byte w.heap.size _ (Pk.le x i) rfl ho 1 [(y % 256#64).setWidth 8] rfl #[.int .u8 (nb8 ((y % 256#64).setWidth 8))] rfl rfl hle hb.size ?_; intro v2 w2 h2 h3))
      go_roundw
      case rel => exact ⟨i + 1, by omega, by go_num, by rw [HY.out], by rw [HX.out]; exact h2, below_lit8 hb ho h3⟩
      case measure => (simp [intOf]; try omega)
    · have hin : i = 4 := by omega
      subst hin
      have hii : ¬ (4 : Int) < 4 := by omega
      go_wp2
      go_ret
      exact ⟨_, rfl, ho, hb⟩
set_option maxRecDepth 100000 in
set_option maxHeartbeats 4000000 in
theorem rnum_8 (x : BitVec 64) (w : World) :
    Calls Tryz.prog 125 #[.int .u64 (nb64 x), .int .i64 8] w (BytesPost8 5 w.heap.size (Pk.le x 8) w) := by
  go_enter Tryz.func125, Tryz.ntmps125
  go_wp2
  go_loopw [0, 5, 6] (fun xv bv iv wr => ∃ i : Nat, i ≤ 8 ∧ iv = .int .i64 i ∧ xv = .int .u64 (nb64 (x >>> (8 * i))) ∧ OwnB 5 w.heap.size wr bv (Pk.le x i) ∧ Below w.heap.size w wr) (fun _ _ iv _ => 8 - (intOf iv).toNat)
  case atStart => exact ⟨0, Nat.zero_le _, rfl, by simp, OwnB.nil _ _ _, Below.refl _ _⟩
  case round =>
    obtain ⟨i, hi, rfl, rfl, ho, hb⟩ := hrel
    by_cases hlt : i < 8
    · have hii : (i : Int) < 8 := by omega
      obtain ⟨y, hy⟩ : ∃ y, y = x >>> (8 * i) := ⟨_, rfl⟩
      have HX := Lib.hid (show Pk.le x (i + 1) = Pk.le x i ++ [(y % 256#64).setWidth 8] by rw [Pk.rem_low, hy]; exact Pk.le_snoc x i)
      have HY := Lib.hid (show y / 256#64 = x >>> (8 * (i + 1)) by rw [hy]; exact Pk.quo_shr x i)
      rw [← hy]
      have hle : (Pk.le x i).length + 1 ≤ 1099511627776 := by rw [Pk.le_len]; omega
      clear hy
      go_wp2_with (first
        | (at_builtin; refine wpList_append_lit rfl (.tmp 27) (.tmp 31) 116 rfl 5 Tryz.underlying116 info_byte w.heap.size _ (Pk.le x i) rfl ho 1 [(y % 256#64).setWidth 8] rfl #[.int .u8 (nb8 ((y % 256#64).setWidth 8))] rfl rfl hle hb.size ?_; intro v2 w2 h2 h3))
      go_roundw
      case rel => exact ⟨i + 1, by omega, by go_num, by rw [HY.out], by rw [HX.out]; exact h2, below_lit8 hb ho h3⟩
      case measure => (simp [intOf]; try omega)
    · have hin : i = 8 := by omega
      subst hin
      have hii : ¬ (8 : Int) < 8 := by omega
      go_wp2
      go_ret
      exact ⟨_, rfl, ho, hb⟩
theorem rnum_no (x : BitVec 64) (z : Int) (hz : ¬ Pk.okSize z) (w : World) :
    Calls Tryz.prog 125 #[.int .u64 (nb64 x), .int .i64 z] w (BytesPost8 5 w.heap.size [] w) := by
  unfold Pk.okSize at hz
  have h1 : (z != 1) = true := by simp; omega
  have h2 : (z != 2) = true := by simp; omega
  have h4 : (z != 4) = true := by simp; omega
  have h8 : (z != 8) = true := by simp; omega
  clear hz
  go_enter Tryz.func125, Tryz.ntmps125
  go_wp2
  go_ret
  exact ⟨_, rfl, OwnB.nil _ _ _, Below.refl _ _⟩
theorem rnum8_any (x : BitVec 64) (z : Int) (w : World) : Calls Tryz.prog 125 #[.int .u64 (nb64 x), .int .i64 z] w (BytesPost8 5 w.heap.size (Pk.num x z) w) := by
  unfold Pk.num
  by_cases h : Pk.okSize z
  · rw [if_pos h]
    rcases h with rfl | rfl | rfl | rfl
    · exact rnum_1 x w
    · exact rnum_2 x w
    · exact rnum_4 x w
    · exact rnum_8 x w
  · rw [if_neg h]
    exact rnum_no x z h w
end Go.Proofs.YtagjolbpmhbifaaGreatDoor

/-! the reference's Count, Text, Hash -/
namespace Go.Proofs.YtagjolbpmhbifaaGreatDoor
open Go Go.RowKit Go.ChangeShapes Go.WideShapes
theorem int_to_u64 (z : Int) : IntKind.u64.wrap z = nb64 (BitVec.ofInt 64 z) := by
  rw [IntKind.wrap_u64]
  simp only [nb64, BitVec.toNat_ofInt]
  omega
set_option maxRecDepth 100000 in
set_option maxHeartbeats 4000000 in
theorem rcount_big (z : Int) (t : BitVec 8) (K : Nat) (hK : t = 253#8 ∧ K = 2 ∧ 252 < z ∧ z ≤ 65535 ∨ t = 254#8 ∧ K = 4 ∧ 65535 < z ∧ z ≤ 4294967295 ∨ t = 255#8 ∧ K = 8 ∧ 4294967295 < z) (w : World) :
    Calls Tryz.prog 123 #[.int .i64 z] w (BytesPost8 5 w.heap.size ([t] ++ Pk.le (BitVec.ofInt 64 z) K) w) := by
  have hcv := int_to_u64 z
  obtain ⟨x, hx⟩ : ∃ x, x = BitVec.ofInt 64 z := ⟨_, rfl⟩
  rw [← hx] at hcv ⊢
  have hL := Has.fresh w 5 (blist [t]).toArray
  have hB1 : Below w.heap.size w (w.alloc (.cells (blist [t]).toArray 5)) := (Below.refl _ _).alloc (Nat.le_refl _) _
  have HO := Lib.hid (ownB_of_has (B := w.heap.size) (n := 1) (Nat.le_refl _) hL rfl (by omega))
  have HB := Lib.hid hB1
  clear hL hB1 hx
  rcases hK with ⟨rfl, rfl, h1, h2⟩ | ⟨rfl, rfl, h1, h2⟩ | ⟨rfl, rfl, h1⟩
  case' inl => have hN := fun w => rnum_2 x w
  case' inr.inl => have hN := fun w => rnum_4 x w
  case' inr.inr => have hN := fun w => rnum_8 x w
  case' inl => have hz3 : z ≤ 65535 := h2
  case' inr.inl => have hz3 : ¬ (z ≤ 65535) := by omega
  case' inr.inr => have hz3 : ¬ (z ≤ 65535) := by omega
  case' inl => have hz4 : z ≤ 4294967295 := by omega
  case' inr.inl => have hz4 : z ≤ 4294967295 := by omega
  case' inr.inr => have hz4 : ¬ (z ≤ 4294967295) := by omega
  all_goals
    have hz1 : ¬ (z < 0) := by omega
    have hz2 : ¬ (z ≤ 252) := by omega
    have HN := Lib.hid hN
    clear hN h1
    try clear h2
    go_enter Tryz.func123, Tryz.ntmps123
  case inl =>
    go_wp2_with (first
      | (at_builtin; have ho2 := HO.out.below hb2; refine wpList_append_bytes rfl (.tmp 15) (.tmp 18) 116 rfl 5 Tryz.underlying116 info_byte w.heap.size _ _ rfl ho2 a2 2 c2 _ rfl hr2 hc2 (by simp) (Nat.le_trans HB.out.size hb2.size) ?_; intro v3 w3 ho3 hg3)
      | (go_at_call 125; refine (HN.out _).mono ?_; rintro e w2 ⟨v2, rfl, hv2, hb2⟩; obtain ⟨a2, c2, rfl, _, hc2, hr2⟩ := hv2.shape (Pk.le_len _ 2)))
    go_ret
    exact ⟨_, rfl, ho3, below_own_rowb (HB.out.trans (hb2.mono HB.out.size)) hg3 ho2.lt⟩
  case inr.inl =>
    go_wp2_with (first
      | (at_builtin; have ho2 := HO.out.below hb2; refine wpList_append_bytes rfl (.tmp 23) (.tmp 26) 116 rfl 5 Tryz.underlying116 info_byte w.heap.size _ _ rfl ho2 a2 4 c2 _ rfl hr2 hc2 (by simp) (Nat.le_trans HB.out.size hb2.size) ?_; intro v3 w3 ho3 hg3)
      | (go_at_call 125; refine (HN.out _).mono ?_; rintro e w2 ⟨v2, rfl, hv2, hb2⟩; obtain ⟨a2, c2, rfl, _, hc2, hr2⟩ := hv2.shape (Pk.le_len _ 4)))
    go_ret
    exact ⟨_, rfl, ho3, below_own_rowb (HB.out.trans (hb2.mono HB.out.size)) hg3 ho2.lt⟩
  case inr.inr =>
    go_wp2_with (first
      | (at_builtin; have ho2 := HO.out.below hb2; refine wpList_append_bytes rfl (.tmp 28) (.tmp 31) 116 rfl 5 Tryz.underlying116 info_byte w.heap.size _ _ rfl ho2 a2 8 c2 _ rfl hr2 hc2 (by simp) (Nat.le_trans HB.out.size hb2.size) ?_; intro v3 w3 ho3 hg3)
      | (go_at_call 125; refine (HN.out _).mono ?_; rintro e w2 ⟨v2, rfl, hv2, hb2⟩; obtain ⟨a2, c2, rfl, _, hc2, hr2⟩ := hv2.shape (Pk.le_len _ 8)))
    go_ret
    exact ⟨_, rfl, ho3, below_own_rowb (HB.out.trans (hb2.mono HB.out.size)) hg3 ho2.lt⟩
theorem rcount_any (z : Int) (w : World) : Calls Tryz.prog 123 #[.int .i64 z] w (BytesPost8 5 w.heap.size (Pk.count z) w) := by
  unfold Pk.count
  by_cases h0 : z < 0
  · rw [if_pos h0]
    go_enter Tryz.func123, Tryz.ntmps123
    go_wp2
    go_ret
    exact ⟨_, rfl, OwnB.nil _ _ _, Below.refl _ _⟩
  · rw [if_neg h0]
    by_cases h1 : z ≤ 252
    · rw [if_pos h1]
      have hcv := int_to_u64 z
      obtain ⟨x, hx⟩ : ∃ x, x = BitVec.ofInt 64 z := ⟨_, rfl⟩
      rw [← hx] at hcv ⊢
      clear hx
      have HN := Lib.hid (rnum_1 x w)
      go_enter Tryz.func123, Tryz.ntmps123
      go_wp2_with (go_at_call 125; refine HN.out.mono ?_; rintro e w2 ⟨v2, rfl, hv2, hb2⟩)
      go_ret
      exact ⟨_, rfl, hv2, hb2⟩
    · rw [if_neg h1]
      by_cases h2 : z ≤ 65535
      · rw [if_pos h2]
        exact rcount_big z _ 2 (.inl ⟨rfl, rfl, by omega, h2⟩) w
      · rw [if_neg h2]
        by_cases h3 : z ≤ 4294967295
        · rw [if_pos h3]
          exact rcount_big z _ 4 (.inr (.inl ⟨rfl, rfl, by omega, h3⟩)) w
        · rw [if_neg h3]
          exact rcount_big z _ 8 (.inr (.inr ⟨rfl, rfl, by omega⟩)) w
end Go.Proofs.YtagjolbpmhbifaaGreatDoor

/-! the reference's Text, Hash; strings -/
namespace Go.Proofs.YtagjolbpmhbifaaGreatDoor
open Go Go.RowKit Go.ChangeShapes Go.WideShapes
theorem strCells_strB (l : List (BitVec 8)) : Lib.strCells (strB l) = blist l := by
  unfold Lib.strCells strB strOfNums blist
  apply List.ext_getElem?
  intro i
  simp only [List.map_map, List.getElem?_map]
  cases l[i]? with
  | none => rfl
  | some x =>
    have hx := x.isLt
    show some (Value.int .u8 ((UInt8.ofNat (nb8 x).toNat).toNat : Int)) = some (Value.int .u8 (nb8 x))
    rw [show (nb8 x).toNat = x.toNat from rfl, UInt8.toNat_ofNat_of_lt' hx]
    rfl
set_option maxRecDepth 100000 in
set_option maxHeartbeats 4000000 in
theorem rtext_any (l : List (BitVec 8)) (hl : l.length ≤ 1000000) (w : World) : Calls Tryz.prog 126 #[.string (strB l)] w (BytesPost8 5 w.heap.size (Pk.text l) w) := by
  have hsz := strB_size l
  have HC := Lib.hid (rcount_any (l.length : Int) w)
  have HL := Lib.hid hl
  obtain ⟨n, hn⟩ : ∃ n, n = l.length := ⟨_, rfl⟩
  rw [← hn] at hsz HC
  have HN := Lib.hid hn
  clear hl hn
  go_enter Tryz.func126, Tryz.ntmps126
  go_wp2_with (first
    | (at_builtin; have hw2 := hv2; obtain ⟨i0, hi, hz0, hz1, hz2⟩ := info_parts info_byte; refine Lib.wpList_append_own_string _ rfl (.tmp 5) (.tmp 6) 116 9 rfl w.heap.size 5 i0 Tryz.underlying116 Tryz.underlying9 hi hz0 hz1 hz2 v2 _ _ rfl hw2 (strB l) rfl (by rw [strB_size]; have := Pk.count_le n; have := HL.out; unfold maxLen; omega) (by rw [strB_size]; have := Pk.count_le n; have := HL.out; omega) hb2.size ?_; intro v3 w3 ho3 hg3 _)
    | (go_at_call 123; refine HC.out.mono ?_; rintro e w2 ⟨v2, rfl, hv2, hb2⟩))
  go_ret
  refine ⟨_, rfl, ?_, below_own_rowb hb2 hg3 hw2.lt⟩
  rw [strCells_strB, strB_size] at ho3
  unfold Pk.text
  rw [← HN.out]
  exact OwnB.all rfl ho3
set_option maxRecDepth 100000 in
set_option maxHeartbeats 4000000 in
theorem rhash_any (l : List (BitVec 8)) (hl : l.length = 32) (w : World) :
    Calls Tryz.prog 124 #[.agg (blist l).toArray] w (BytesPost8 5 w.heap.size l w) := by
  have HL := Lib.hid hl
  clear hl
  go_enter Tryz.func124, Tryz.ntmps124
  go_wp2
  have hG : Has (w.alloc (.cells (blist l).toArray 30)) w.heap.size 30 (blist l).toArray := Has.fresh _ _ _
  have hB : Below w.heap.size w (w.alloc (.cells (blist l).toArray 30)) := (Below.refl _ _).alloc (Nat.le_refl _) _
  generalize (w.alloc (.cells (blist l).toArray 30)) = w0 at hG hB ⊢
  have hsz := Lib.hid hB.size
  go_loopw [3, 4] (fun bv iv wr => ∃ i : Nat, i ≤ 32 ∧ iv = .int .i64 i ∧ OwnB 5 w0.heap.size wr bv (l.take i) ∧ Below w0.heap.size w0 wr) (fun _ iv _ => 32 - (intOf iv).toNat)
  case atStart => exact ⟨0, Nat.zero_le _, rfl, OwnB.nil _ _ _, Below.refl _ _⟩
  case round =>
    obtain ⟨i, hi, rfl, ho, hb⟩ := hrel
    by_cases hlt : i < 32
    · have hG1 := hG.under hb hG.lt
      have hc : wr.cell? ⟨w.heap.size, i, none⟩ = some (.int .u8 (nb8 (cb l i))) := hG1.cell_at (by rw [List.getElem?_toArray]; exact blist_at l i (by rw [HL.out]; exact hlt))
      obtain ⟨b, hbb⟩ : ∃ b, b = cb l i := ⟨_, rfl⟩
      rw [← hbb] at hc
      have HX := Lib.hid (show l.take (i + 1) = l.take i ++ [b] by
        rw [hbb, List.take_succ_eq_append_getElem (by rw [HL.out]; exact hlt), cb, List.getD_eq_getElem?_getD, List.getElem?_eq_getElem (by rw [HL.out]; exact hlt)]
        rfl)
      have hle : (l.take i).length + 1 ≤ 1099511627776 := by rw [List.length_take]; omega
      have hi0 : (0 : Int) ≤ (i : Int) := by omega
      have hi1 : (i : Int) < 32 := by omega
      clear hbb
      go_wp2_with (first
        | (at_builtin; refine wpList_append_lit rfl (.tmp 9) (.tmp 13) 116 rfl 5 Tryz.underlying116 info_byte w0.heap.size _ (l.take i) rfl ho 1 [b] rfl #[.int .u8 (nb8 b)] rfl rfl hle hb.size ?_; intro v2 w2 h2 h3))
      go_roundw
      case rel => exact ⟨i + 1, by omega, by go_num, by rw [HX.out]; exact h2, below_lit8 hb ho h3⟩
      case measure => (simp [intOf]; try omega)
    · have hin : i = 32 := by omega
      subst hin
      have hii : ¬ (32 : Int) < 32 := by omega
      have hti : l.take 32 = l := List.take_of_length_le (by rw [HL.out]; exact Nat.le_refl _)
      rw [hti] at ho
      have HO := Lib.hid ho
      clear hti hi hlt ho
      go_wp2
      go_ret
      exact ⟨_, rfl, HO.out.low hsz.out, hB.trans (hb.mono hB.size)⟩
end Go.Proofs.YtagjolbpmhbifaaGreatDoor
