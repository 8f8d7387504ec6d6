/- the reference's Text, Hash; strings -/
import Derived.Test.YtpbijcchdjppmaaDoorLz
import Derived.Test.YtpbijcchdjppmaaDoorPkC
namespace Go.Proofs.YtpbijcchdjppmaaDoor
open Go Go.RowKit Go.ChangeShapes Go.WideShapes
theorem strCells_strB (l : List (BitVec 8)) : Lib.strCells (strB l) = blist l := by
  unfold Lib.strCells strB strOfNums blist
  apply List.ext_getElem?
  intro i
  simp only [List.map_map, List.getElem?_map]
  cases l[i]? with
  | none => rfl
  | some x =>
    have hx := x.isLt
    show some (Value.int .u8 ((UInt8.ofNat (nb8 x).toNat).toNat : Int)) = some (Value.int .u8 (nb8 x))
    rw [show (nb8 x).toNat = x.toNat from rfl, UInt8.toNat_ofNat_of_lt' hx]
    rfl
set_option maxRecDepth 100000 in
set_option maxHeartbeats 4000000 in
theorem rtext_any (l : List (BitVec 8)) (hl : l.length ≤ 1000000) (w : World) : Calls Tryd.prog 54 #[.string (strB l)] w (BytesPost8 5 w.heap.size (Pk.text l) w) := by
  have hsz := strB_size l
  have HC := Lib.hid (rcount_any (l.length : Int) w)
  have HL := Lib.hid hl
  obtain ⟨n, hn⟩ : ∃ n, n = l.length := ⟨_, rfl⟩
  rw [← hn] at hsz HC
  have HN := Lib.hid hn
  clear hl hn
  go_enter Tryd.func54, Tryd.ntmps54
  go_wp2_with (first
    | (at_builtin; have hw2 := hv2; obtain ⟨i0, hi, hz0, hz1, hz2⟩ := info_parts info_byte; refine Lib.wpList_append_own_string _ rfl (.tmp 5) (.tmp 6) 29 9 rfl w.heap.size 5 i0 Tryd.underlying29 Tryd.underlying9 hi hz0 hz1 hz2 v2 _ _ rfl hw2 (strB l) rfl (by rw [strB_size]; have := Pk.count_le n; have := HL.out; unfold maxLen; omega) (by rw [strB_size]; have := Pk.count_le n; have := HL.out; omega) hb2.size ?_; intro v3 w3 ho3 hg3 _)
    | (go_at_call 51; refine HC.out.mono ?_; rintro e w2 ⟨v2, rfl, hv2, hb2⟩))
  go_ret
  refine ⟨_, rfl, ?_, below_own_rowb hb2 hg3 hw2.lt⟩
  rw [strCells_strB, strB_size] at ho3
  unfold Pk.text
  rw [← HN.out]
  exact OwnB.all rfl ho3
set_option maxRecDepth 100000 in
set_option maxHeartbeats 4000000 in
theorem rhash_any (l : List (BitVec 8)) (hl : l.length = 32) (w : World) :
    Calls Tryd.prog 52 #[.agg (blist l).toArray] w (BytesPost8 5 w.heap.size l w) := by
  have HL := Lib.hid hl
  clear hl
  go_enter Tryd.func52, Tryd.ntmps52
  go_wp2
  have hG : Has (w.alloc (.cells (blist l).toArray 32)) w.heap.size 32 (blist l).toArray := Has.fresh _ _ _
  have hB : Below w.heap.size w (w.alloc (.cells (blist l).toArray 32)) := (Below.refl _ _).alloc (Nat.le_refl _) _
  generalize (w.alloc (.cells (blist l).toArray 32)) = w0 at hG hB ⊢
  have hsz := Lib.hid hB.size
  go_loopw [3, 4] (fun bv iv wr => ∃ i : Nat, i ≤ 32 ∧ iv = .int .i64 i ∧ OwnB 5 w0.heap.size wr bv (l.take i) ∧ Below w0.heap.size w0 wr) (fun _ iv _ => 32 - (intOf iv).toNat)
  case atStart => exact ⟨0, Nat.zero_le _, rfl, OwnB.nil _ _ _, Below.refl _ _⟩
  case round =>
    obtain ⟨i, hi, rfl, ho, hb⟩ := hrel
    by_cases hlt : i < 32
    · have hG1 := hG.under hb hG.lt
      have hc : wr.cell? ⟨w.heap.size, i, none⟩ = some (.int .u8 (nb8 (cb l i))) := hG1.cell_at (by rw [List.getElem?_toArray]; exact blist_at l i (by rw [HL.out]; exact hlt))
      obtain ⟨b, hbb⟩ : ∃ b, b = cb l i := ⟨_, rfl⟩
      rw [← hbb] at hc
      have HX := Lib.hid (show l.take (i + 1) = l.take i ++ [b] by
        rw [hbb, List.take_succ_eq_append_getElem (by rw [HL.out]; exact hlt), cb, List.getD_eq_getElem?_getD, List.getElem?_eq_getElem (by rw [HL.out]; exact hlt)]
        rfl)
      have hle : (l.take i).length + 1 ≤ 1099511627776 := by rw [List.length_take]; omega
      have hi0 : (0 : Int) ≤ (i : Int) := by omega
      have hi1 : (i : Int) < 32 := by omega
      clear hbb
      go_wp2_with (first
        | (at_builtin; refine wpList_append_lit rfl (.tmp 9) (.tmp 13) 29 rfl 5 Tryd.underlying29 info_byte w0.heap.size _ (l.take i) rfl ho 1 [b] rfl #[.int .u8 (nb8 b)] rfl rfl hle hb.size ?_; intro v2 w2 h2 h3))
      go_roundw
      case rel => exact ⟨i + 1, by omega, by go_num, by rw [HX.out]; exact h2, below_lit8 hb ho h3⟩
      case measure => (simp [intOf]; try omega)
    · have hin : i = 32 := by omega
      subst hin
      have hii : ¬ (32 : Int) < 32 := by omega
      have hti : l.take 32 = l := List.take_of_length_le (by rw [HL.out]; exact Nat.le_refl _)
      rw [hti] at ho
      have HO := Lib.hid ho
      clear hti hi hlt ho
      go_wp2
      go_ret
      exact ⟨_, rfl, HO.out.low hsz.out, hB.trans (hb.mono hB.size)⟩
end Go.Proofs.YtpbijcchdjppmaaDoor
