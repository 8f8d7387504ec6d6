/- the reference's turn, bytes, Word, Less -/
import Derived.Test.YtpbijcchdjppmaaDoorRows
import Derived.Test.YtpbijcchdjppmaaDoorDgM
import Derived.Test.YtpbijcchdjppmaaDoorLz
import Derived.Lib.Hide
import Derived.IntWalk
import Derived.Deep.Cut
import Derived.BigQuiet
import Derived.OwnWalk
import Derived.StillTailTactics
namespace Go.Proofs.YtpbijcchdjppmaaDoor
open Go Go.RowKit Go.ChangeShapes Go.WideShapes
theorem rturn_any (x : BitVec 32) (n : Nat) (z : Int) (hz : z = (n : Int)) (hn : n ≤ 32) (w : World) :
    Calls Tryd.prog 73 #[.int .u32 (nb32 x), .int .u64 z] w fun e w' => e = .returned (.int .u32 (nb32 (Dg.ror x n))) ∧ w = w' := by
  subst hz
  have h1 : IntKind.u64.wrap (32 - (n : Int)) = ((32 - n : Nat) : Int) := by
    rw [IntKind.wrap_u64]; omega
  go_enter Tryd.func73, Tryd.ntmps73
  go_wp2
  go_ret
  exact ⟨rfl, rfl⟩
theorem blist_take_snoc7 {l : List (BitVec 8)} {i : Nat} (h : i < l.length) : l.take (i + 1) = l.take i ++ [cb l i] := by
  rw [List.take_succ_eq_append_getElem h, cb, List.getD_eq_getElem?_getD, List.getElem?_eq_getElem h]
  rfl
theorem below_lit7 {w0 w w' : World} {T : TypeId} {cs : Array Value} {v : Value} {l : List (BitVec 8)} (hb : Below w0.heap.size w0 w) (ho : OwnB T w0.heap.size w v l) (hg : (w.alloc (.cells cs T)).grownBy w' v.ownBlock) : Below w0.heap.size w0 w' :=
  below_own_rowb (hb.alloc hb.size _) hg ho.lt
/-- as OwnB is answered -/
def BytesPost (T : TypeId) (B : Nat) (l : List (BitVec 8)) (w0 : World) (e : Ending) (w' : World) : Prop := ∃ v, e = .returned v ∧ OwnB T B w' v l ∧ Below w0.heap.size w0 w'
set_option maxRecDepth 100000 in
set_option maxHeartbeats 4000000 in
theorem rbytes_any (l : List (BitVec 8)) (hl : l.length = 32) (w : World) :
    Calls Tryd.prog 57 #[.agg (blist l).toArray] w (BytesPost 5 w.heap.size l w) := by
  have HL := Lib.hid hl
  clear hl
  go_enter Tryd.func57, Tryd.ntmps57
  go_wp2
  have hG : Has (w.alloc (.cells (blist l).toArray 32)) w.heap.size 32 (blist l).toArray := Has.fresh _ _ _
  have hB : Below w.heap.size w (w.alloc (.cells (blist l).toArray 32)) := (Below.refl _ _).alloc (Nat.le_refl _) _
  generalize (w.alloc (.cells (blist l).toArray 32)) = w0 at hG hB ⊢
  have hsz := Lib.hid hB.size
  go_loopw [3, 4] (fun bv iv wr => ∃ i : Nat, i ≤ 32 ∧ iv = .int .i64 i ∧ OwnB 5 w0.heap.size wr bv (l.take i) ∧ Below w0.heap.size w0 wr) (fun _ iv _ => 32 - (intOf iv).toNat)
  case atStart => exact ⟨0, Nat.zero_le _, rfl, OwnB.nil _ _ _, Below.refl _ _⟩
  case round =>
    obtain ⟨i, hi, rfl, ho, hb⟩ := hrel
    by_cases hlt : i < 32
    · have hil : i < (blist l).length := by rw [blist_length, HL.out]; exact hlt
      have hG1 := hG.under hb hG.lt
      have hc : wr.cell? ⟨w.heap.size, i, none⟩ = some (.int .u8 (nb8 (cb l i))) := hG1.cell_at (by rw [List.getElem?_toArray]; exact blist_at l i (by rw [HL.out]; exact hlt))
      obtain ⟨b, hbb⟩ : ∃ b, b = cb l i := ⟨_, rfl⟩
      rw [← hbb] at hc
      have HX := Lib.hid (show l.take (i + 1) = l.take i ++ [b] by rw [hbb]; exact blist_take_snoc7 (by rw [HL.out]; exact hlt))
      have hle : (l.take i).length + 1 ≤ 1099511627776 := by rw [List.length_take]; omega
      have hi0 : (0 : Int) ≤ (i : Int) := by omega
      have hi1 : (i : Int) < 32 := by omega
      clear hbb hil
      go_wp2_with (first
        | (at_builtin; refine wpList_append_lit rfl (.tmp 9) (.tmp 13) 29 rfl 5 Tryd.underlying29 info_byte w0.heap.size u3 (l.take i) rfl ho 1 [b] rfl #[.int .u8 (nb8 b)] rfl rfl hle hb.size ?_; intro v2 w2 h2 h3))
      go_roundw
      case rel => exact ⟨i + 1, by omega, by go_num, by rw [HX.out]; exact h2, below_lit7 hb ho h3⟩
      case measure => (simp [intOf]; try omega)
    · have hin : i = 32 := by omega
      subst hin
      have hii : ¬ (32 : Int) < 32 := by omega
      have hti : l.take 32 = l := List.take_of_length_le (by rw [HL.out]; exact Nat.le_refl _)
      rw [hti] at ho
      have HO := Lib.hid ho
      clear hti hi hlt ho
      go_wp2
      go_ret
      exact ⟨_, rfl, HO.out.low hsz.out, hB.trans (hb.mono hB.size)⟩
end Go.Proofs.YtpbijcchdjppmaaDoor
