/- the reference's Short, Joint -/
import Derived.Test.YtenoholdealphaaSiH
import Derived.Deep.RegionLaw
import Derived.OwnWalk
namespace Go.Proofs.Ytenoholdealphaa
open Go Go.RowKit Go.ChangeShapes Go.WideShapes
theorem blist_take_snoc {l : List (BitVec 8)} {i : Nat} (h : i < l.length) : l.take (i + 1) = l.take i ++ [cb l i] := by
  rw [List.take_succ_eq_append_getElem h, cb, List.getD_eq_getElem?_getD, List.getElem?_eq_getElem h]
  rfl
theorem below_lit {w0 w w' : World} {T : TypeId} {cs : Array Value} {v : Value} {l : List (BitVec 8)} (hb : Below w0.heap.size w0 w) (ho : OwnB T w0.heap.size w v l) (hg : (w.alloc (.cells cs T)).grownBy w' v.ownBlock) : Below w0.heap.size w0 w' :=
  below_own_rowb (hb.alloc hb.size _) hg ho.lt
set_option maxRecDepth 100000 in
set_option maxHeartbeats 4000000 in
theorem sshort_any (k0 k1 : BitVec 64) (l : List (BitVec 8)) (hl : l.length = 32) (w : World) :
    Calls Try.prog 10 #[.agg #[.int .u64 (nb64 k0), .int .u64 (nb64 k1)], .agg (blist l).toArray] w fun e w' => e = .returned (.int .u32 (nb32 (Si.short k0 k1 l))) ∧ Below w.heap.size w w' := by
  have HL := Lib.hid hl
  clear hl
  go_enter Try.func10, Try.ntmps10
  go_wp2
  have hS : Has ((w.alloc (.cells #[.int .u64 (nb64 k0), .int .u64 (nb64 k1)] 29)).alloc (.cells (blist l).toArray 34)) w.heap.size 29 #[.int .u64 (nb64 k0), .int .u64 (nb64 k1)] := (Has.fresh w _ _).past _
  have hG : Has ((w.alloc (.cells #[.int .u64 (nb64 k0), .int .u64 (nb64 k1)] 29)).alloc (.cells (blist l).toArray 34)) (w.heap.size + 1) 34 (blist l).toArray := Has.fresh_at _ _ _ (by simp)
  have hB : Below w.heap.size w ((w.alloc (.cells #[.int .u64 (nb64 k0), .int .u64 (nb64 k1)] 29)).alloc (.cells (blist l).toArray 34)) := ((Below.refl _ _).alloc (Nat.le_refl _) _).alloc (by simp) _
  have hz : w.heap.size + 2 = ((w.alloc (.cells #[.int .u64 (nb64 k0), .int .u64 (nb64 k1)] 29)).alloc (.cells (blist l).toArray 34)).heap.size := by simp
  generalize ((w.alloc (.cells #[.int .u64 (nb64 k0), .int .u64 (nb64 k1)] 29)).alloc (.cells (blist l).toArray 34)) = w0 at hS hG hB hz ⊢
  have HZ := Lib.hid hz
  clear hz
  go_loopw [5, 6] (fun bv iv wr => ∃ i : Nat, i ≤ 32 ∧ iv = .int .i64 i ∧ OwnB 5 w0.heap.size wr bv (l.take i) ∧ Below w0.heap.size w0 wr) (fun _ iv _ => 32 - (intOf iv).toNat)
  case atStart => exact ⟨0, Nat.zero_le _, rfl, OwnB.nil _ _ _, Below.refl _ _⟩
  case round =>
    obtain ⟨i, hi, rfl, ho, hb⟩ := hrel
    by_cases hlt : i < 32
    · have hil : i < (blist l).length := by rw [blist_length, HL.out]; exact hlt
      have hG1 := hG.under hb hG.lt
      have hc : wr.cell? ⟨w.heap.size + 1, i, none⟩ = some (.int .u8 (nb8 (cb l i))) := hG1.cell_at (by rw [List.getElem?_toArray]; exact blist_at l i (by rw [HL.out]; exact hlt))
      obtain ⟨b, hbb⟩ : ∃ b, b = cb l i := ⟨_, rfl⟩
      rw [← hbb] at hc
      have HX := Lib.hid (show l.take (i + 1) = l.take i ++ [b] by rw [hbb]; exact blist_take_snoc (by rw [HL.out]; exact hlt))
      have hle : (l.take i).length + 1 ≤ 1099511627776 := by rw [List.length_take]; omega
      have hi0 : (0 : Int) ≤ (i : Int) := by omega
      have hi1 : (i : Int) < 32 := by omega
      clear hbb hil
      go_wp2_with (first
        | (at_builtin; refine wpList_append_lit rfl (.tmp 11) (.tmp 15) 23 rfl 5 Try.underlying23 info_byte w0.heap.size u5 (l.take i) rfl ho 1 [b] rfl #[.int .u8 (nb8 b)] rfl rfl hle hb.size ?_; intro v2 w2 h2 h3))
      go_roundw
      case rel => exact ⟨i + 1, by omega, by go_num, by rw [HX.out]; exact h2, below_lit hb ho h3⟩
      case measure => (simp [intOf]; try omega)
    · have hin : i = 32 := by omega
      subst hin
      have hii : ¬ (32 : Int) < 32 := by omega
      have hti : l.take 32 = l := List.take_of_length_le (by rw [HL.out]; exact Nat.le_refl _)
      rw [hti] at ho
      obtain ⟨ad, cp, rfl, _, _, hbw⟩ := ho.shape HL.out
      have hS1 := hS.under hb hS.lt
      have s0 : wr.cell? ⟨w.heap.size, 0, none⟩ = some (.int .u64 (nb64 k0)) := hS1.cell_at rfl
      have s1 : wr.cell? ⟨w.heap.size, 1, none⟩ = some (.int .u64 (nb64 k1)) := hS1.cell_at rfl
      have hT := hB.trans (hb.mono hB.size)
      clear hti hi hlt
      go_wp2_with (first
        | (go_at_call 9; refine (shash_any k0 k1 ad 32 cp l wr hbw (by omega)).mono ?_; rintro e w3 ⟨rfl, hb3⟩))
      go_ret
      exact ⟨rfl, hT.trans (hb3.mono hT.size)⟩
end Go.Proofs.Ytenoholdealphaa
