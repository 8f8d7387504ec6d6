/- the reference's turn, bytes, Word, Less -/
import Derived.Test.YtopeicgcpfcccaaDoorRows
import Derived.Test.YtopeicgcpfcccaaDoorDgM
import Derived.Test.YtopeicgcpfcccaaDoorV
import Derived.Test.YtopeicgcpfcccaaDoorHa
import Derived.Lib.Hide
import Derived.IntWalk
import Derived.Deep.Cut
import Derived.BigQuiet
import Derived.OwnWalk
import Derived.StillTailTactics
namespace Go.Proofs.YtopeicgcpfcccaaDoor
open Go Go.RowKit Go.ChangeShapes Go.WideShapes
theorem rturn_any (x : BitVec 32) (n : Nat) (z : Int) (hz : z = (n : Int)) (hn : n ≤ 32) (w : World) :
    Calls Tryd.prog 22 #[.int .u32 (nb32 x), .int .u64 z] w fun e w' => e = .returned (.int .u32 (nb32 (Dg.ror x n))) ∧ w = w' := by
  subst hz
  have h1 : IntKind.u64.wrap (32 - (n : Int)) = ((32 - n : Nat) : Int) := by
    rw [IntKind.wrap_u64]; omega
  go_enter Tryd.func22, Tryd.ntmps22
  go_wp2
  go_ret
  exact ⟨rfl, rfl⟩
theorem blist_take_snoc7 {l : List (BitVec 8)} {i : Nat} (h : i < l.length) : l.take (i + 1) = l.take i ++ [cb l i] := by
  rw [List.take_succ_eq_append_getElem h, cb, List.getD_eq_getElem?_getD, List.getElem?_eq_getElem h]
  rfl
theorem below_lit7 {w0 w w' : World} {T : TypeId} {cs : Array Value} {v : Value} {l : List (BitVec 8)} (hb : Below w0.heap.size w0 w) (ho : OwnB T w0.heap.size w v l) (hg : (w.alloc (.cells cs T)).grownBy w' v.ownBlock) : Below w0.heap.size w0 w' :=
  below_own_rowb (hb.alloc hb.size _) hg ho.lt
/-- as OwnB is answered -/
def BytesPost (T : TypeId) (B : Nat) (l : List (BitVec 8)) (w0 : World) (e : Ending) (w' : World) : Prop := ∃ v, e = .returned v ∧ OwnB T B w' v l ∧ Below w0.heap.size w0 w'
set_option maxRecDepth 100000 in
set_option maxHeartbeats 4000000 in
theorem rbytes_any (l : List (BitVec 8)) (hl : l.length = 32) (w : World) :
    Calls Tryd.prog 23 #[.agg (blist l).toArray] w (BytesPost 5 w.heap.size l w) := by
  have HL := Lib.hid hl
  clear hl
  go_enter Tryd.func23, Tryd.ntmps23
  go_wp2
  have hG : Has (w.alloc (.cells (blist l).toArray 25)) w.heap.size 25 (blist l).toArray := Has.fresh _ _ _
  have hB : Below w.heap.size w (w.alloc (.cells (blist l).toArray 25)) := (Below.refl _ _).alloc (Nat.le_refl _) _
  generalize (w.alloc (.cells (blist l).toArray 25)) = w0 at hG hB ⊢
  have hsz := Lib.hid hB.size
  go_loopw [3, 4] (fun bv iv wr => ∃ i : Nat, i ≤ 32 ∧ iv = .int .i64 i ∧ OwnB 5 w0.heap.size wr bv (l.take i) ∧ Below w0.heap.size w0 wr) (fun _ iv _ => 32 - (intOf iv).toNat)
  case atStart => exact ⟨0, Nat.zero_le _, rfl, OwnB.nil _ _ _, Below.refl _ _⟩
  case round =>
    obtain ⟨i, hi, rfl, ho, hb⟩ := hrel
    by_cases hlt : i < 32
    · have hil : i < (blist l).length := by rw [blist_length, HL.out]; exact hlt
      have hG1 := hG.under hb hG.lt
      have hc : wr.cell? ⟨w.heap.size, i, none⟩ = some (.int .u8 (nb8 (cb l i))) := hG1.cell_at (by rw [List.getElem?_toArray]; exact blist_at l i (by rw [HL.out]; exact hlt))
      obtain ⟨b, hbb⟩ : ∃ b, b = cb l i := ⟨_, rfl⟩
      rw [← hbb] at hc
      have HX := Lib.hid (show l.take (i + 1) = l.take i ++ [b] by rw [hbb]; exact blist_take_snoc7 (by rw [HL.out]; exact hlt))
      have hle : (l.take i).length + 1 ≤ 1099511627776 := by rw [List.length_take]; omega
      have hi0 : (0 : Int) ≤ (i : Int) := by omega
      have hi1 : (i : Int) < 32 := by omega
      clear hbb hil
      go_wp2_with (first
        | (at_builtin; refine wpList_append_lit rfl (.tmp 9) (.tmp 13) 22 rfl 5 Tryd.underlying22 info_byte w0.heap.size u3 (l.take i) rfl ho 1 [b] rfl #[.int .u8 (nb8 b)] rfl rfl hle hb.size ?_; intro v2 w2 h2 h3))
      go_roundw
      case rel => exact ⟨i + 1, by omega, by go_num, by rw [HX.out]; exact h2, below_lit7 hb ho h3⟩
      case measure => (simp [intOf]; try omega)
    · have hin : i = 32 := by omega
      subst hin
      have hii : ¬ (32 : Int) < 32 := by omega
      have hti : l.take 32 = l := List.take_of_length_le (by rw [HL.out]; exact Nat.le_refl _)
      rw [hti] at ho
      have HO := Lib.hid ho
      clear hti hi hlt ho
      go_wp2
      go_ret
      exact ⟨_, rfl, HO.out.low hsz.out, hB.trans (hb.mono hB.size)⟩
set_option maxRecDepth 100000 in
set_option maxHeartbeats 4000000 in
theorem rword_any (l : List (BitVec 8)) (hl : l.length = 32) (w : World) :
    Calls Tryd.prog 14 #[.agg (blist l).toArray] w fun e w' => e = .returned (.int .u64 (nb64 (Dg.top l 8))) ∧ Below w.heap.size w w' := by
  have HL := Lib.hid hl
  clear hl
  go_enter Tryd.func14, Tryd.ntmps14
  go_wp2
  have hG : Has (w.alloc (.cells (blist l).toArray 25)) w.heap.size 25 (blist l).toArray := Has.fresh _ _ _
  have hB : Below w.heap.size w (w.alloc (.cells (blist l).toArray 25)) := (Below.refl _ _).alloc (Nat.le_refl _) _
  generalize (w.alloc (.cells (blist l).toArray 25)) = w0 at hG hB ⊢
  go_loop [3, 4] (fun xv iv => ∃ i : Nat, i ≤ 8 ∧ iv = .int .i64 i ∧ xv = .int .u64 (nb64 (Dg.top l i))) (fun _ iv => 8 - (intOf iv).toNat)
  case atStart => exact ⟨0, Nat.zero_le _, rfl, rfl⟩
  case round =>
    obtain ⟨i, hi, rfl, rfl⟩ := hrel
    by_cases hlt : i < 8
    · have hc : w0.cell? ⟨w.heap.size, i, none⟩ = some (.int .u8 (nb8 (cb l i))) := hG.cell_at (by rw [List.getElem?_toArray]; exact blist_at l i (by rw [HL.out]; omega))
      obtain ⟨b, hbb⟩ : ∃ b, b = cb l i := ⟨_, rfl⟩
      rw [← hbb] at hc
      have HX := Lib.hid (show Dg.top l (i + 1) = 256#64 * Dg.top l i + b.setWidth 64 by rw [hbb]; rfl)
      have hi0 : (0 : Int) ≤ (i : Int) := by omega
      have hi1 : (i : Int) < 32 := by omega
      have hi8 : (i : Int) < 8 := by omega
      clear hbb
      go_wp2_with fail
      go_round
      case rel => exact ⟨i + 1, by omega, by go_num, by rw [HX.out]⟩
      case measure => (simp [intOf]; try omega)
    · have hin : i = 8 := by omega
      subst hin
      go_wp2
      go_ret
      exact ⟨rfl, hB⟩
set_option maxRecDepth 100000 in
set_option maxHeartbeats 4000000 in
theorem rless_any (a b : List (BitVec 8)) (ha : a.length = 32) (hb : b.length = 32) (w : World) :
    Calls Tryd.prog 17 #[.agg (blist a).toArray, .agg (blist b).toArray] w fun e w' => e = .returned (.bool (decide (Dg.cmp a b = -1))) ∧ Below w.heap.size w w' := by
  have HL := Lib.hid (And.intro ha hb)
  clear ha hb
  go_enter Tryd.func17, Tryd.ntmps17
  go_wp2
  have hG : Has ((w.alloc (.cells (blist a).toArray 25)).alloc (.cells (blist b).toArray 25)) w.heap.size 25 (blist a).toArray := (Has.fresh _ _ _).past _
  have hH : Has ((w.alloc (.cells (blist a).toArray 25)).alloc (.cells (blist b).toArray 25)) (w.heap.size + 1) 25 (blist b).toArray := Has.fresh_at _ _ _ (by simp)
  have hB : Below w.heap.size w ((w.alloc (.cells (blist a).toArray 25)).alloc (.cells (blist b).toArray 25)) := ((Below.refl _ _).alloc (Nat.le_refl _) _).alloc (by simp) _
  generalize ((w.alloc (.cells (blist a).toArray 25)).alloc (.cells (blist b).toArray 25)) = w0 at hG hH hB ⊢
  go_loopw [5] (fun iv wr => ∃ i : Nat, i ≤ 32 ∧ iv = .int .i64 i ∧ Hid (Dg.cmp a b = Dg.cmp (a.drop i) (b.drop i)) ∧ Has wr w.heap.size 25 (blist a).toArray ∧ Has wr (w.heap.size + 1) 25 (blist b).toArray ∧ Below w.heap.size w wr) (fun iv _ => 32 - (intOf iv).toNat)
  case atStart => exact ⟨0, Nat.zero_le _, rfl, Lib.hid rfl, hG, hH, hB⟩
  case round =>
    clear hG hH hB
    obtain ⟨i, hi, rfl, HC, hG, hH, hB⟩ := hrel
    by_cases hlt : i < 32
    · have hc : ∀ n, (wr.drewN n).cell? ⟨w.heap.size, i, none⟩ = some (.int .u8 (nb8 (cb a i))) := fun n => (hG.draws n).cell_at (by rw [List.getElem?_toArray]; exact blist_at a i (by rw [HL.out.1]; exact hlt))
      have hd : ∀ n, (wr.drewN n).cell? ⟨w.heap.size + 1, i, none⟩ = some (.int .u8 (nb8 (cb b i))) := fun n => (hH.draws n).cell_at (by rw [List.getElem?_toArray]; exact blist_at b i (by rw [HL.out.2]; exact hlt))
      have HS := Lib.hid (Dg.cmp_drop (a := a) (b := b) (i := i) (by rw [HL.out.1]; exact hlt) (by rw [HL.out.2]; exact hlt))
      obtain ⟨x, hx⟩ : ∃ x, x = cb a i := ⟨_, rfl⟩
      obtain ⟨y, hy⟩ : ∃ y, y = cb b i := ⟨_, rfl⟩
      rw [← hx] at hc
      rw [← hy] at hd
      rw [← hx, ← hy] at HS
      have hc0 := hc 0
      have hd0 := hd 0
      have hi0 : (0 : Int) ≤ (i : Int) := by omega
      have hi1 : (i : Int) < 32 := by omega
      clear hx hy
      by_cases hxy : x = y
      · have hne : (nb8 x != nb8 y) = false := by rw [hxy]; simp
        have HE := Lib.hid hxy
        clear hxy
        go_wp2_with fail
        go_quiet (fail)
        go_wp2_with fail
        go_roundw
        case rel => exact ⟨i + 1, by omega, by go_num, Lib.hid (by rw [HC.out, HS.out, if_pos HE.out]), hG.draws _, hH.draws _, below_draws hB _⟩
        case measure => (simp [intOf]; try omega)
      · have hne : (nb8 x != nb8 y) = true := by simpa [u8_inj] using hxy
        have hlt8 : (nb8 x < nb8 y) = (x < y) := by rw [BitVec.lt_def]; simp [nb8]
        have HE := Lib.hid hxy
        clear hxy
        go_wp2_with fail
        go_quiet (fail)
        go_wp2_with fail
        generalize hz : World.drewN wr nq = wz
        have hB2 : Below w.heap.size w wz := by rw [← hz]; exact below_draws hB _
        have hc2 : ∀ n, (wz.drewN n).cell? ⟨w.heap.size, i, none⟩ = some (.int .u8 (nb8 x)) := fun n => by rw [← hz]; exact hc0
        have hd2 : ∀ n, (wz.drewN n).cell? ⟨w.heap.size + 1, i, none⟩ = some (.int .u8 (nb8 y)) := fun n => by rw [← hz]; exact hd0
        have hc3 : wz.cell? ⟨w.heap.size, i, none⟩ = some (.int .u8 (nb8 x)) := hc2 0
        have hd3 : wz.cell? ⟨w.heap.size + 1, i, none⟩ = some (.int .u8 (nb8 y)) := hd2 0
        clear hz
        go_quiet (fail)
        go_wp2_with fail
        go_ret
        refine ⟨?_, below_draws hB2 _⟩
        rw [HC.out, HS.out, if_neg HE.out]
        by_cases h : x < y
        · simp [h]
        · simp [h]
    · have hin : i = 32 := by omega
      subst hin
      have HZ := Lib.hid (Dg.cmp_end (a := a) (b := b) (i := 32) (by rw [HL.out.1]; exact Nat.le_refl _))
      go_wp2
      go_ret
      exact ⟨by rw [HC.out, HZ.out]; rfl, hB⟩
end Go.Proofs.YtopeicgcpfcccaaDoor
