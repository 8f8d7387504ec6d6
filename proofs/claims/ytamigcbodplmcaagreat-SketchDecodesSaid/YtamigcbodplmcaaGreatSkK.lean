/- the reference's Bytes and Sums -/
import Derived.Test.YtamigcbodplmcaaGreatSkM
import Derived.Test.YtamigcbodplmcaaGreatSt
import Derived.OwnWalk
namespace Go.Proofs.YtamigcbodplmcaaGreat
open Go Go.RowKit Go.ChangeShapes Go.WideShapes
set_option maxRecDepth 100000 in
set_option maxHeartbeats 4000000 in
theorem rbytes5_any (a : Option Addr) (n c : Nat) (l : List (BitVec 32)) (w : World) (h : Words32 w a n l) (hn : n ≤ 1000) :
    Calls Tryz.prog 6 #[.slice a n c] w fun e w' => (∃ v, e = .returned v ∧ OwnB 5 w.heap.size w' v (bytes8 l)) ∧ Below w.heap.size w w' := by
  have hl := h.1
  go_enter Tryz.func6, Tryz.ntmps6
  go_wp2
  go_loopw [3, 4] (fun vo iv wr => ∃ i : Nat, i ≤ n ∧ iv = .int .i64 i ∧ OwnB 5 w.heap.size wr vo (bytes8 (l.take i)) ∧ Below w.heap.size w wr) (fun _ iv _ => n - (intOf iv).toNat)
  case atStart => exact ⟨0, Nat.zero_le _, rfl, OwnB.nil _ _ _, Below.refl _ _⟩
  case round =>
    obtain ⟨i, hi, rfl, ho, hb⟩ := hrel
    by_cases hlt : i < n
    · obtain ⟨ad, rfl, hx⟩ := h.2.2 i hlt
      have hlt0 := isSome_lt (w := w) (p := ad.add i) (by rw [hx]; rfl)
      have hx2 := (hb.cell hlt0).trans hx
      obtain ⟨x, hxe⟩ : ∃ x, x = l.getD i 0 := ⟨_, rfl⟩
      rw [← hxe] at hx2
      have HX : RowKit.Hid (bytes8 (l.take (i + 1)) = bytes8 (l.take i) ++ by4 x) := Lib.hid (by rw [hxe]; exact bytes8_snoc (by omega))
      have hle : (bytes8 (l.take i)).length + 4 ≤ 1099511627776 := by rw [bytes8_length, List.length_take]; omega
      have hcs : #[.int .u8 (nb8 ((x % 256#32).setWidth 8)), .int .u8 (nb8 ((x / 256#32 % 256#32).setWidth 8)), .int .u8 (nb8 ((x / 65536#32 % 256#32).setWidth 8)), .int .u8 (nb8 ((x / 16777216#32).setWidth 8))] = (blist (by4 x)).toArray := by rw [by4_div]; rfl
      have hbD := hb.drew
      have hoD : OwnB 5 w.heap.size wr.drew u3 (bytes8 (l.take i)) := ho
      have hi0 : (0 : Int) ≤ (i : Int) := by omega
      have hin : (i : Int) < (n : Int) := by omega
      have hK : ∀ o w2, (wr.drew.alloc o).grownBy w2 u3.ownBlock → w2.cell? (ad.add i) = some (.int .u32 (nb32 x)) := fun o w2 hg =>
        ((below_own_row (hbD.alloc hbD.size o) hg ho.lt).cell hlt0).trans (by rw [hx, hxe])
      have HCS := Lib.hid hcs
      have HK := Lib.hid hK
      clear hxe hcs hK hx
      go_wp2_with fail
      go_region_held3 (fun w' => w'.cell? (ad.add i) = some (.int .u32 (nb32 x))) (first | (exact HK.out _ _ (by assumption)) | go_keep)
        ((refine step_append_lit rfl (.tmp 11) (.tmp 38) 29 rfl 5 Tryz.underlying29 info_byte w.heap.size u3 (bytes8 (l.take i)) (by simp [Act.eval]) hoD 4 (by4 x) rfl _ HCS.out _ rfl (by simp [Act.eval]) hle hbD.size ?_; intro v' w2 h2 h3))
      all_goals
        (go_wp2
         go_roundw
         case rel => exact ⟨i + 1, by omega, by go_num, by rw [HX.out]; exact h2, below_own_row (hbD.alloc hbD.size _) h3 ho.lt⟩
         case measure => (simp [intOf]; try omega))
    · have hii : ¬ (i : Int) < (n : Int) := by omega
      have hti : l.take i = l := List.take_of_length_le (by omega)
      rw [hti] at ho
      clear hti
      go_wp2
      go_ret
      exact ⟨⟨_, rfl, ho⟩, hb⟩
end Go.Proofs.YtamigcbodplmcaaGreat
