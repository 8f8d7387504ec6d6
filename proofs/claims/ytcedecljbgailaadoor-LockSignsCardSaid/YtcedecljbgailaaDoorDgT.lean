/- the reference's Double, Tree -/
import Derived.Test.YtcedecljbgailaaDoorDgS
import Derived.Test.YtcedecljbgailaaDoorDgB
import Derived.Test.YtcedecljbgailaaDoorLz
namespace Go.Proofs.YtcedecljbgailaaDoor
open Go Go.RowKit Go.ChangeShapes Go.WideShapes
set_option maxRecDepth 100000 in
set_option maxHeartbeats 4000000 in
theorem rdouble_any (ad : Option Addr) (n cp : Nat) (l : List (BitVec 8)) (w : World) (hw : Bytes8 w ad n l) (hn : n ≤ 1000000) (hc0 : ad = none → cp = 0) (hT : Tab32 w 1 Dg.kL) :
    Calls Tryd.prog 38 #[.slice ad n cp] w fun e w' => e = .returned (.agg (blist (Dg.double l)).toArray) ∧ Below w.heap.size w w' := by
  go_enter Tryd.func38, Tryd.ntmps38
  go_upto_region 1 with fail
  obtain ⟨w0, hw0⟩ : ∃ x, x = w.alloc (.cells z32 23) := ⟨_, rfl⟩
  rw [← hw0]
  have hR0 : Has w0 w.heap.size 23 z32 := by rw [hw0]; exact Has.fresh _ _ _
  have hB0 : Below w.heap.size w w0 := by rw [hw0]; exact (Below.refl _ _).alloc (Nat.le_refl _) _
  have hT0 := hT.below hB0
  clear hw0
  have hsz := size_hash' (Dg.double_len l)
  have hone := one_hash (Dg.double l)
  have HT := Lib.hid (And.intro hsz hone)
  clear hsz hone
  go_wp2_with (first
    | (refine wpList_store_mid rfl 23 (.tmp 2) (.tmp 6) rfl w.heap.size 0 (blist (Dg.double l)).toArray rfl rfl hth HT.out.1 HT.out.2 ?_)
    | (go_at_call 26; refine (rsum_any a2 32 c2 (Dg.sum l) w2 hby2 (by omega) hc2 hT2).mono ?_; rintro e w3 ⟨rfl, hb3⟩; have hR3 := hR2.under hb3 hR2.lt; have hB3 := hB2.trans (hb3.mono hB2.size); have hth := hR3.there 0 (blist (Dg.double l)).toArray.size (by rw [List.size_toArray, blist_length, Dg.double_len]; decide))
    | (go_at_call 46; refine (rbytes_any (Dg.sum l) (Dg.sum_len l) w1).mono ?_; rintro e w2 ⟨v2, rfl, ho2, hb2⟩; obtain ⟨a2, c2, rfl, _, hc2, hby2⟩ := ho2.shape (Dg.sum_len l); have hR2 := hR1.under hb2 hR1.lt; have hB2 := hB1.trans (hb2.mono hB1.size); have hT2 := hT1.below hb2)
    | (go_at_call 26; refine (rsum_any ad n cp l w0 (hw.below hB0) hn hc0 hT0).mono ?_; rintro e w1 ⟨rfl, hb1⟩; have hR1 := hR0.under hb1 hR0.lt; have hB1 := hB0.trans (hb1.mono hB0.size); have hT1 := hT0.below hb1))
  have hE := hR3.whole (l := Dg.double l) (by rw [Dg.double_len]; rfl)
  have hS := size_hash (Dg.double_len l)
  exact bodyPost_ret (results_one_cell rfl _ _ w.heap.size rfl _ (run_loadVar_mid _ _ 0 23 _ _ hE.range Tryd.underlying23 rfl hS)) rfl ⟨rfl, below_setAll (Nat.le_refl _) _ 0 hB3⟩
theorem z32_tree : z32 = (blist (Dg.tree [])).toArray := by rfl
end Go.Proofs.YtcedecljbgailaaDoor
