/- locks and seals: what they are; the reference's Lock, Seal -/
import Derived.Test.YtcedecljbgailaaDoorLz
import Derived.Test.YtcedecljbgailaaDoorTxM
import Derived.Test.YtcedecljbgailaaDoorDgS
import Derived.Test.YtcedecljbgailaaDoorPkr
namespace Go.Proofs.YtcedecljbgailaaDoor
open Go Go.RowKit Go.ChangeShapes Go.WideShapes
namespace Lk
def lockOf (key : List (BitVec 8)) : BitVec 64 := Dg.top (Dg.sum key) 8
def sealOf (key id : List (BitVec 8)) : BitVec 64 := Dg.top (Dg.sum (key ++ id)) 8
/-- does a spend open a coin? -/
def opens (s : Tx.Sp) (c : Tx.Co) (id : List (BitVec 8)) : Bool := decide (lockOf s.key = c.lock ∧ sealOf s.key id = s.sl)
end Lk
set_option maxRecDepth 100000 in
set_option maxHeartbeats 4000000 in
theorem rlock_any (key : List (BitVec 8)) (w : World) (hk : key.length ≤ 10000) (hT : Tab32 w 1 Dg.kL) :
    Calls Tryd.prog 8 #[.string (strB key)] w fun e w' => e = .returned (.int .u64 (nb64 (Lk.lockOf key))) ∧ Below w.heap.size w w' := by
  obtain ⟨k, hkl⟩ : ∃ k, k = key.length := ⟨_, rfl⟩
  obtain ⟨W1, hW1⟩ : ∃ x, x = Lib.bytesWorld w 5 (strB key) := ⟨_, rfl⟩
  have hb1 : Below w.heap.size w W1 := by rw [hW1]; exact conv_below w _ _
  have hrow := conv_row w 5 key (by omega)
  rw [← hW1] at hrow
  have hrun := Lib.run_convert_string_bytes (P := Tryd.prog) w 9 58 5 (strB key) Tryd.underlying9 Tryd.underlying58 Tryd.underlying5
  rw [← hW1, strB_size] at hrun
  obtain ⟨v, hv⟩ : ∃ v : Value, v = .slice (some ⟨w.heap.size, 0, none⟩) key.length (grownCap w key.length 0 5) := ⟨_, rfl⟩
  rw [← hv] at hrun hrow
  obtain ⟨g, c, rfl, hc, _, hB⟩ := hrow.shape hkl.symm
  have HB := Lib.hid hB
  have HR := Lib.hid hrun
  have HK := Lib.hid (show k ≤ 10000 by omega)
  have HT := Lib.hid (hT.below hb1)
  have HX := Lib.hid (show Lk.lockOf key = Dg.top (Dg.sum key) 8 from rfl)
  clear hrow hrun hv hB hT hkl hW1
  go_enter Tryd.func8, Tryd.ntmps8
  go_wp2_with (first
    | (go_at_call 25; refine (rword_any (Dg.sum key) (Dg.sum_len key) w2).mono ?_; rintro e w3 ⟨rfl, hb3⟩)
    | (go_at_call 26; refine (rsum_any (some ⟨g, 0, none⟩) k c key W1 HB.out (by have := HK.out; omega) (fun e => by cases e) HT.out).mono ?_; rintro e w2 ⟨rfl, hb2⟩)
    | (refine wpList_convert_run rfl 9 58 (.tmp 3) rfl _ _ rfl HR.out ?_))
  go_ret
  exact ⟨by rw [HX.out]; rfl, hb1.trans ((hb2.trans (hb3.mono hb2.size)).mono hb1.size)⟩
set_option maxRecDepth 100000 in
set_option maxHeartbeats 4000000 in
theorem rseal_any (key id : List (BitVec 8)) (w : World) (hk : key.length ≤ 10000) (hid : id.length = 32) (hT : Tab32 w 1 Dg.kL) :
    Calls Tryd.prog 10 #[.string (strB key), .agg (blist id).toArray] w fun e w' => e = .returned (.int .u64 (nb64 (Lk.sealOf key id))) ∧ Below w.heap.size w w' := by
  obtain ⟨W0, hW0⟩ : ∃ x, x = w.alloc (.cells (blist id).toArray 23) := ⟨_, rfl⟩
  have hb0 : Below w.heap.size w W0 := by rw [hW0]; exact (Below.refl _ w).alloc (Nat.le_refl _) _
  have hX : Has W0 w.heap.size 23 (blist id).toArray := by rw [hW0]; exact Has.fresh _ _ _
  have HW := Lib.hid hW0
  obtain ⟨k, hkl⟩ : ∃ k, k = key.length := ⟨_, rfl⟩
  obtain ⟨W1, hW1⟩ : ∃ x, x = Lib.bytesWorld W0 5 (strB key) := ⟨_, rfl⟩
  have hb1 : Below W0.heap.size W0 W1 := by rw [hW1]; exact conv_below W0 _ _
  have hrow := conv_row W0 5 key (by omega)
  rw [← hW1] at hrow
  have hrun := Lib.run_convert_string_bytes (P := Tryd.prog) W0 9 58 5 (strB key) Tryd.underlying9 Tryd.underlying58 Tryd.underlying5
  rw [← hW1, strB_size] at hrun
  obtain ⟨v, hv⟩ : ∃ v : Value, v = .slice (some ⟨W0.heap.size, 0, none⟩) key.length (grownCap W0 key.length 0 5) := ⟨_, rfl⟩
  rw [← hv] at hrun hrow
  have lH : (Instr.loadAt 23 (.pointer (some ⟨w.heap.size, 0, none⟩))).run Tryd.prog W1 = .ok (.agg (blist id).toArray) W1 := (hX.under hb1 hX.lt).load_agg (P := Tryd.prog) (t := 23) Tryd.underlying23 rfl (size_hash' hid)
  have hB1 := hb0.trans (hb1.mono hb0.size)
  have HRow := Lib.hid hrow
  have HR := Lib.hid hrun
  have HK := Lib.hid (And.intro hk hid)
  have HT := Lib.hid (hT.below hb0)
  have HX := Lib.hid (show Lk.sealOf key id = Dg.top (Dg.sum (key ++ id)) 8 ∧ key.length = k from ⟨rfl, hkl.symm⟩)
  have hlo : W0.heap.size ≤ W1.heap.size := hb1.size
  clear hrow hrun hv hT hkl hW1 hX hW0 hk
  go_enter Tryd.func10, Tryd.ntmps10
  go_upto_region 1 with fail
  rw [← HW.out]
  go_wp2_with (first
    | (go_at_call 25; refine (rword_any (Dg.sum (key ++ id)) (Dg.sum_len _) w5).mono ?_; rintro e w6 ⟨rfl, hb6⟩)
    | (go_at_call 26; refine (rsum_any (some y4) (key.length + 32) c4 (key ++ id) w4 hy4 (by have := HK.out.1; omega) (fun e => by cases e) (HT.out.below h04)).mono ?_; rintro e w5 ⟨rfl, hb5⟩)
    | (at_builtin; refine wpList_append_conv rfl (.tmp 6) (.tmp 8) 58 5 rfl Tryd.underlying58 info_byte rfl (HRow.out.below hb2) (Nat.le_trans hlo hb2.size) ad2 32 c2 id rfl hy2 (by have := HK.out.1; omega) ?_; intro y4 c4 w4 hy4 hc4 hb4; have h04 := (hb1.trans (hb2.mono hb1.size)).trans hb4)
    | (go_at_call 27; refine (rhash_any id HK.out.2 W1).mono ?_; rintro e w2 ⟨v2, rfl, ho2, hb2⟩; obtain ⟨o2, c2, rfl, hc2, h02, hy2⟩ := ho2.shape HK.out.2; obtain ⟨ad2, ho2e, _⟩ := hy2.2.2 0 (by omega); subst ho2e)
    | (refine wpList_load_run rfl 23 (.tmp 3) rfl _ _ rfl lH ?_)
    | (refine wpList_convert_run rfl 9 58 (.tmp 5) rfl _ _ rfl HR.out ?_))
  go_ret
  have h06 := h04.trans ((hb5.trans (hb6.mono hb5.size)).mono h04.size)
  exact ⟨by rw [HX.out.1]; rfl, hb0.trans (h06.mono hb0.size)⟩
end Go.Proofs.YtcedecljbgailaaDoor
