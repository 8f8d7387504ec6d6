/- package lock: Lock, Seal, where they are Word of Sum of the key's bytes (and the id's, as a second part) -/
import Derived.Test.YtcedecljbgailaaDoorLkP
import Derived.Test.YtcedecljbgailaaDoorDgQ
import Derived.Test.YtcedecljbgailaaDoorDgJ
namespace Go.Proofs.YtcedecljbgailaaDoor
open Go Go.RowKit Go.ChangeShapes Go.WideShapes
set_option maxRecDepth 100000 in
set_option maxHeartbeats 4000000 in
theorem plock_any (key : List (BitVec 8)) (w : World) (hK : KDg w) (hk : key.length ≤ 10000) :
    Calls Tryd.prog 7 #[.string (strB key)] w fun e w' => e = .returned (.int .u64 (nb64 (Lk.lockOf key))) ∧ Below w.heap.size w w' := by
  obtain ⟨k, hkl⟩ : ∃ k, k = key.length := ⟨_, rfl⟩
  obtain ⟨W1, hW1⟩ : ∃ x, x = Lib.bytesWorld w 5 (strB key) := ⟨_, rfl⟩
  have hb1 : Below w.heap.size w W1 := by rw [hW1]; exact conv_below w _ _
  have hrow := conv_row w 5 key (by omega)
  rw [← hW1] at hrow
  have hrun := Lib.run_convert_string_bytes (P := Tryd.prog) w 9 58 5 (strB key) Tryd.underlying9 Tryd.underlying58 Tryd.underlying5
  rw [← hW1, strB_size] at hrun
  obtain ⟨v, hv⟩ : ∃ v : Value, v = .slice (some ⟨w.heap.size, 0, none⟩) key.length (grownCap w key.length 0 5) := ⟨_, rfl⟩
  rw [← hv] at hrun hrow
  obtain ⟨g, c, rfl, hc, _, hB⟩ := hrow.shape hkl.symm
  have hP := parts_one (c := c) 58 hB hc (fun e => by cases e)
  have hb2 := hb1.alloc hb1.size (.cells #[.slice (some ⟨g, 0, none⟩) k c] 58)
  have hS := dsum_any _ 1 1 [key] _ (hK.below hb2) hP (by omega) (by rw [List.flatten_singleton]; omega)
  rw [List.flatten_singleton] at hS
  have HS := Lib.hid hS
  have HR := Lib.hid hrun
  have HX := Lib.hid (show Lk.lockOf key = Dg.top (Dg.sum key) 8 from rfl)
  clear hrow hrun hv hB hkl hW1 hS hP hK
  go_enter Tryd.func7, Tryd.ntmps7
  go_wp2_with (first
    | (go_at_call 23; refine (word_any (Dg.sum key) (Dg.sum_len key) w3).mono ?_; rintro e w4 ⟨rfl, hb4⟩)
    | (go_at_call 24; refine HS.out.mono ?_; rintro e w3 ⟨rfl, hb3⟩)
    | (refine wpList_convert_run rfl 9 58 (.tmp 3) rfl _ _ rfl HR.out ?_))
  go_ret
  exact ⟨by rw [HX.out]; rfl, hb2.trans ((hb3.trans (hb4.mono hb3.size)).mono hb2.size)⟩
set_option maxRecDepth 100000 in
set_option maxHeartbeats 4000000 in
theorem pseal_any (key id : List (BitVec 8)) (w : World) (hK : KDg w) (hk : key.length ≤ 10000) (hid : id.length = 32) :
    Calls Tryd.prog 9 #[.string (strB key), .agg (blist id).toArray] w fun e w' => e = .returned (.int .u64 (nb64 (Lk.sealOf key id))) ∧ Below w.heap.size w w' := by
  obtain ⟨W0, hW0⟩ : ∃ x, x = w.alloc (.cells (blist id).toArray 23) := ⟨_, rfl⟩
  have hb0 : Below w.heap.size w W0 := by rw [hW0]; exact (Below.refl _ w).alloc (Nat.le_refl _) _
  have hX : Has W0 w.heap.size 23 (blist id).toArray := by rw [hW0]; exact Has.fresh _ _ _
  have HW := Lib.hid hW0
  obtain ⟨k, hkl⟩ : ∃ k, k = key.length := ⟨_, rfl⟩
  obtain ⟨W1, hW1⟩ : ∃ x, x = Lib.bytesWorld W0 5 (strB key) := ⟨_, rfl⟩
  have hb1 : Below W0.heap.size W0 W1 := by rw [hW1]; exact conv_below W0 _ _
  have hrow := conv_row W0 5 key (by omega)
  rw [← hW1] at hrow
  have hrun := Lib.run_convert_string_bytes (P := Tryd.prog) W0 9 58 5 (strB key) Tryd.underlying9 Tryd.underlying58 Tryd.underlying5
  rw [← hW1, strB_size] at hrun
  obtain ⟨v, hv⟩ : ∃ v : Value, v = .slice (some ⟨W0.heap.size, 0, none⟩) key.length (grownCap W0 key.length 0 5) := ⟨_, rfl⟩
  rw [← hv] at hrun hrow
  obtain ⟨g, c, rfl, hc, _, hB⟩ := hrow.shape hkl.symm
  have hX1 := hX.under hb1 hX.lt
  have hb01 := hb0.trans (hb1.mono hb0.size)
  have hP := parts_two (c := c) (c2 := 32) 58 hB hc (fun e => by cases e) (bytes_has32 hX1 hid) (Nat.le_refl _) (fun e => by cases e)
  have hb2 := hb01.alloc hb01.size (.cells #[.slice (some ⟨g, 0, none⟩) k c, .slice (some ⟨w.heap.size, 0, none⟩) 32 32] 58)
  have hS := dsum_any _ 2 2 [key, id] _ (hK.below hb2) hP (by omega) (by simp; omega)
  have HF := Lib.hid (show [key, id].flatten = key ++ id by simp)
  rw [HF.out] at hS
  have HS := Lib.hid hS
  have HR := Lib.hid hrun
  have HX := Lib.hid (show Lk.sealOf key id = Dg.top (Dg.sum (key ++ id)) 8 from rfl)
  clear hrow hrun hv hB hkl hW1 hS hP hK hX hX1 hW0
  go_enter Tryd.func9, Tryd.ntmps9
  go_upto_region 1 with fail
  rw [← HW.out]
  go_wp2_with (first
    | (go_at_call 23; refine (word_any (Dg.sum (key ++ id)) (Dg.sum_len _) w3).mono ?_; rintro e w4 ⟨rfl, hb4⟩)
    | (go_at_call 24; refine HS.out.mono ?_; rintro e w3 ⟨rfl, hb3⟩)
    | (refine wpList_convert_run rfl 9 58 (.tmp 5) rfl _ _ rfl HR.out ?_))
  go_ret
  exact ⟨by rw [HX.out]; rfl, hb2.trans ((hb3.trans (hb4.mono hb3.size)).mono hb2.size)⟩
end Go.Proofs.YtcedecljbgailaaDoor
