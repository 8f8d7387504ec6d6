/- package digest: Double -/
import Derived.Test.YtcedecljbgailaaDoorDgQ
namespace Go.Proofs.YtcedecljbgailaaDoor
open Go Go.RowKit Go.ChangeShapes Go.WideShapes
set_option maxRecDepth 100000 in
set_option maxHeartbeats 4000000 in
theorem ddouble_any (a : Option Addr) (n c : Nat) (LL : List (List (BitVec 8))) (w : World) (hK : KDg w) (hP : Parts w a n LL) (hn : n ≤ 1000) (hfl : LL.flatten.length ≤ 1000000) :
    Calls Tryd.prog 30 #[.slice a n c] w fun e w' => e = .returned (.agg (blist (Dg.double LL.flatten)).toArray) ∧ Below w.heap.size w w' := by
  have hB1 : Below w.heap.size w (w.alloc (.cells z32 23)) := (Below.refl _ _).alloc (Nat.le_refl _) _
  have hR1 : Has (w.alloc (.cells z32 23)) w.heap.size 23 z32 := Has.fresh _ _ _
  have hS := dsum_any a n c LL _ (hK.below hB1) (hP.below hB1) hn hfl
  obtain ⟨S, hSd⟩ : ∃ S, S = Dg.sum LL.flatten := ⟨_, rfl⟩
  rw [← hSd] at hS
  have HS := Lib.hid hS
  have hSl : S.length = 32 := by rw [hSd]; exact Dg.sum_len _
  obtain ⟨D, hDd⟩ : ∃ D, D = Dg.double LL.flatten := ⟨_, rfl⟩
  have hDl : D.length = 32 := by rw [hDd]; exact Dg.double_len _
  have HD := Lib.hid (And.intro (show D = Dg.sum [S].flatten by rw [hDd, hSd]; simp [Dg.double]) (And.intro hDl (And.intro hSl hDd)))
  have HK := Lib.hid (And.intro hK hB1)
  have HR := Lib.hid hR1
  have hszS := size_hash' hSl
  have hszD := size_hash' hDl
  have HT := Lib.hid (And.intro (And.intro hszS (one_hash S)) (And.intro hszD (one_hash D)))
  clear hS hSd hDd hK hB1 hR1 hszS hszD hSl hDl hP hfl hn
  rw [← HD.out.2.2.2]
  go_enter Tryd.func30, Tryd.ntmps30
  go_upto_region 2 with (first
    | (refine wpList_store_mid rfl 23 (.tmp 3) (.tmp 5) rfl w2.heap.size 0 (blist S).toArray rfl rfl (there_new w2 _ HD.out.2.2.1) HT.out.1.1 HT.out.1.2 ?_)
    | (go_at_call 24; refine HS.out.mono ?_; rintro e w2 ⟨rfl, hb2⟩))
  obtain ⟨w3, hw3⟩ : ∃ x, x = (w2.alloc (.cells z32 23)).setCells w2.heap.size 0 (blist S) := ⟨_, rfl⟩
  rw [← hw3]
  obtain ⟨hH3, hb3⟩ := hash_new HD.out.2.2.1 hw3
  have hB2 : Below w.heap.size w w2 := HK.out.2.trans (hb2.mono HK.out.2.size)
  have hB3 : Below w.heap.size w w3 := hB2.trans (hb3.mono hB2.size)
  have hR3 : Has w3 w.heap.size 23 z32 := (HR.out.under hb2 HR.out.lt).under hb3 (HR.out.under hb2 HR.out.lt).lt
  obtain ⟨g, hg⟩ : ∃ g, g = w2.heap.size := ⟨_, rfl⟩
  rw [← hg] at hH3 ⊢
  have hB4 : Below w.heap.size w (w3.alloc (.cells #[.slice (some ⟨g, 0, none⟩) 32 32] 58)) := hB3.alloc hB3.size _
  have hP4 := parts_one (c := 32) 58 (bytes_has32 hH3 HD.out.2.2.1) (Nat.le_refl _) (fun e => by cases e)
  have hS4 := dsum_any _ 1 1 [S] _ (HK.out.1.below hB4) hP4 (by omega) (by simp [HD.out.2.2.1])
  rw [← HD.out.1] at hS4
  have HS4 := Lib.hid hS4
  have hR4 := hR3.past (.cells #[.slice (some ⟨g, 0, none⟩) 32 32] 58)
  have HB := Lib.hid hB4
  clear hS4 hP4 hw3 hg hR3 hB3 hB2 hb2 hb3 hH3 hB4
  go_wp2_with (first
    | (refine wpList_store_mid rfl 23 (.tmp 2) (.tmp 8) rfl w.heap.size 0 (blist D).toArray rfl rfl hth HT.out.2.1 HT.out.2.2 ?_)
    | (go_at_call 24; refine HS4.out.mono ?_; rintro e w5 ⟨rfl, hb5⟩; have hR5 := hR4.under hb5 hR4.lt; have hth := hR5.there 0 (blist D).toArray.size (by rw [List.size_toArray, blist_length, HD.out.2.1]; decide)))
  have hE := hR5.whole (l := D) (by rw [HD.out.2.1]; rfl)
  have hS := size_hash HD.out.2.1
  exact bodyPost_ret (results_one_cell rfl _ _ w.heap.size rfl _ (run_loadVar_mid _ _ 0 23 _ _ hE.range Tryd.underlying23 rfl hS)) rfl ⟨rfl, below_setAll (Nat.le_refl _) _ 0 (HB.out.trans (hb5.mono HB.out.size))⟩
end Go.Proofs.YtcedecljbgailaaDoor
