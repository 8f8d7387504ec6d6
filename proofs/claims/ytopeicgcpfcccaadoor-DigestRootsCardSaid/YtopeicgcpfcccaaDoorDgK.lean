/- what package digest answers, as a premise; the example -/
import Derived.Test.YtopeicgcpfcccaaDoorDgI
import Derived.Test.YtopeicgcpfcccaaDoorDgA
import Derived.Test.YtopeicgcpfcccaaDoorPa
namespace Go.Proofs.YtopeicgcpfcccaaDoor
open Go Go.RowKit Go.ChangeShapes Go.WideShapes
/-- package digest's exported calls, in the worlds that its tables stand in -/
structure DigestOk (KD : World → Prop) : Prop where
  stay : ∀ {w w' : World}, KD w → Below w.heap.size w w' → KD w'
  sum : ∀ (a : Option Addr) (n c : Nat) (LL : List (List (BitVec 8))) (w : World), KD w → Parts w a n LL → n ≤ c → (a = none → c = 0) → n ≤ 1000 → LL.flatten.length ≤ 1000000 →
    Calls Tryd.prog 9 #[.slice a n c] w fun e w' => e = .returned (.agg (blist (Dg.sum LL.flatten)).toArray) ∧ Below w.heap.size w w'
  double : ∀ (a : Option Addr) (n c : Nat) (LL : List (List (BitVec 8))) (w : World), KD w → Parts w a n LL → n ≤ c → (a = none → c = 0) → n ≤ 1000 → LL.flatten.length ≤ 1000000 →
    Calls Tryd.prog 11 #[.slice a n c] w fun e w' => e = .returned (.agg (blist (Dg.double LL.flatten)).toArray) ∧ Below w.heap.size w w'
  tree : ∀ (a : Option Addr) (n c : Nat) (L : List (List (BitVec 8))) (w : World), KD w → Rows8 32 w a n L → n ≤ c → (a = none → c = 0) → n ≤ 1000 →
    Calls Tryd.prog 15 #[.slice a n c] w fun e w' => e = .returned (.agg (blist (Dg.tree L)).toArray) ∧ Below w.heap.size w w'
  word : ∀ (l : List (BitVec 8)) (w : World), l.length = 32 →
    Calls Tryd.prog 13 #[.agg (blist l).toArray] w fun e w' => e = .returned (.int .u64 (nb64 (Dg.top l 8))) ∧ Below w.heap.size w w'
  compare : ∀ (a b : List (BitVec 8)) (w : World), a.length = 32 → b.length = 32 →
    Calls Tryd.prog 18 #[.agg (blist a).toArray, .agg (blist b).toArray] w fun e w' => e = .returned (.int .i64 (Dg.cmp a b)) ∧ Below w.heap.size w w'
set_option maxRecDepth 100000 in
set_option maxHeartbeats 4000000 in
theorem alive07 {KD : World → Prop} (ok : DigestOk KD) (w : World) (hK : KD w) :
    Calls Tryd.prog 8 #[] w fun e w' => e = .returned (.bool true) ∧ Below w.heap.size w w' := by
  have hb1 := bytes_newf w [97#8] 5 (1, 2) (n := 1) (cs := #[.int .u8 97]) rfl rfl (by omega)
  have hb2 := bytes_newf (w.alloc (.cells #[.int .u8 97] 5 (1, 2))) [98#8, 99#8] 5 (2, 3) (n := 2) (cs := #[.int .u8 98, .int .u8 99]) rfl rfl (by omega)
  rw [World.size_alloc] at hb2
  have hP := parts_two 22 (hb1.past (.cells #[.int .u8 98, .int .u8 99] 5 (2, 3))) (Nat.le_refl _) (fun e => by cases e) hb2 (Nat.le_refl _) (fun e => by cases e)
  have hB2 : Below w.heap.size w ((w.alloc (.cells #[.int .u8 97] 5 (1, 2))).alloc (.cells #[.int .u8 98, .int .u8 99] 5 (2, 3))) := ((Below.refl _ _).alloc (Nat.le_refl _) _).alloc (by simp) _
  have hB3 := hB2.alloc hB2.size (.cells #[.slice (some ⟨w.heap.size, 0, none⟩) 1 1, .slice (some ⟨w.heap.size + 1, 0, none⟩) 2 2] 22)
  have hK3 := ok.stay hK hB3
  have hfl : [[97#8], [98#8, 99#8]].flatten = Dg.abcL := rfl
  have hc1 := convert_new w #[.int .u8 97] 1 rfl
  have hc2 := convert_new (w.alloc (.cells #[.int .u8 97] 5 (1, 2))) #[.int .u8 98, .int .u8 99] 2 rfl
  rw [World.size_alloc] at hc2
  rw [World.size_alloc, World.size_alloc] at hP
  have HX := Lib.hid (And.intro hP (And.intro hB3 hK3))
  clear hP hB3 hK3 hb1 hb2 hB2
  have HA := Lib.hid Dg.abc_top
  have hS := ok.sum (some ⟨w.heap.size + 1 + 1, 0, none⟩) 2 2 [[97#8], [98#8, 99#8]] _ HX.out.2.2 HX.out.1 (by omega) (fun e => by cases e) (by omega) (by decide)
  rw [hfl] at hS
  have HS0 := Lib.hid hS
  clear hS
  go_enter Tryd.func8, Tryd.ntmps8
  go_wp2_with (first
    | (go_at_call 13; refine (ok.word S w4 hSl).mono ?_; rw [HS.out, HA.out]; rintro e w5 ⟨rfl, hb5⟩)
    | (go_at_call 9; refine HS0.out.mono ?_; rintro e w4 ⟨rfl, hb4⟩; obtain ⟨S, hS⟩ : ∃ x, x = Dg.sum Dg.abcL := ⟨_, rfl⟩; rw [← hS]; have hSl : S.length = 32 := (by rw [hS]; exact Dg.sum_len _); have HS := Lib.hid hS; clear hS))
  go_ret
  exact ⟨rfl, HX.out.2.1.trans ((hb4.trans (hb5.mono hb4.size)).mono HX.out.2.1.size)⟩
end Go.Proofs.YtopeicgcpfcccaaDoor
