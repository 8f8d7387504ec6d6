/- the law's fixed fact -/
import Derived.Test.YtndcpclichpkaaaPkL
namespace Go.Proofs.Ytndcpclichpkaaa
open Go Go.RowKit Go.ChangeShapes Go.WideShapes
theorem lit3 (w : World) (a b c : BitVec 8) : Bytes8 (w.alloc (.cells #[.int .u8 (nb8 a), .int .u8 (nb8 b), .int .u8 (nb8 c)] 5)) (some ⟨w.heap.size, 0, none⟩) 3 [a, b, c] := by
  refine ⟨rfl, by unfold maxLen; omega, fun i hi => ⟨_, rfl, ?_⟩⟩
  rw [Addr.add_mid, Nat.zero_add]
  match i, hi with
  | 0, _ => exact (Has.fresh w 5 _).cell_at rfl
  | 1, _ => exact (Has.fresh w 5 _).cell_at rfl
  | 2, _ => exact (Has.fresh w 5 _).cell_at rfl
theorem out_new (w : World) : OutS w.heap.size (w.alloc (.cells #[.slice none 0 0] 28)) w.heap.size (.slice none 0 0) [] := ⟨Has.fresh _ _ _, OwnB.nil _ _ _⟩
set_option maxRecDepth 100000 in
set_option maxHeartbeats 8000000 in
theorem alive08 (w : World) : Calls Try.prog 7 #[] w fun e w' => e = .returned (.bool true) ∧ Below w.heap.size w w' := by
  obtain ⟨w1, hw1⟩ : ∃ x, x = w.alloc (.cells #[.slice none 0 0] 28) := ⟨_, rfl⟩
  have hs1 : OutS w.heap.size w1 w.heap.size (.slice none 0 0) [] := by rw [hw1]; exact out_new w
  have hb1 : Below w.heap.size w w1 := by rw [hw1]; exact (Below.refl _ _).alloc (Nat.le_refl _) _
  obtain ⟨g, hg⟩ : ∃ x, x = w.heap.size := ⟨_, rfl⟩
  have HC := Lib.hid (outCount_any w.heap.size w.heap.size (.slice none 0 0) [] 253 (by simp) w1 hs1 hb1.size)
  have HE := Lib.hid (show [] ++ Pk.count 253 = [253#8, 253#8, 0#8] by decide)
  rw [HE.out] at HC
  have HW1 := Lib.hid hw1
  have hR : ∀ (w2 : World), Calls Try.prog 18 #[.slice (some ⟨w2.heap.size, 0, none⟩) 3 3] (w2.alloc (.cells #[.int .u8 253, .int .u8 253, .int .u8 0] 5)) (ReadPost8 [253#8, 253#8, 0#8] (w2.alloc (.cells #[.int .u8 253, .int .u8 253, .int .u8 0] 5))) := fun w2 =>
    read_any _ 3 3 _ _ (lit3 w2 253#8 253#8 0#8) (fun e => by cases e) (by omega)
  have hR2 : ∀ (w2 : World), Calls Try.prog 18 #[.slice (some ⟨w2.heap.size, 0, none⟩) 3 3] (w2.alloc (.cells #[.int .u8 253, .int .u8 1, .int .u8 0] 5)) (ReadPost8 [253#8, 1#8, 0#8] (w2.alloc (.cells #[.int .u8 253, .int .u8 1, .int .u8 0] 5))) := fun w2 =>
    read_any _ 3 3 _ _ (lit3 w2 253#8 1#8 0#8) (fun e => by cases e) (by omega)
  have HR := Lib.hid hR
  have HR2 := Lib.hid hR2
  have HC1 := Lib.hid (show ∀ gi r w1, InS w1 gi r (some [253#8, 253#8, 0#8]) → Calls Try.prog 22 #[.pointer (some ⟨gi, 0, none⟩), .int .i64 253] w1 (InPost encI gi r (some [], 253) w1) from fun gi r w1 h => inCount_any gi r _ 253 (by omega) w1 h)
  have HC2 := Lib.hid (show ∀ gi r w1, InS w1 gi r (some [253#8, 1#8, 0#8]) → Calls Try.prog 22 #[.pointer (some ⟨gi, 0, none⟩), .int .i64 9] w1 (InPost encI gi r (none, 0) w1) from fun gi r w1 h => inCount_any gi r _ 9 (by omega) w1 h)
  have hst0 : strB [253#8, 253#8, 0#8] = ⟨#[253, 253, 0]⟩ := by decide
  have HST := Lib.hid hst0
  clear hw1 hs1 hR hR2 hst0
  go_enter Try.func7, Try.ntmps7
  go_upto_region 2 with fail
  rw [← HW1.out]
  go_upto_region 3 with (go_at_call 11; refine HC.out.mono ?_; rintro e w2 ⟨⟨u2, rfl⟩, v2, hs2, hm2, hl2⟩)
  have hb2 : Below w.heap.size w w2 := hb1.trans (hm2.below (B := w.heap.size) (fun k hk => hk.elim (fun e => by omega) (fun e => by cases e)) hb1.size)
  go_upto_region 4 with (go_at_call 18; refine (HR.out w2).mono ?_; rintro e w3 ⟨gi, r, rfl, hi3, hg3, _, hr3, hb3⟩)
  have hb3' : Below w2.heap.size w2 w3 := ((Below.refl _ _).alloc (Nat.le_refl _) _).trans (hb3.mono (by simp))
  have hs3 : OutS w.heap.size w3 w.heap.size v2 [253#8, 253#8, 0#8] := ⟨hs2.1.under hb3' hs2.1.lt, hs2.2.below hb3'⟩
  have hB3 := hb2.trans (hb3'.mono hb2.size)
  have HB := Lib.hid (outBytes_any _ _ _ _ (by simp) w3 hs3)
  have HZ2 := Lib.hid hb2.size
  clear hs2 hs3 hb3 hm2 hb3' hb1 hb2
  go_wp2_with (first
    | (go_at_call 22; refine (HC2.out _ _ _ hi7).mono ?_; rintro e w8 ⟨rfl, hi8, hm8⟩)
    | (go_at_call 18; refine (HR2.out _).mono ?_; rintro e w7 ⟨gj, rj, rfl, hi7, hg7, _, hr7, hb7⟩)
    | (go_at_call 28; refine (inEnd_yes gi r _ _ hi5 rfl).mono ?_; rintro e w6 ⟨rfl, rfl⟩)
    | (go_at_call 22; refine (HC1.out _ _ _ hi4).mono ?_; rintro e w5 ⟨rfl, hi5, hm5⟩)
    | (go_at_call 17; refine HB.out.mono ?_; rintro e w4 ⟨v4, rfl, hv4, hb4⟩; obtain ⟨a4, c4, rfl, _, _, hB4⟩ := hv4.shape (K := 3) rfl; have hst := run_string (P := Try.prog) 26 9 5 Try.underlying26 Try.underlying5 Try.underlying9 (c := c4) hB4; rw [HST.out] at hst; have hi4 := hi3.below hb4))
  go_ret
  have b4 := hB3.trans (hb4.mono hB3.size)
  have z2 : w.heap.size ≤ gi := by have := hB3.size; have h1 := hg3; simp at h1; have := HZ2.out; omega
  have b5 := b4.trans (hm5.below (B := w.heap.size) (fun k e => by have e' : k = gi := e; omega) b4.size)
  have b6 := b5.alloc b5.size (.cells #[.int .u8 253, .int .u8 1, .int .u8 0] 5)
  have b7 := b6.trans (hb7.mono b6.size)
  exact ⟨rfl, b7.trans (hm8.below (B := w.heap.size) (fun k e => by have e' : k = gj := e; have := b6.size; omega) b7.size)⟩
end Go.Proofs.Ytndcpclichpkaaa
