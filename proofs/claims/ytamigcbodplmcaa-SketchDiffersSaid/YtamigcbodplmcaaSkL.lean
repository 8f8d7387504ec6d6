/- law05's common parts: alive, errors -/
import Derived.Test.YtamigcbodplmcaaSkJ
import Derived.Test.YtamigcbodplmcaaSkK
import Derived.Test.YtamigcbodplmcaaSkN
namespace Go.Proofs.Ytamigcbodplmcaa
open Go Go.RowKit Go.ChangeShapes Go.WideShapes
theorem is_err (z : Int) (hz : (z != 0) = true) (w : World) :
    Calls Try.prog 12 #[errOf z, .int .i64 z] w fun e w' => e = .returned (.bool true) ∧ w = w' := by
  have hta : ∀ w : World, (Instr.typeAssert (.iface 35 (.int .i64 z)) 27 35 true).run Try.prog w = .ok (.tuple #[.int .i64 z, .bool true]) w := fun w => by kernel_rfl
  go_enter Try.func12, Try.ntmps12
  go_wp2_with go_in
  go_ret
  exact ⟨rfl, rfl⟩
theorem Sk.is_self {A : List (BitVec 32)} {c : Nat} (hs : Po.Srt A) (h0 : ∀ x, x ∈ A → x ≠ 0) (hc : A.length ≤ c) : Sk.Is (Sk.syn c A) A :=
  ⟨hs, h0, by unfold Sk.syn; rw [Po.mk_length]; exact hc, fun k hk => by
    unfold Sk.syn at hk ⊢
    rw [Po.mk_length] at hk
    rw [Po.cf_mk, if_pos hk]⟩
theorem strB_ex : strB (bytes8 (Sk.syn 2 [1#32, 2#32])) = ⟨#[3, 0, 0, 0, 9, 0, 0, 0]⟩ := by
  have h : bytes8 (Sk.syn 2 [1#32, 2#32]) = [3#8, 0#8, 0#8, 0#8, 9#8, 0#8, 0#8, 0#8] := by decide +kernel
  rw [h]
  rfl
set_option maxRecDepth 100000 in
set_option maxHeartbeats 4000000 in
theorem alive05 (w : World) :
    Calls Try.prog 7 #[] w fun e w' => e = .returned (.bool true) ∧ Below w.heap.size w w' := by
  have hA : Sk.Is (Sk.syn 2 [1#32, 2#32]) [1#32, 2#32] := Sk.is_self (List.pairwise_cons.2 ⟨fun b hb => by rw [List.mem_singleton.1 hb]; decide, List.pairwise_singleton _ _⟩) (fun x hx => by
    rcases List.mem_cons.1 hx with e | e
    · rw [e]; decide
    · rw [List.mem_singleton.1 e]; decide) (by decide)
  have h0 : ¬ (0 : BitVec 32) ∈ [1#32, 2#32] := by decide
  have hwl := words_lit w [1#32, 2#32] 54 (n := 2) rfl rfl (by omega)
  have hb0 : Below w.heap.size w (w.alloc (.cells (wlist [1#32, 2#32]).toArray 54)) := (Below.refl _ w).alloc (Nat.le_refl _) _
  have hlen : (bytes8 (Sk.syn 2 [1#32, 2#32])).length = 8 := by rw [bytes8_length]; unfold Sk.syn; rw [Po.mk_length]
  have HA := Lib.hid (And.intro hA (And.intro h0 hlen))
  clear hA h0 hlen
  go_enter Try.func7, Try.ntmps7
  go_wp2_with (first
    | (go_at_call 14; refine (sbytes_any _ g ga 2 c _ w4 hsk4).mono ?_; rintro e w5 ⟨⟨bv, rfl, hbv⟩, hb5⟩; obtain ⟨ba, bc, rfl, hbc, _, hbw⟩ := hbv.shape HA.out.2.2; have hst := run_string (P := Try.prog) 23 9 5 Try.underlying23 Try.underlying5 Try.underlying9 (c := bc) hbw; rw [strB_ex] at hst)
    | (go_at_call 10; refine (words_same la _ 2 lc 2 2 [1#32, 2#32] [1#32, 2#32] _ (hlw.past _) (words_lit w3 _ 54 rfl rfl (by omega)) rfl).mono ?_; rintro e w4 ⟨rfl, hd4⟩; have hsk4 := (hsk3.past (.cells (wlist [1#32, 2#32]).toArray 54)).below (hd4.below _); have hT4 := (hT3.alloc hT3.size (.cells (wlist [1#32, 2#32]).toArray 54)).trans (hd4.below _))
    | (go_at_call 21; refine (sdec_ok _ g ga 2 c _ [1#32, 2#32] w2 hsk HA.out.1).mono ?_; rintro e w3 ⟨⟨lv, rfl, hlv⟩, hb3⟩; obtain ⟨la, lc, rfl, hlc, hl0, hlw⟩ := fresh_shapeK (K := 2) hlv rfl; have hT3 := hT2.trans (hb3.mono hT2.size); have hsk3 := hsk.below hb3)
    | (go_at_call 8; refine (new_ok 2 (by omega) (by omega) _ 2 2 [1#32, 2#32] _ hwl HA.out.2.1).mono ?_; rintro e w2 ⟨⟨g, ga, c, rfl, hsk⟩, hb2⟩; have hT2 := hb0.trans (hb2.mono hb0.size)))
  go_ret
  exact ⟨rfl, hT4.trans (hb5.mono hT4.size)⟩
end Go.Proofs.Ytamigcbodplmcaa
