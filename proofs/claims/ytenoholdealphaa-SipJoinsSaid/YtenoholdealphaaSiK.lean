/- what package sip answers, as a premise; the example; SipHashes, SipEnds over it -/
import Derived.Test.YtenoholdealphaaSiS
import Derived.Test.YtenoholdealphaaHa
namespace Go.Proofs.Ytenoholdealphaa
open Go Go.RowKit Go.ChangeShapes Go.WideShapes
/-- package sip's exported calls -/
structure SipOk : Prop where
  hash : ∀ (k0 k1 : BitVec 64) (ad : Option Addr) (n cp : Nat) (l : List (BitVec 8)) (w : World), Bytes8 w ad n l → n ≤ cp → n ≤ 100000 →
    Calls Try.prog 8 #[.agg #[.int .u64 (nb64 k0), .int .u64 (nb64 k1)], .slice ad n cp] w fun e w' => e = .returned (.int .u64 (nb64 (Si.hash k0 k1 l))) ∧ Below w.heap.size w w'
  short : ∀ (k0 k1 : BitVec 64) (l : List (BitVec 8)) (w : World), l.length = 32 →
    Calls Try.prog 11 #[.agg #[.int .u64 (nb64 k0), .int .u64 (nb64 k1)], .agg (blist l).toArray] w fun e w' => e = .returned (.int .u32 (nb32 (Si.short k0 k1 l))) ∧ Below w.heap.size w w'
  shorts : ∀ (k0 k1 : BitVec 64) (a : Option Addr) (n c : Nat) (L : List (List (BitVec 8))) (w : World), Rows8 32 w a n L → n ≤ c → n ≤ 1000 →
    Calls Try.prog 13 #[.agg #[.int .u64 (nb64 k0), .int .u64 (nb64 k1)], .slice a n c] w fun e w' => (∃ a' c', e = .returned (.slice a' n c') ∧ Words32 w' a' n (L.map (Si.short k0 k1))) ∧ Below w.heap.size w w'
  joint : ∀ (a b : BitVec 64) (w : World),
    Calls Try.prog 14 #[.int .u64 (nb64 a), .int .u64 (nb64 b)] w fun e w' => e = .returned (.agg #[.int .u64 (nb64 (if a ≤ b then a else b)), .int .u64 (nb64 (if a ≤ b then b else a))]) ∧ Below w.heap.size w w'
theorem bytes_lit {n : Nat} {cs : Array Value} (w : World) (l : List (BitVec 8)) (t : TypeId) (hn : l.length = n) (hcs : cs = (blist l).toArray) (hs : n ≤ 1000) : Bytes8 (w.alloc (.cells cs t)) (some ⟨w.heap.size, 0, none⟩) n l :=
  ⟨hn, by unfold maxLen; omega, fun i hi => ⟨_, rfl, by
    rw [Addr.add_mid, Nat.zero_add, (Has.fresh w t _).cell, hcs]
    rw [← Array.getElem?_toList]
    exact blist_at l i (by omega)⟩⟩
def Si.exText : List (BitVec 8) := [0#8, 1#8, 2#8, 3#8, 4#8, 5#8, 6#8, 7#8, 8#8, 9#8, 10#8, 11#8, 12#8, 13#8, 14#8]
theorem Si.exHash : Si.hash 506097522914230528#64 1084818905618843912#64 Si.exText = 11613035633349379557#64 := by decide +kernel
set_option maxRecDepth 100000 in
set_option maxHeartbeats 4000000 in
theorem alive06 (ok : SipOk) (w : World) :
    Calls Try.prog 7 #[] w fun e w' => e = .returned (.bool true) ∧ Below w.heap.size w w' := by
  have hwl := bytes_lit w Si.exText 5 (n := 15) rfl rfl (by omega)
  have hb0 : Below w.heap.size w (w.alloc (.cells (blist Si.exText).toArray 5)) := (Below.refl _ w).alloc (Nat.le_refl _) _
  go_enter Try.func7, Try.ntmps7
  go_wp2_with (first
    | (go_at_call 8; refine (ok.hash 506097522914230528#64 1084818905618843912#64 _ 15 15 Si.exText _ hwl (by omega) (by omega)).mono ?_; rintro e w1 ⟨rfl, hb1⟩; rw [Si.exHash]))
  go_ret
  exact ⟨rfl, hb0.trans (hb1.mono hb0.size)⟩
set_option maxRecDepth 100000 in
set_option maxHeartbeats 4000000 in
theorem sipHashesWalkK (ok : SipOk) {H : Type} {enc : TypeId × Value → H} (W : World) (base : Nat) (v0 : Value) (d0 : DataW H) (p0 : List MemPlace) (v1 : Value) (d1 : DataW H) (p1 : List MemPlace) (v2 : Value) (d2 : DataW H) (p2 : List MemPlace)
    (o0 : Value.okWide Try.prog W .any base 22 v0) (o1 : Value.okWide Try.prog W .any base 22 v1) (o2 : Value.okWide Try.prog W .any base 23 v2)
    (h0 : DataW.Trod enc Try.prog W 0 (fun _ => true) true 22 v0 d0 p0) (h1 : DataW.Trod enc Try.prog W 0 (fun _ => true) true 22 v1 d1 p1) (h2 : DataW.Trod enc Try.prog W 0 (fun _ => true) true 23 v2 d2 p2) :
    Calls Try.prog 3 #[v0, v1, v2] W fun e w' => e = .returned (.bool true) ∧ Below W.heap.size W w' := by
  obtain ⟨k0, rfl⟩ := arg_u64 Try.underlying22 o0 h0
  obtain ⟨k1, rfl⟩ := arg_u64 Try.underlying22 o1 h1
  obtain ⟨ad, n, cp, l, rfl, hw, hnc, hc0⟩ := arg_bytes Try.underlying23 Try.underlying5 (by kernel_rfl) o2 h2
  clear o0 h0 o1 h1 o2 h2
  have hmx : n ≤ 9223372036854775807 := hw.2.1
  have HL := Lib.hid hw.1
  by_cases g1 : (5000 : Int) < (n : Int)
  · go_enter Try.func3, Try.ntmps3
    go_wp2_with (first | (go_at_call 7; refine (alive06 ok W).mono ?_; rintro e w1 ⟨rfl, hb1⟩))
    go_ret
    exact ⟨rfl, hb1⟩
  · have hn : n ≤ 5000 := by omega
    go_enter Try.func3, Try.ntmps3
    go_wp2_with (first
      | (go_at_call 9; refine (shash_any k0 k1 ad n cp l w3 (hw.below hT3) (by omega)).mono ?_; rintro e w4 ⟨rfl, hB4⟩; have hT4 := hT3.trans (hB4.mono hT3.size); have hst := run_string (P := Try.prog) 23 9 5 Try.underlying23 Try.underlying5 Try.underlying9 (c := cp) (hw.below hT4); have hso := run_string (P := Try.prog) 23 9 5 Try.underlying23 Try.underlying5 Try.underlying9 (c := oc) ((how.below hB3).below hB4))
      | (go_at_call 8; refine (ok.hash k0 k1 oa n oc l w2 how hoc (by omega)).mono ?_; rintro e w3 ⟨rfl, hB3⟩; have hT3 := hT2.trans (hB3.mono hT2.size))
      | (at_builtin; have hoE : OwnB 5 w1.heap.size (w1.alloc (.cells #[] 5)) (.slice (some ⟨w1.heap.size, 0, none⟩) 0 0) [] := OwnB.empty (Nat.le_refl _) (Has.fresh w1 _ _); refine wpList_append_bytes rfl (.tmp 13) (.tmp 14) 23 rfl 5 Try.underlying23 info_byte w1.heap.size _ [] rfl hoE ad n cp l rfl ((hw.below hb1).past _) hc0 (by simp; omega) (by simp) ?_; intro va w2 ho2 hg2; rw [List.nil_append] at ho2; have hB2 := below_own_rowb ((Below.refl w1.heap.size w1).alloc (Nat.le_refl _) _) hg2 hoE.lt; have hT2 := hb1.trans (hB2.mono hb1.size); obtain ⟨oa, oc, rfl, hoc, _, how⟩ := ho2.shape HL.out)
      | (go_at_call 7; refine (alive06 ok W).mono ?_; rintro e w1 ⟨rfl, hb1⟩))
    go_ret
    exact ⟨rfl, hT4⟩
end Go.Proofs.Ytenoholdealphaa
