/- package pack: Out.Count, Text, Hash, Bytes; slices.Clone -/
import Derived.Test.YtcedecljbgailaaDoorPkG
import Derived.Lib.SliceRun
namespace Go.Proofs.YtcedecljbgailaaDoor
open Go Go.RowKit Go.ChangeShapes Go.WideShapes
theorem OutPost.same {B g : Nat} {v : Value} {l l' : List (BitVec 8)} {w : World} (h : OutS B w g v l) (hl : l = l') {e : Ending} (hu : ∃ u, e = .returned u) : OutPost B g v l' w e w := by
  subst hl
  exact ⟨hu, v, h, Moved.refl _ _, Lies.refl _ _⟩
theorem outNum_any (B g : Nat) (v : Value) (l : List (BitVec 8)) (x : BitVec 64) (z : Int) (hl : l.length ≤ 1000000) (w : World) (h : OutS B w g v l) (hBw : B ≤ w.heap.size) :
    Calls Tryd.prog 50 #[.pointer (some ⟨g, 0, none⟩), .int .u64 (nb64 x), .int .i64 z] w (OutPost B g v (l ++ Pk.num x z) w) := by
  unfold Pk.num
  by_cases hz : Pk.okSize z
  · rw [if_pos hz]
    have hK : ∃ K : Nat, z = K := ⟨z.toNat, by unfold Pk.okSize at hz; omega⟩
    obtain ⟨K, rfl⟩ := hK
    exact outNum_ok B g v l x K hz hl w h hBw
  · rw [if_neg hz]
    refine (outNum_no g x z hz w).mono ?_
    rintro e w' ⟨hu, rfl⟩
    exact OutPost.same h (by simp) hu
set_option maxRecDepth 100000 in
set_option maxHeartbeats 4000000 in
theorem outCount_big (B g : Nat) (v : Value) (l : List (BitVec 8)) (z : Int) (t : BitVec 8) (K : Nat) (hK : t = 253#8 ∧ K = 2 ∧ 252 < z ∧ z ≤ 65535 ∨ t = 254#8 ∧ K = 4 ∧ 65535 < z ∧ z ≤ 4294967295 ∨ t = 255#8 ∧ K = 8 ∧ 4294967295 < z) (hl : l.length ≤ 999999) (w : World) (h : OutS B w g v l) (hBw : B ≤ w.heap.size) :
    Calls Tryd.prog 48 #[.pointer (some ⟨g, 0, none⟩), .int .i64 z] w (OutPost B g v (l ++ ([t] ++ Pk.le (BitVec.ofInt 64 z) K)) w) := by
  have hcv := int_to_u64 z
  obtain ⟨x, hx⟩ : ∃ x, x = BitVec.ofInt 64 z := ⟨_, rfl⟩
  rw [← hx] at hcv ⊢
  have H1 : ∀ n : BitVec 64, OutS B w g v l → Calls Tryd.prog 50 #[.pointer (some ⟨g, 0, none⟩), .int .u64 (nb64 n), .int .i64 1] w (OutPost B g v (l ++ [n.setWidth 8]) w) := fun n h => by
    have := outNum_ok B g v l n 1 (.inl rfl) (by omega) w h hBw
    rwa [show Pk.le n 1 = [n.setWidth 8] by simp [Pk.le]] at this
  have H2 : ∀ (v1 : Value) (w1 : World), OutS B w1 g v1 (l ++ [t]) → Moved (outF g v) w w1 → Calls Tryd.prog 50 #[.pointer (some ⟨g, 0, none⟩), .int .u64 (nb64 x), .int .i64 K] w1 (OutPost B g v1 ((l ++ [t]) ++ Pk.le x K) w1) := fun v1 w1 h hm =>
    outNum_ok B g v1 (l ++ [t]) x K (by unfold Pk.okSize; omega) (by simp; omega) w1 h (Nat.le_trans hBw hm.size)
  have HA := Lib.hid (show l ++ [t] ++ Pk.le x K = l ++ ([t] ++ Pk.le x K) by rw [List.append_assoc])
  have HS := Lib.hid h
  clear hx h hBw
  rcases hK with ⟨rfl, rfl, h1, h2⟩ | ⟨rfl, rfl, h1, h2⟩ | ⟨rfl, rfl, h1⟩
  case' inl => have G1 := Lib.hid (show Calls Tryd.prog 50 #[.pointer (some ⟨g, 0, none⟩), .int .u64 253, .int .i64 1] w (OutPost B g v (l ++ [253#8]) w) from H1 253#64 HS.out)
  case' inr.inl => have G1 := Lib.hid (show Calls Tryd.prog 50 #[.pointer (some ⟨g, 0, none⟩), .int .u64 254, .int .i64 1] w (OutPost B g v (l ++ [254#8]) w) from H1 254#64 HS.out)
  case' inr.inr => have G1 := Lib.hid (show Calls Tryd.prog 50 #[.pointer (some ⟨g, 0, none⟩), .int .u64 255, .int .i64 1] w (OutPost B g v (l ++ [255#8]) w) from H1 255#64 HS.out)
  case' inl => have hz3 : z ≤ 65535 := h2
  case' inr.inl => have hz3 : ¬ (z ≤ 65535) := by omega
  case' inr.inr => have hz3 : ¬ (z ≤ 65535) := by omega
  case' inl => have hz4 : z ≤ 4294967295 := by omega
  case' inr.inl => have hz4 : z ≤ 4294967295 := by omega
  case' inr.inr => have hz4 : ¬ (z ≤ 4294967295) := by omega
  all_goals
    have hz1 : ¬ (z < 0) := by omega
    have hz2 : ¬ (z ≤ 252) := by omega
    have G2 := Lib.hid H2
    clear H1 H2 h1
    try clear h2
    go_enter Tryd.func48, Tryd.ntmps48
    go_wp2_with (first
      | (go_at_call 50; refine (G2.out _ _ hs1 hm1).mono ?_; intro e w2 hp2; obtain ⟨⟨u2, rfl⟩, v2, hs2, hm2, hl2⟩ := hp2.then hm1 hl1)
      | (go_at_call 50; (with_reducible refine G1.out.mono ?_); rintro e w1 ⟨⟨u1, rfl⟩, v1, hs1, hm1, hl1⟩))
    exact bodyPost_ret (results_none rfl _ _ _) rfl ⟨⟨_, rfl⟩, v2, HA.out ▸ hs2, hm2, hl2⟩
set_option maxHeartbeats 4000000 in
theorem outCount_any (B g : Nat) (v : Value) (l : List (BitVec 8)) (z : Int) (hl : l.length ≤ 999999) (w : World) (h : OutS B w g v l) (hBw : B ≤ w.heap.size) :
    Calls Tryd.prog 48 #[.pointer (some ⟨g, 0, none⟩), .int .i64 z] w (OutPost B g v (l ++ Pk.count z) w) := by
  unfold Pk.count
  by_cases h0 : z < 0
  · rw [if_pos h0]
    have HS := Lib.hid h
    clear h
    go_enter Tryd.func48, Tryd.ntmps48
    go_wp2
    exact bodyPost_ret (results_none rfl _ _ _) rfl (OutPost.same HS.out (by simp) ⟨_, rfl⟩)
  · rw [if_neg h0]
    by_cases h1 : z ≤ 252
    · rw [if_pos h1]
      have hcv := int_to_u64 z
      obtain ⟨x, hx⟩ : ∃ x, x = BitVec.ofInt 64 z := ⟨_, rfl⟩
      rw [← hx] at hcv ⊢
      have G := Lib.hid (outNum_ok B g v l x 1 (.inl rfl) (by omega) w h hBw)
      clear hx h
      go_enter Tryd.func48, Tryd.ntmps48
      go_wp2_with (go_at_call 50; refine G.out.mono ?_; rintro e w1 ⟨⟨u1, rfl⟩, v1, hs1, hm1, hl1⟩)
      exact bodyPost_ret (results_none rfl _ _ _) rfl ⟨⟨_, rfl⟩, v1, hs1, hm1, hl1⟩
    · rw [if_neg h1]
      by_cases h2 : z ≤ 65535
      · rw [if_pos h2]
        exact outCount_big B g v l z _ 2 (.inl ⟨rfl, rfl, by omega, h2⟩) hl w h hBw
      · rw [if_neg h2]
        by_cases h3 : z ≤ 4294967295
        · rw [if_pos h3]
          exact outCount_big B g v l z _ 4 (.inr (.inl ⟨rfl, rfl, by omega, h3⟩)) hl w h hBw
        · rw [if_neg h3]
          exact outCount_big B g v l z _ 8 (.inr (.inr ⟨rfl, rfl, by omega⟩)) hl w h hBw
set_option maxHeartbeats 4000000 in
theorem outCount_none (w : World) : Calls Tryd.prog 48 #[.pointer none, .int .i64 1] w fun e w' => (∃ u, e = .returned u) ∧ w = w' := by
  have G := Lib.hid (show Calls Tryd.prog 50 #[.pointer none, .int .u64 1, .int .i64 1] w fun e w' => (∃ u, e = .returned u) ∧ w = w' from outNum_none 1#64 1 w)
  go_enter Tryd.func48, Tryd.ntmps48
  go_wp2_with fail
  refine G.out.mono ?_
  rintro e w1 ⟨⟨u1, rfl⟩, rfl⟩
  go_wp2
  go_end0
  exact ⟨⟨_, rfl⟩, rfl⟩
theorem outHash_none (cs : Array Value) (w : World) : Calls Tryd.prog 49 #[.pointer none, .agg cs] w fun e w' => (∃ u, e = .returned u) ∧ Below w.heap.size w w' := by
  go_enter Tryd.func49, Tryd.ntmps49
  go_wp2
  exact bodyPost_ret (results_none rfl _ _ _) rfl ⟨⟨_, rfl⟩, (Below.refl _ _).alloc (Nat.le_refl _) _⟩
set_option maxRecDepth 100000 in
set_option maxHeartbeats 4000000 in
theorem outHash_any (B g : Nat) (v : Value) (l s : List (BitVec 8)) (hl : l.length ≤ 1000000) (hs : s.length = 32) (w : World) (h : OutS B w g v l) (hBw : B ≤ w.heap.size) :
    Calls Tryd.prog 49 #[.pointer (some ⟨g, 0, none⟩), .agg (blist s).toArray] w (OutPost B g v (l ++ s) w) := by
  have HL := Lib.hid (show l.length + 32 ≤ 1099511627776 by omega)
  obtain ⟨w0, hw0⟩ : ∃ x, x = w.alloc (.cells (blist s).toArray 23) := ⟨_, rfl⟩
  have hb0 : Below w.heap.size w w0 := by rw [hw0]; exact (Below.refl _ _).alloc (Nat.le_refl _) _
  have HA := Lib.hid (show Bytes8 w0 (some ⟨w.heap.size, 0, none⟩) 32 s from ⟨hs, by unfold maxLen; omega, fun i hi => ⟨_, rfl, by
    rw [Addr.add_mid, Nat.zero_add, hw0]
    exact (Has.fresh w 23 _).cell_at (by rw [List.getElem?_toArray]; exact blist_at s i (by omega))⟩⟩)
  have HS := Lib.hid (show OutS B w0 g v l from ⟨h.1.under hb0 h.1.lt, h.2.below hb0⟩)
  have HB := Lib.hid (Nat.le_trans hBw hb0.size)
  have HM := Lib.hid (show (l ++ s).length = l.length + 32 by simp [hs])
  obtain ⟨M, hM⟩ : ∃ M, M = l.length + 32 := ⟨_, rfl⟩
  rw [← hM] at HM
  have c0 : w0.cell? ⟨g, 0, none⟩ = some v := HS.out.1.cell_at rfl
  have f0 : w0.frozen? ⟨g, 0, none⟩ = false := HS.out.1.loose 0
  have HW0 := Lib.hid hw0
  clear hl hs h hBw hM hw0
  go_enter Tryd.func49, Tryd.ntmps49
  go_upto_region 2 with fail
  rw [← HW0.out]
  go_region_law (refine step_append_bytes_at (by rfl) (.tmp 10) (.tmp 11) 58 rfl 5 Tryd.underlying58 info_byte B v l (by simp [Act.eval]) (HS.out.2.below (Below.refl _ _).drew) (some ⟨w.heap.size, 0, none⟩) 32 32 s (by simp [Act.eval]) HA.out.draw (fun e => by cases e) HL.out HB.out ?_; intro v2 w2 h1 h2 h3; obtain ⟨a2, c2, rfl, _, _, _⟩ := h1.shape HM.out; obtain ⟨hg2, hs2, hm2, hl2⟩ := HS.out.grow (Moved.of_below hb0) ((Lies.refl w v).up (Nat.le_refl _)) (Below.refl _ _).drew h2 h1 h3; have hc2 := hg2.cell_at (i := 0) rfl; have hf2 := hg2.loose 0)
  all_goals
    go_wp2
    exact bodyPost_ret (results_none rfl _ _ _) rfl ⟨⟨_, rfl⟩, _, hs2, hm2, hl2⟩
set_option maxHeartbeats 4000000 in
theorem clone8_any (a : Option Addr) (n c : Nat) (l : List (BitVec 8)) (w : World) (h : Bytes8 w a n l) (hc : a = none → c = 0) (hn : n ≤ 1000000000) :
    Calls Tryd.prog 60 #[.slice a n c] w (BytesPost8 5 w.heap.size l w) := by
  cases a with
  | none =>
    obtain rfl := hc rfl
    have h0 : n = 0 := by
      rcases Nat.eq_zero_or_pos n with h0 | h0
      · exact h0
      · obtain ⟨_, e, _⟩ := h.2.2 0 h0
        cases e
    subst h0
    obtain rfl := List.length_eq_zero_iff.1 h.1
    have hq := Lib.run_eql_slice_nil (P := Tryd.prog) w 58 5 none 0 0 0 0 Tryd.underlying58
    go_enter Tryd.func60, Tryd.ntmps60
    go_wp2
    go_ret
    exact ⟨_, rfl, OwnB.nil _ _ _, Below.refl _ _⟩
  | some x =>
    have HB := Lib.hid ((Below.refl w.heap.size w).alloc (Nat.le_refl _) (.cells #[] 5))
    have HO := Lib.hid (show OwnB 5 w.heap.size (w.alloc (.cells #[] 5)) (.slice (some ⟨w.heap.size, 0, none⟩) 0 0) [] from OwnB.empty (Nat.le_refl _) (Has.fresh _ _ _))
    have HA := Lib.hid (h.past (.cells #[] 5))
    have HN := Lib.hid hn
    have hq := Lib.run_eql_slice_nil (P := Tryd.prog) w 58 5 (some x) n c 0 0 Tryd.underlying58
    clear h hn hc
    go_enter Tryd.func60, Tryd.ntmps60
    go_wp2_with (at_builtin; refine wpList_append_bytes rfl (.tmp 5) (.tmp 6) 58 rfl 5 Tryd.underlying58 info_byte w.heap.size _ _ rfl HO.out (some x) n c _ rfl HA.out (fun e => by cases e) (by have := HN.out; simp; omega) (by simp) ?_; intro v3 w3 ho3 hg3)
    go_ret
    exact ⟨_, rfl, ho3, below_own_rowb HB.out hg3 HO.out.lt⟩
theorem outBytes_none (w : World) : Calls Tryd.prog 51 #[.pointer none] w fun e w' => e = .returned (.slice none 0 0) ∧ w = w' := by
  go_enter Tryd.func51, Tryd.ntmps51
  go_wp2
  go_ret
  exact ⟨rfl, rfl⟩
set_option maxHeartbeats 4000000 in
theorem outBytes_any (B g : Nat) (v : Value) (l : List (BitVec 8)) (hl : l.length ≤ 1000000) (w : World) (h : OutS B w g v l) :
    Calls Tryd.prog 51 #[.pointer (some ⟨g, 0, none⟩)] w (BytesPost8 5 w.heap.size l w) := by
  have c0 : w.cell? ⟨g, 0, none⟩ = some v := h.1.cell_at rfl
  obtain ⟨M, hM⟩ : ∃ M, l.length = M := ⟨_, rfl⟩
  obtain ⟨a, c, rfl, hc, h0, hB⟩ := h.2.shape hM
  have HC := Lib.hid (clone8_any a M c l w hB h0 (by omega))
  clear h hM hB h0 hl
  go_enter Tryd.func51, Tryd.ntmps51
  go_wp2_with (go_at_call 60; refine HC.out.mono ?_; rintro e w1 ⟨v1, rfl, hv1, hb1⟩)
  go_ret
  exact ⟨_, rfl, hv1, hb1⟩
end Go.Proofs.YtcedecljbgailaaDoor
