/- the reference's ReadNum: a number that is there -/
import Derived.Test.YtpbijcchdjppmaaPkN
namespace Go.Proofs.Ytpbijcchdjppmaa
open Go Go.RowKit Go.ChangeShapes Go.WideShapes
theorem cb_from (l : List (BitVec 8)) (i j : Nat) : cb (l.drop i) j = cb l (i + j) := by
  unfold cb
  rw [List.getD_eq_getElem?_getD, List.getD_eq_getElem?_getD, List.getElem?_drop]
theorem bytes_from {w : World} {x : Addr} {n : Nat} {l : List (BitVec 8)} (h : Bytes8 w (some x) n l) (k : Nat) : Bytes8 w (some (x.add k)) (n - k) (l.drop k) := by
  refine ⟨by rw [List.length_drop, h.1], by have := h.2.1; omega, fun i hi => ?_⟩
  obtain ⟨y, hy, hc⟩ := h.2.2 (k + i) (by omega)
  cases hy
  exact ⟨_, rfl, by rw [cb_from, ← hc, Addr.add_add]⟩
theorem bytes_from_none {w : World} {n : Nat} {l : List (BitVec 8)} (h : Bytes8 w none n l) (k : Nat) : Bytes8 w none 0 (l.drop k) := by
  have h0 : n = 0 := by
    rcases Nat.eq_zero_or_pos n with h0 | h0
    · exact h0
    · obtain ⟨x, hx, _⟩ := h.2.2 0 h0
      cases hx
  refine ⟨by rw [List.length_drop, h.1, h0]; omega, by unfold maxLen; omega, fun i hi => by omega⟩
set_option maxRecDepth 100000 in
set_option maxHeartbeats 4000000 in
theorem rreadNum_ok (a : Addr) (n c : Nat) (B : List (BitVec 8)) (K : Nat) (w : World) (hB0 : Bytes8 w (some a) n B) (hnc : n ≤ c) (hz : Pk.okSize K) (hKn : K ≤ n) :
    Calls Try.prog 43 #[.agg #[.slice (some a) n c, .bool false], .int .i64 K] w fun e w' => (∃ v, e = .returned (.tuple #[v, .int .u64 (nb64 (Pk.leV B 0 K))]) ∧ InV w' (some (B.drop K)) v) ∧ Below w.heap.size w w' := by
  have hA : Has ((w.alloc (.cells #[.slice (some a) n c, .bool false] 79)).alloc (.cells #[.slice none 0 0, .bool false] 79)) w.heap.size 79 #[.slice (some a) n c, .bool false] := (Has.fresh _ _ _).past _
  have hR : Has ((w.alloc (.cells #[.slice (some a) n c, .bool false] 79)).alloc (.cells #[.slice none 0 0, .bool false] 79)) (w.heap.size + 1) 79 #[.slice none 0 0, .bool false] := Has.fresh_at _ _ _ (by simp)
  have hB : Below w.heap.size w ((w.alloc (.cells #[.slice (some a) n c, .bool false] 79)).alloc (.cells #[.slice none 0 0, .bool false] 79)) := ((Below.refl _ _).alloc (Nat.le_refl _) _).alloc (by simp) _
  have hN := fun w => rnum8_any 0#64 K w
  have hK : (Pk.num 0#64 K).length = K := by unfold Pk.num; rw [if_pos hz, Pk.le_len]; rfl
  have hK1 : 0 < K ∧ K ≤ 8 := by unfold Pk.okSize at hz; omega
  have HM := Lib.hid hK
  have HN := Lib.hid hN
  have hmi : ((K : Int) == 0) = false := by simp; omega
  have hmi2 : ¬ ((K : Int) = 0) := by omega
  have hzi : ¬ ((n : Int) < K) := by omega
  have HK1 := Lib.hid hK1
  have HKn := Lib.hid hKn
  have HZ := Lib.hid hz
  have HNC := Lib.hid hnc
  have HB0 := Lib.hid hB0
  clear hN hK hK1 hKn hz hnc hB0
  go_enter Try.func43, Try.ntmps43
  go_wp2_with (first
    | (go_at_call 67; refine (HN.out _).mono ?_; rintro e w2 ⟨v2, rfl, hv2, hb2⟩; obtain ⟨a2, c2, rfl, _, _, _⟩ := hv2.shape HM.out; have hR2 := hR.under hb2 hR.lt; have hA2 := hA.under hb2 hA.lt; have hB2 := hB.trans (hb2.mono hB.size); have cA0 := hA2.cell_at (i := 0) (v := .slice (some a) n c) rfl))
  go_loopw [6, 7] (fun nv kv wr => ∃ r : Nat, r ≤ K ∧ nv = .int .u64 (nb64 (Pk.leV B (K - r) r)) ∧ kv = .int .i64 ((K : Int) - 1 - r) ∧ wr = w2) (fun _ kv _ => ((intOf kv) + 1).toNat)
  case atStart =>
    have := HK1.out
    exact ⟨0, Nat.zero_le _, rfl, by simp; unfold wrap64; omega, rfl⟩
  case round =>
    obtain ⟨r, hr, rfl, rfl, rfl⟩ := hrel
    have hk := HK1.out
    by_cases hlt : r < K
    · have hk0 : ¬ ((K : Int) - 1 - r < 0) := by omega
      have hk1 : (0 : Int) ≤ (K : Int) - 1 - r := by omega
      have hk2 : (K : Int) - 1 - r < n := by have := HKn.out; omega
      have hBw := HB0.out.below hB2
      obtain ⟨b, hbb⟩ : ∃ b, b = cb B (K - 1 - r) := ⟨_, rfl⟩
      have hc : wr.cell? (a.add (K - 1 - r)) = some (.int .u8 (nb8 b)) := by
        obtain ⟨y, hy, hc⟩ := hBw.2.2 (K - 1 - r) (by have := HKn.out; omega)
        cases hy
        rw [hc, hbb]
      have HL := Lib.hid (show Pk.leV B (K - (r + 1)) (r + 1) = 256#64 * Pk.leV B (K - r) r + b.setWidth 64 by
        rw [hbb]
        show 256#64 * Pk.leV B (K - (r + 1) + 1) r + (cb B (K - (r + 1))).setWidth 64 = _
        rw [show K - (r + 1) + 1 = K - r by omega, show K - (r + 1) = K - 1 - r by omega])
      obtain ⟨x, hx⟩ : ∃ x, x = Pk.leV B (K - r) r := ⟨_, rfl⟩
      rw [← hx] at HL ⊢
      clear hx hbb hBw
      go_wp2
      go_roundw
      case rel => exact ⟨r + 1, by omega, by rw [HL.out], by go_num, by first | rfl | trivial⟩
      case measure => (simp [intOf]; try omega)
    · have hrK : r = K := by omega
      subst hrK
      have hth := hR2.there 0 2 (Nat.le_refl _)
      by_cases hcr : c = r
      · go_wp2_with (refine wpList_store_mid rfl 79 (.tmp 4) (.tmp 43) rfl (w.heap.size + 1) 0 #[.slice (some a) (n - r) 0, .bool false] rfl rfl hth (in_size _ _) (in_one _ _ rfl rfl) ?_)
        have hE := hR2.whole_cs (cs2 := #[.slice (some a) (n - r) 0, .bool false]) rfl
        refine bodyPost_ret (results_cell_tmp rfl _ _ (w.heap.size + 1) rfl _ _ rfl (in_load hE)) rfl ⟨⟨_, rfl, _, _, _, rfl, ?_⟩, below_setAll (by omega) _ 0 hB2⟩
        have hn : n = r := by have := HNC.out; have := HKn.out; omega
        refine ⟨?_, by omega, fun h => by cases h⟩
        have h1 := HB0.out
        exact ⟨by rw [List.length_drop, h1.1], by have := h1.2.1; omega, fun i hi => by omega⟩
      · go_wp2_with (refine wpList_store_mid rfl 79 (.tmp 4) (.tmp 43) rfl (w.heap.size + 1) 0 #[.slice (some (a.add r)) (n - r) (c - r), .bool false] rfl rfl hth (in_size _ _) (in_one _ _ rfl rfl) ?_)
        have hE := hR2.whole_cs (cs2 := #[.slice (some (a.add r)) (n - r) (c - r), .bool false]) rfl
        refine bodyPost_ret (results_cell_tmp rfl _ _ (w.heap.size + 1) rfl _ _ rfl (in_load hE)) rfl ⟨⟨_, rfl, _, _, _, rfl, ?_⟩, below_setAll (by omega) _ 0 hB2⟩
        exact ⟨bytes_from (HB0.out.below (below_setAll (by omega) _ 0 hB2)) r, by have := HNC.out; omega, fun h => by cases h⟩
end Go.Proofs.Ytpbijcchdjppmaa
