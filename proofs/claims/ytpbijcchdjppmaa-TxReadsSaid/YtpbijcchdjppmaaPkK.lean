/- package pack: In.Count, Text, Hash, Left, End; Read -/
import Derived.Test.YtpbijcchdjppmaaPkJ
import Derived.Test.YtpbijcchdjppmaaHe
import Derived.Deep.RegionLaw
namespace Go.Proofs.Ytpbijcchdjppmaa
open Go Go.RowKit Go.ChangeShapes Go.WideShapes
theorem ofInt_toInt64 (n : BitVec 64) (h : n.toNat < 9223372036854775808) : wrap64 (nb64 n) = (n.toNat : Int) := by
  unfold wrap64 nb64; omega
/-- the end of Count: the number looked at -/
theorem count_end (most : Int) (n : BitVec 64) (h : ¬ (most < 0 ∨ most < (n.toNat : Int))) (hm : most < 9223372036854775808) : wrap64 (nb64 n) = (n.toNat : Int) := ofInt_toInt64 n (by omega)
theorem wrap_most (most : Int) (h0 : 0 ≤ most) (h1 : most < 9223372036854775808) : IntKind.u64.wrap most = most := by
  rw [IntKind.wrap_u64]; omega
set_option maxRecDepth 100000 in
set_option maxHeartbeats 8000000 in
theorem inCount_cd (g : Nat) (r : Option Nat) (s : Pk.Rd) (most : Int) (hm : most < 9223372036854775808) (w : World) (h : InS w g r s) :
    Calls Try.prog 30 #[.pointer (some ⟨g, 0, none⟩), .int .i64 most] w (InPost encI g r (Pk.cdCount s most) w) := by
  have HN := Lib.hid (inNum_any g r s 1 w h)
  obtain ⟨p, hp⟩ : ∃ p, p = Pk.rdNum s 1 := ⟨_, rfl⟩
  obtain ⟨q, hq⟩ : ∃ q, q = Pk.cdMore p := ⟨_, rfl⟩
  have hc : Pk.cdCount s most = if most < 0 ∨ most < (q.2.toNat : Int) then (none, 0) else (q.1, (q.2.toNat : Int)) := by rw [hq, hp]; rfl
  rw [hc]
  rw [← hp] at HN
  clear hc hp h
  obtain ⟨s1, n1⟩ := p
  have HA : ∀ (o : Nat) (z : Int) (w1 : World), o < 2 ^ 64 → InS w1 g r s1 → Calls Try.prog 57 #[.pointer (some ⟨g, 0, none⟩), .int .u64 (nb64 (BitVec.ofNat 64 o)), .int .i64 z] w1 (InPost encU g r (Pk.above s1 o z) w1) := fun o z w1 ho h => inAbove_any g r s1 o z ho w1 h
  have H253 := Lib.hid (show ∀ w1, InS w1 g r s1 → Calls Try.prog 57 #[.pointer (some ⟨g, 0, none⟩), .int .u64 252, .int .i64 2] w1 (InPost encU g r (Pk.above s1 252 2) w1) from fun w1 h => HA 252 2 w1 (by decide) h)
  have H254 := Lib.hid (show ∀ w1, InS w1 g r s1 → Calls Try.prog 57 #[.pointer (some ⟨g, 0, none⟩), .int .u64 65535, .int .i64 4] w1 (InPost encU g r (Pk.above s1 65535 4) w1) from fun w1 h => HA 65535 4 w1 (by decide) h)
  have H255 := Lib.hid (show ∀ w1, InS w1 g r s1 → Calls Try.prog 57 #[.pointer (some ⟨g, 0, none⟩), .int .u64 4294967295, .int .i64 8] w1 (InPost encU g r (Pk.above s1 4294967295 8) w1) from fun w1 h => HA 4294967295 8 w1 (by decide) h)
  clear HA
  -- the first number
  have hfirst : (n1 == 253#64) = true ∧ q = Pk.above s1 252 2 ∨ (n1 == 253#64) = false ∧ (n1 == 254#64) = true ∧ q = Pk.above s1 65535 4 ∨ (n1 == 253#64) = false ∧ (n1 == 254#64) = false ∧ (n1 == 255#64) = true ∧ q = Pk.above s1 4294967295 8 ∨ (n1 == 253#64) = false ∧ (n1 == 254#64) = false ∧ (n1 == 255#64) = false ∧ q = (s1, n1) := by
    rw [hq]
    unfold Pk.cdMore
    dsimp only
    by_cases e3 : n1 = 253#64
    · left; exact ⟨by simpa using e3, by rw [if_pos e3]⟩
    · right
      rw [if_neg e3]
      by_cases e4 : n1 = 254#64
      · left; exact ⟨by simpa using e3, by simpa using e4, by rw [if_pos e4]⟩
      · right
        rw [if_neg e4]
        by_cases e5 : n1 = 255#64
        · left; exact ⟨by simpa using e3, by simpa using e4, by simpa using e5, by rw [if_pos e5]⟩
        · right; exact ⟨by simpa using e3, by simpa using e4, by simpa using e5, by rw [if_neg e5]⟩
  clear hq
  obtain ⟨s2, n2⟩ := q
  dsimp only
  obtain ⟨R, hR⟩ : ∃ R : Pk.Rd × Int, R = if most < 0 ∨ most < (n2.toNat : Int) then (none, 0) else (s2, (n2.toNat : Int)) := ⟨_, rfl⟩
  rw [← hR]
  have HR := Lib.hid hR
  clear hR
  have HM := Lib.hid hm
  clear hm
  rcases hfirst with ⟨e3, hq⟩ | ⟨e3, e4, hq⟩ | ⟨e3, e4, e5, hq⟩ | ⟨e3, e4, e5, hq⟩
  all_goals
    have HQ := Lib.hid hq
    clear hq
    go_enter Try.func30, Try.ntmps30
  case' inl =>
    go_upto_region 9 with (first
      | (go_at_call 57; refine (H253.out _ hi1).mono ?_; rw [← HQ.out]; rintro e w2 ⟨rfl, hi2, hm2⟩)
      | (go_at_call 33; refine HN.out.mono ?_; rintro e w1 ⟨rfl, hi1, hm1⟩))
  case' inr.inl =>
    go_upto_region 9 with (first
      | (go_at_call 57; refine (H254.out _ hi1).mono ?_; rw [← HQ.out]; rintro e w2 ⟨rfl, hi2, hm2⟩)
      | (go_at_call 33; refine HN.out.mono ?_; rintro e w1 ⟨rfl, hi1, hm1⟩))
  case' inr.inr.inl =>
    go_upto_region 9 with (first
      | (go_at_call 57; refine (H255.out _ hi1).mono ?_; rw [← HQ.out]; rintro e w2 ⟨rfl, hi2, hm2⟩)
      | (go_at_call 33; refine HN.out.mono ?_; rintro e w1 ⟨rfl, hi1, hm1⟩))
  case' inr.inr.inr =>
    obtain ⟨rfl, rfl⟩ := Prod.mk.inj HQ.out
    go_upto_region 9 with (first
      | (go_at_call 33; refine HN.out.mono ?_; rintro e w2 ⟨rfl, hi2, hm1⟩; have hm2 : Moved (inF g) w2 w2 := Moved.refl _ _))
  all_goals
    have hmm := hm1.trans hm2 (fun _ e => .inl e)
    dsimp only [encU] at hi2 ⊢
    clear hm1 hm2
    by_cases h0 : most < 0
    · obtain rfl : R = (none, 0) := by rw [HR.out, if_pos (.inl h0)]
      go_wp2_with (go_at_call 58; refine (fail_any g r _ _ hi2).mono ?_; rintro e w3 ⟨⟨u, rfl⟩, hi3, hm3⟩)
      go_ret
      exact ⟨rfl, hi3, hmm.trans hm3 (fun _ e => .inl e)⟩
    · have hw := wrap_most most (by omega) HM.out
      by_cases h1 : most < (n2.toNat : Int)
      · obtain rfl : R = (none, 0) := by rw [HR.out, if_pos (.inr h1)]
        have h2 : most < nb64 n2 := h1
        clear h1
        go_wp2_with (go_at_call 58; refine (fail_any g r _ _ hi2).mono ?_; rintro e w3 ⟨⟨u, rfl⟩, hi3, hm3⟩)
        go_ret
        exact ⟨rfl, hi3, hmm.trans hm3 (fun _ e => .inl e)⟩
      · have hor : ¬ (most < 0 ∨ most < (n2.toNat : Int)) := by omega
        obtain rfl : R = (s2, (n2.toNat : Int)) := by rw [HR.out, if_neg hor]
        have h2 : ¬ most < nb64 n2 := h1
        have hw2 := count_end most n2 hor HM.out
        have HW := Lib.hid hw2
        clear h1 hor hw2
        go_wp2
        go_ret
        refine ⟨?_, hi2, hmm⟩
        show Ending.returned (.int .i64 (wrap64 (nb64 n2))) = _
        rw [HW.out]
theorem inCount_any (g : Nat) (r : Option Nat) (s : Pk.Rd) (most : Int) (hm : most < 9223372036854775808) (w : World) (h : InS w g r s) :
    Calls Try.prog 30 #[.pointer (some ⟨g, 0, none⟩), .int .i64 most] w (InPost encI g r (Pk.rdCount s most) w) := by
  rw [← Pk.cdCount_eq]
  exact inCount_cd g r s most hm w h
theorem inCount_none (w : World) : Calls Try.prog 30 #[.pointer none, .int .i64 9] w fun e w' => e = .returned (.int .i64 0) ∧ w = w' := by
  have HN := Lib.hid (inNum_none w)
  go_enter Try.func30, Try.ntmps30
  go_wp2_with (go_at_call 33; refine HN.out.mono ?_; rintro e w1 ⟨rfl, rfl⟩)
  go_ret
  exact ⟨rfl, rfl⟩
theorem rdCount_nonneg (s : Pk.Rd) (most : Int) : 0 ≤ (Pk.rdCount s most).2 := by
  unfold Pk.rdCount
  dsimp only
  split
  · exact Int.le_refl 0
  · split
    · exact Int.natCast_nonneg _
    · exact Int.le_refl 0
theorem rdCount_bad (s : Pk.Rd) (most : Int) (h : (Pk.rdCount s most).1 = none) : (Pk.rdCount s most).2 = 0 := by
  unfold Pk.rdCount at h ⊢
  dsimp only at h ⊢
  split at h
  · rfl
  · split at h
    · cases h
    · rename_i hc
      rw [if_neg hc]
theorem rdText_eq (s : Pk.Rd) (most : Int) : Pk.rdText s most = Pk.rdTake (Pk.rdCount s most).1 (Pk.rdCount s most).2.toNat := by
  have h0 := rdCount_nonneg s most
  unfold Pk.rdText
  cases hc : (Pk.rdCount s most).1 with
  | none => rfl
  | some B =>
    dsimp only [Pk.rdTake]
    by_cases h : (Pk.rdCount s most).2 ≤ B.length
    · rw [if_pos h, if_pos (by omega)]
    · rw [if_neg h, if_neg (by omega)]
set_option maxHeartbeats 4000000 in
theorem inText_any (g : Nat) (r : Option Nat) (s : Pk.Rd) (most : Int) (hm : most < 9223372036854775808) (w : World) (h : InS w g r s) :
    Calls Try.prog 60 #[.pointer (some ⟨g, 0, none⟩), .int .i64 most] w (InPost encT g r (Pk.rdText s most) w) := by
  have HC := Lib.hid (inCount_any g r s most hm w h)
  rw [rdText_eq]
  have h0 := rdCount_nonneg s most
  obtain ⟨p, hp⟩ : ∃ p, p = Pk.rdCount s most := ⟨_, rfl⟩
  rw [← hp] at HC h0 ⊢
  clear hp h
  obtain ⟨s1, n⟩ := p
  obtain ⟨k, rfl⟩ : ∃ k : Nat, n = k := ⟨n.toNat, by dsimp only at h0; omega⟩
  have HT := Lib.hid (fun (w1 : World) (h1 : InS w1 g r s1) => take_any g r s1 k w1 h1)
  obtain ⟨q, hq⟩ : ∃ q, q = Pk.rdTake s1 k := ⟨_, rfl⟩
  show Calls _ _ _ _ (InPost encT g r (Pk.rdTake s1 k) w)
  rw [← hq] at HT ⊢
  obtain ⟨s2, T⟩ := q
  clear hq h0
  go_enter Try.func60, Try.ntmps60
  go_wp2_with (first
    | (go_at_call 62; refine (HT.out _ hi1).mono ?_; rintro e w2 ⟨⟨a, m, c, rfl, hB2, hc2⟩, hi2, hm2⟩; have hst := run_string (P := Try.prog) 38 9 5 Try.underlying38 Try.underlying5 Try.underlying9 (c := c) hB2)
    | (go_at_call 30; refine HC.out.mono ?_; rintro e w1 ⟨rfl, hi1, hm1⟩))
  go_ret
  exact ⟨rfl, hi2, hm1.trans hm2 (fun _ e => .inl e)⟩
theorem inText_none (w : World) : Calls Try.prog 60 #[.pointer none, .int .i64 9] w fun e w' => e = .returned (.string (strB [])) ∧ w = w' := by
  have HC := Lib.hid (inCount_none w)
  have HT := Lib.hid (take_none 0 w)
  have hst := run_string (P := Try.prog) 38 9 5 Try.underlying38 Try.underlying5 Try.underlying9 (c := 0) (bytes_none w)
  go_enter Try.func60, Try.ntmps60
  go_wp2_with (first
    | (go_at_call 62; refine HT.out.mono ?_; rintro e w2 ⟨rfl, rfl⟩)
    | (go_at_call 30; refine HC.out.mono ?_; rintro e w1 ⟨rfl, rfl⟩))
  go_ret
  exact ⟨rfl, rfl⟩
abbrev errForm : Value := .iface 44 (.int .i64 2)
theorem inEnd_none (w : World) : Calls Try.prog 34 #[.pointer none] w fun e w' => e = .returned errForm ∧ w = w' := by
  go_enter Try.func34, Try.ntmps34
  go_wp2
  go_ret
  exact ⟨rfl, rfl⟩
theorem inEnd_no (g : Nat) (r : Option Nat) (s : Pk.Rd) (w : World) (h : InS w g r s) (he : Pk.atEnd s = false) : Calls Try.prog 34 #[.pointer (some ⟨g, 0, none⟩)] w fun e w' => e = .returned errForm ∧ w = w' := by
  obtain ⟨a, k, c, b, h1, h2, _, _, hb⟩ := h.has
  have c0 : w.cell? ⟨g, 0, none⟩ = some (.slice a k c) := h1.cell_at rfl
  have c1 : w.cell? ⟨g, 1, none⟩ = some (.bool b) := h1.cell_at rfl
  cases s with
  | none =>
    obtain rfl : b = true := hb
    clear h h1 h2 he
    go_enter Try.func34, Try.ntmps34
    go_wp2
    go_ret
    exact ⟨rfl, rfl⟩
  | some B =>
    obtain rfl : b = false := hb
    have hk : (0 : Int) < (k : Int) := by
      have := h2.1
      cases B with
      | nil => cases he
      | cons x B => simp [Pk.left] at this; omega
    have hk2 : 0 < k := by omega
    clear h h1 h2 he
    go_enter Try.func34, Try.ntmps34
    go_wp2
    go_ret
    exact ⟨rfl, rfl⟩
theorem inEnd_yes (g : Nat) (r : Option Nat) (s : Pk.Rd) (w : World) (h : InS w g r s) (he : Pk.atEnd s = true) : Calls Try.prog 34 #[.pointer (some ⟨g, 0, none⟩)] w fun e w' => e = .returned .nilIface ∧ w = w' := by
  obtain ⟨a, k, c, b, h1, h2, _, _, hb⟩ := h.has
  have c0 : w.cell? ⟨g, 0, none⟩ = some (.slice a k c) := h1.cell_at rfl
  have c1 : w.cell? ⟨g, 1, none⟩ = some (.bool b) := h1.cell_at rfl
  cases s with
  | none => cases he
  | some B =>
    obtain rfl : b = false := hb
    cases B with
    | cons x B => cases he
    | nil =>
      obtain rfl : 0 = k := h2.1
      clear h h1 h2 he
      go_enter Try.func34, Try.ntmps34
      go_wp2
      go_ret
      exact ⟨rfl, rfl⟩
/-- behind Read -/
def ReadPost8 (l : List (BitVec 8)) (w0 : World) (e : Ending) (w' : World) : Prop :=
  ∃ g r, e = .returned (.pointer (some ⟨g, 0, none⟩)) ∧ InS w' g r (some l) ∧ w0.heap.size ≤ g ∧ g < w'.heap.size ∧ (∀ k, r = some k → w0.heap.size ≤ k ∧ k < g) ∧ Below w0.heap.size w0 w'
set_option maxHeartbeats 4000000 in
theorem read_any (a : Option Addr) (n c : Nat) (l : List (BitVec 8)) (w : World) (h : Bytes8 w a n l) (hc : a = none → c = 0) (hn : n ≤ 1000000000) :
    Calls Try.prog 29 #[.slice a n c] w (ReadPost8 l w) := by
  have HC := Lib.hid (clone8_any a n c l w h hc hn)
  have HL := Lib.hid h.1
  clear h hc hn
  go_enter Try.func29, Try.ntmps29
  go_wp2_with (go_at_call 56; refine HC.out.mono ?_; rintro e w1 ⟨v1, rfl, hv1, hb1⟩; have hv2 := hv1; obtain ⟨a1, c1, rfl, hc1, h01, hB1⟩ := hv1.shape HL.out)
  go_ret
  have hb2 : Below w1.heap.size w1 (w1.alloc (.cells #[.slice a1 n c1, .bool false] 98)) := (Below.refl _ _).alloc (Nat.le_refl _) _
  refine ⟨w1.heap.size, (Value.slice a1 n c1).ownBlock, rfl, ⟨fun k e => by have := (hv2.lt_size k e).2; have := hb2.size; omega, a1, n, c1, Has.fresh _ _ _, hB1.below hb2, hc1, h01, (fun x e => by subst e; rfl)⟩, hb1.size, by simp, fun k e => hv2.lt_size k e, hb1.trans (hb2.mono hb1.size)⟩
end Go.Proofs.Ytpbijcchdjppmaa
