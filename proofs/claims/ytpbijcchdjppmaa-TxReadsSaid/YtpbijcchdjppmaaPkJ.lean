/- package pack: In.Num, above, Count, Text, Hash, Left, End; Read -/
import Derived.Test.YtpbijcchdjppmaaPkI
import Derived.Test.YtpbijcchdjppmaaPkP
namespace Go.Proofs.Ytpbijcchdjppmaa
open Go Go.RowKit Go.ChangeShapes Go.WideShapes
theorem Pk.leV_snoc (B : List (BitVec 8)) (k : Nat) : Pk.leV B 0 k ||| ((cb B k).setWidth 64 <<< (8 * k)) = Pk.leV B 0 (k + 1) := by
  apply BitVec.eq_of_getLsbD_eq
  intro m hm
  rw [BitVec.getLsbD_or, Pk.leV_bit _ _ _ _ hm, Pk.leV_bit _ _ _ _ hm, BitVec.getLsbD_shiftLeft, BitVec.getLsbD_setWidth, Nat.zero_add]
  by_cases h1 : m < 8 * k
  · simp [h1, show m < 8 * (k + 1) by omega]
  · by_cases h2 : m < 8 * (k + 1)
    · have e1 : m / 8 = k := by omega
      have e2 : m % 8 = m - 8 * k := by omega
      rw [e1, e2]
      simp [h1, h2, hm, show m - 8 * k < 64 by omega]
    · rw [BitVec.getLsbD_of_ge (cb B k) _ (by omega)]
      simp [h1, h2]
theorem Pk.leV_take (B : List (BitVec 8)) (K k : Nat) (hk : k ≤ K) : Pk.leV (B.take K) 0 k = Pk.leV B 0 k := by
  have : ∀ (k i : Nat), i + k ≤ K → Pk.leV (B.take K) i k = Pk.leV B i k := by
    intro k
    induction k with
    | zero => intro i _; rfl
    | succ k ih =>
      intro i hi
      show 256#64 * Pk.leV (B.take K) (i + 1) k + (cb (B.take K) i).setWidth 64 = 256#64 * Pk.leV B (i + 1) k + (cb B i).setWidth 64
      rw [ih (i + 1) (by omega)]
      congr 2
      unfold cb
      rw [List.getD_eq_getElem?_getD, List.getD_eq_getElem?_getD, List.getElem?_take, if_pos (by omega)]
  exact this k 0 (by omega)
abbrev encU : BitVec 64 → Value := fun x => .int .u64 (nb64 x)
abbrev encI : Int → Value := fun z => .int .i64 z
abbrev encT : List (BitVec 8) → Value := fun l => .string (strB l)
abbrev encH : List (BitVec 8) → Value := fun l => .agg (blist l).toArray
theorem rdNum_take (s : Pk.Rd) (K : Nat) (hK : Pk.okSize K) : Pk.rdNum s K = ((Pk.rdTake s K).1, Pk.leV (Pk.rdTake s K).2 0 (Pk.rdTake s K).2.length) := by
  cases s with
  | none => rfl
  | some B =>
    show (if Pk.okSize K ∧ (K : Int) ≤ B.length then _ else _) = (((if K ≤ B.length then _ else _) : Pk.Rd × List (BitVec 8)).1, Pk.leV ((if K ≤ B.length then _ else _) : Pk.Rd × List (BitVec 8)).2 0 ((if K ≤ B.length then _ else _) : Pk.Rd × List (BitVec 8)).2.length)
    by_cases h : K ≤ B.length
    · rw [if_pos ⟨hK, by omega⟩, if_pos h]
      dsimp only
      rw [List.length_take, Nat.min_eq_left h, Pk.leV_take B K K (Nat.le_refl _)]
      rfl
    · rw [if_neg (by omega), if_neg h]
      rfl
theorem inNum_none_no (z : Int) (hz : ¬ Pk.okSize z) (w : World) : Calls Try.prog 33 #[.pointer none, .int .i64 z] w fun e w' => e = .returned (.int .u64 0) ∧ w = w' := by
  have HI := Lib.hid (isSize_no z hz w)
  have HF := Lib.hid (fail_none w)
  clear hz
  go_enter Try.func33, Try.ntmps33
  go_wp2_with (first
    | (go_at_call 58; refine HF.out.mono ?_; rintro e w' ⟨⟨u, rfl⟩, rfl⟩)
    | (go_at_call 61; refine HI.out.mono ?_; rintro e w' ⟨rfl, rfl⟩))
  go_ret
  exact ⟨rfl, rfl⟩
set_option maxHeartbeats 4000000 in
theorem inNum_no (g : Nat) (r : Option Nat) (s : Pk.Rd) (z : Int) (hz : ¬ Pk.okSize z) (w : World) (h : InS w g r s) : Calls Try.prog 33 #[.pointer (some ⟨g, 0, none⟩), .int .i64 z] w (InPost encU g r (none, 0) w) := by
  have HI := Lib.hid (isSize_no z hz w)
  have HF := Lib.hid (fail_any g r s w h)
  clear hz h
  go_enter Try.func33, Try.ntmps33
  go_wp2_with (first
    | (go_at_call 58; refine HF.out.mono ?_; rintro e w1 ⟨⟨u, rfl⟩, hi1, hm1⟩)
    | (go_at_call 61; refine HI.out.mono ?_; rintro e w' ⟨rfl, rfl⟩))
  go_ret
  exact ⟨rfl, hi1, hm1⟩
set_option maxRecDepth 100000 in
set_option maxHeartbeats 4000000 in
theorem inNum_ok (g : Nat) (r : Option Nat) (s : Pk.Rd) (K : Nat) (hK : Pk.okSize K) (w : World) (h : InS w g r s) : Calls Try.prog 33 #[.pointer (some ⟨g, 0, none⟩), .int .i64 K] w (InPost encU g r (Pk.rdNum s K) w) := by
  have HI := Lib.hid (isSize_ok K hK w)
  have HT := Lib.hid (take_any g r s K w h)
  have HE := Lib.hid (rdNum_take s K hK)
  have hTl : (Pk.rdTake s K).2.length ≤ K := by
    cases s with
    | none => simp [Pk.rdTake]
    | some B =>
      show ((if K ≤ B.length then _ else _) : Pk.Rd × List (BitVec 8)).2.length ≤ K
      split
      · simp; omega
      · simp
  have hK8 : K ≤ 8 := by unfold Pk.okSize at hK; omega
  obtain ⟨p, hp⟩ : ∃ p, p = Pk.rdTake s K := ⟨_, rfl⟩
  rw [← hp] at HT HE hTl
  obtain ⟨s2, T⟩ := p
  obtain ⟨m, hm⟩ : ∃ m, T.length = m := ⟨_, rfl⟩
  have hm8 : m ≤ 8 := by rw [← hm]; exact Nat.le_trans hTl hK8
  have HL := Lib.hid hm
  clear hK h hp hTl hm
  go_enter Try.func33, Try.ntmps33
  go_wp2_with (first
    | (go_at_call 62; refine HT.out.mono ?_; rintro e w1 ⟨⟨a, n, c, rfl, hB1, hc1⟩, hi1, hm1⟩; obtain rfl : n = m := hB1.1.symm.trans HL.out)
    | (go_at_call 61; refine HI.out.mono ?_; rintro e w' ⟨rfl, rfl⟩))
  have HB := Lib.hid hB1
  clear hB1
  go_loop [5, 17] (fun xv iv => ∃ i : Nat, i ≤ n ∧ iv = .int .i64 i ∧ xv = .int .u64 (nb64 (Pk.leV T 0 i))) (fun _ iv => n - (intOf iv).toNat)
  case atStart => exact ⟨0, Nat.zero_le _, rfl, rfl⟩
  case round =>
    obtain ⟨i, hi, rfl, rfl⟩ := hrel
    by_cases hlt : i < n
    · have hii : (i : Int) < (n : Int) := by omega
      obtain ⟨ad, rfl, hx⟩ := HB.out.2.2 i hlt
      obtain ⟨b, hb⟩ : ∃ b, b = cb T i := ⟨_, rfl⟩
      obtain ⟨y, hy⟩ : ∃ y, y = Pk.leV T 0 i := ⟨_, rfl⟩
      have HS := Lib.hid (show y ||| (b.setWidth 64 <<< (8 * i)) = Pk.leV T 0 (i + 1) by rw [hb, hy]; exact Pk.leV_snoc T i)
      rw [← hb] at hx
      rw [← hy]
      have hshl : ∀ t, binOp .shl t (.int .u64 (nb64 (b.setWidth 64))) (.int .i64 (8 * (i : Int))) = pure (.int .u64 (nb64 (b.setWidth 64 <<< (8 * i)))) := fun t => by
        have := u64_shl_n t .i64 (b.setWidth 64) (8 * i)
        rwa [show ((8 * i : Nat) : Int) = 8 * (i : Int) by omega] at this
      clear hb hy
      go_wp2
      go_round
      case rel => exact ⟨i + 1, by omega, by go_num, by rw [← HS.out]⟩
      case measure => (simp [intOf]; try omega)
    · have hin : i = n := by omega
      subst hin
      have hii : ¬ (i : Int) < (i : Int) := by omega
      go_wp2
      go_ret
      have e1 : Pk.rdNum s K = (s2, Pk.leV T 0 i) := by rw [HE.out, HL.out]
      rw [e1]
      exact ⟨rfl, hi1, hm1⟩
theorem inNum_any (g : Nat) (r : Option Nat) (s : Pk.Rd) (z : Int) (w : World) (h : InS w g r s) : Calls Try.prog 33 #[.pointer (some ⟨g, 0, none⟩), .int .i64 z] w (InPost encU g r (Pk.rdNum s z) w) := by
  by_cases hz : Pk.okSize z
  · have hK : ∃ K : Nat, z = K := ⟨z.toNat, by unfold Pk.okSize at hz; omega⟩
    obtain ⟨K, rfl⟩ := hK
    exact inNum_ok g r s K hz w h
  · have e : Pk.rdNum s z = (none, 0) := by
      cases s with
      | none => rfl
      | some B =>
        show (if Pk.okSize z ∧ z ≤ B.length then _ else _) = _
        rw [if_neg (fun h => hz h.1)]
    rw [e]
    exact inNum_no g r s z hz w h
theorem inNum_none (w : World) : Calls Try.prog 33 #[.pointer none, .int .i64 1] w fun e w' => e = .returned (.int .u64 0) ∧ w = w' := by
  have HI := Lib.hid (isSize_ok 1 (.inl rfl) w)
  have HT := Lib.hid (take_none 1 w)
  go_enter Try.func33, Try.ntmps33
  go_wp2_with (first
    | (go_at_call 62; refine HT.out.mono ?_; rintro e w1 ⟨rfl, rfl⟩)
    | (go_at_call 61; refine HI.out.mono ?_; rintro e w' ⟨rfl, rfl⟩))
  go_loop [5, 17] (fun xv iv => iv = .int .i64 0 ∧ xv = .int .u64 0) (fun _ _ => 0)
  case atStart => exact ⟨rfl, rfl⟩
  case round =>
    obtain ⟨rfl, rfl⟩ := hrel
    go_wp2
    go_ret
    exact ⟨rfl, rfl⟩
set_option maxHeartbeats 4000000 in
/-- a number that must be above another one -/
theorem inAbove_any (g : Nat) (r : Option Nat) (s : Pk.Rd) (o : Nat) (z : Int) (ho : o < 2 ^ 64) (w : World) (h : InS w g r s) : Calls Try.prog 57 #[.pointer (some ⟨g, 0, none⟩), .int .u64 (nb64 (BitVec.ofNat 64 o)), .int .i64 z] w (InPost encU g r (Pk.above s o z) w) := by
  have HN := Lib.hid (inNum_any g r s z w h)
  obtain ⟨p, hp⟩ : ∃ p, p = Pk.rdNum s z := ⟨_, rfl⟩
  have ha : Pk.above s o z = if p.2.toNat ≤ o then (none, 0) else p := by rw [hp]; rfl
  rw [ha]
  rw [← hp] at HN
  obtain ⟨s1, n⟩ := p
  have hon : (BitVec.ofNat 64 o).toNat = o := by rw [BitVec.toNat_ofNat]; omega
  obtain ⟨O, hO⟩ : ∃ O, O = BitVec.ofNat 64 o := ⟨_, rfl⟩
  rw [← hO] at hon ⊢
  dsimp only
  clear ha hp h hO
  by_cases hle : n.toNat ≤ o
  · rw [if_pos hle]
    have hle2 : nb64 n ≤ nb64 O := by unfold nb64; omega
    clear hle hon ho
    go_enter Try.func57, Try.ntmps57
    go_wp2_with (first
      | (go_at_call 58; refine (fail_any g r s1 _ hi1).mono ?_; rintro e w2 ⟨⟨u, rfl⟩, hi2, hm2⟩)
      | (go_at_call 33; refine HN.out.mono ?_; rintro e w1 ⟨rfl, hi1, hm1⟩))
    go_ret
    exact ⟨rfl, hi2, hm1.trans hm2 (fun _ e => .inl e)⟩
  · rw [if_neg hle]
    have hle2 : ¬ (nb64 n ≤ nb64 O) := by unfold nb64; omega
    clear hle hon ho
    go_enter Try.func57, Try.ntmps57
    go_wp2_with (go_at_call 33; refine HN.out.mono ?_; rintro e w1 ⟨rfl, hi1, hm1⟩)
    go_ret
    exact ⟨rfl, hi1, hm1⟩
end Go.Proofs.Ytpbijcchdjppmaa
