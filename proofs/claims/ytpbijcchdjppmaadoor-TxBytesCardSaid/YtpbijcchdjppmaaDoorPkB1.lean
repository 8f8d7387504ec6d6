/- what was put is read; what was read is put again: whole things. Nothing of the program. -/
import Derived.Test.YtpbijcchdjppmaaDoorPkF
namespace Go.Proofs.YtpbijcchdjppmaaDoor.Pk
open Go.Proofs.YtpbijcchdjppmaaDoor
theorem rdNum_some (l : List (BitVec 8)) (K : Nat) (hK : okSize K) (hl : K ≤ l.length) : rdNum (some l) K = (some (l.drop K), leV l 0 K) := by
  show (if okSize K ∧ (K : Int) ≤ l.length then _ else _) = _
  rw [if_pos ⟨hK, by omega⟩]
  rfl
theorem okSize_le {K : Nat} (hK : okSize K) : K ≤ 8 := by unfold okSize at hK; omega
theorem rd_le (x : BitVec 64) (K : Nat) (hK : okSize K) (r : List (BitVec 8)) : rdNum (some (le x K ++ r)) K = (some r, (x <<< (64 - 8 * K)) >>> (64 - 8 * K)) := by
  rw [rdNum_some _ K hK (by rw [List.length_append, le_len]; omega), leV_le x K (okSize_le hK), List.drop_append_of_le_length (by rw [le_len]; exact Nat.le_refl _), List.drop_of_length_le (by rw [le_len]; exact Nat.le_refl _)]
  rfl
theorem rd_num (x : BitVec 64) (K : Nat) (hK : okSize K) (r : List (BitVec 8)) : rdNum (some (num x K ++ r)) K = (some r, (x <<< (64 - 8 * K)) >>> (64 - 8 * K)) := by
  unfold num
  rw [if_pos hK]
  exact rd_le x K hK r
theorem low_nat (m K : Nat) (hK : K = 1 ∨ K = 2 ∨ K = 4 ∨ K = 8) (hm : m < 256 ^ K) : (((BitVec.ofInt 64 (m : Int)) <<< (64 - 8 * K)) >>> (64 - 8 * K)).toNat = m := by
  have h64 : m < 2 ^ 64 := by
    rcases hK with rfl | rfl | rfl | rfl <;> omega
  have e : (BitVec.ofInt 64 (m : Int)).toNat = m := by rw [BitVec.ofInt_natCast, BitVec.toNat_ofNat]; omega
  rw [BitVec.toNat_ushiftRight, BitVec.toNat_shiftLeft, e, Nat.shiftLeft_eq, Nat.shiftRight_eq_div_pow]
  rcases hK with rfl | rfl | rfl | rfl
  · omega
  · omega
  · omega
  · omega
theorem first_byte (t : BitVec 8) (r : List (BitVec 8)) : rdNum (some ([t] ++ r)) 1 = (some r, t.setWidth 64) := by
  show (if okSize 1 ∧ (1 : Int) ≤ (([t] ++ r).length : Nat) then _ else _) = _
  rw [if_pos ⟨.inl rfl, by simp; omega⟩]
  show (some r, 256#64 * 0#64 + (cb ([t] ++ r) 0).setWidth 64) = _
  simp [cb]
theorem rd_count (m : Nat) (most : Int) (hm : m < 9223372036854775808) (h : (m : Int) ≤ most) (r : List (BitVec 8)) : rdCount (some (count m ++ r)) most = (some r, (m : Int)) := by
  rw [← cdCount_eq]
  have main : cdMore (rdNum (some (count m ++ r)) 1) = (some r, (cdMore (rdNum (some (count m ++ r)) 1)).2) ∧ (cdMore (rdNum (some (count m ++ r)) 1)).2.toNat = m := by
    unfold count
    rw [if_neg (by omega)]
    by_cases h1 : (m : Int) ≤ 252
    · rw [if_pos h1]
      have e := rd_le (BitVec.ofInt 64 (m : Int)) 1 (.inl rfl) r
      have e2 := low_nat m 1 (.inl rfl) (by omega)
      have e' : rdNum (some (le (BitVec.ofInt 64 (m : Int)) 1 ++ r)) 1 = (some r, (BitVec.ofInt 64 (m : Int) <<< (64 - 8 * 1)) >>> (64 - 8 * 1)) := e
      rw [e']
      generalize (BitVec.ofInt 64 (m : Int) <<< (64 - 8 * 1)) >>> (64 - 8 * 1) = y at e2
      unfold cdMore
      dsimp only
      have n3 : y ≠ 253#64 := fun e => by rw [e] at e2; have : (253#64).toNat = 253 := rfl; omega
      have n4 : y ≠ 254#64 := fun e => by rw [e] at e2; have : (254#64).toNat = 254 := rfl; omega
      have n5 : y ≠ 255#64 := fun e => by rw [e] at e2; have : (255#64).toNat = 255 := rfl; omega
      rw [if_neg n3, if_neg n4, if_neg n5]
      exact ⟨rfl, e2⟩
    · rw [if_neg h1]
      have step : ∀ (t : BitVec 8) (K o : Nat), K = 1 ∨ K = 2 ∨ K = 4 ∨ K = 8 → m < 256 ^ K → o < m → above (some (le (BitVec.ofInt 64 (m : Int)) K ++ r)) o K = (some r, (BitVec.ofInt 64 (m : Int) <<< (64 - 8 * K)) >>> (64 - 8 * K)) := fun t K o hK hmK ho => by
        unfold above
        rw [rd_le _ K (by unfold okSize; omega) r]
        dsimp only
        rw [if_neg (by rw [low_nat m K hK hmK]; omega)]
      by_cases h2 : (m : Int) ≤ 65535
      · rw [if_pos h2, List.append_assoc, first_byte]
        have s := step 253#8 2 252 (.inr (.inl rfl)) (by omega) (by omega)
        have e2 := low_nat m 2 (.inr (.inl rfl)) (by omega)
        unfold cdMore
        dsimp only
        rw [if_pos (show (253#8).setWidth 64 = 253#64 by decide)]
        have s' : above (some (le (BitVec.ofInt 64 (m : Int)) 2 ++ r)) 252 2 = _ := s
        rw [s']
        exact ⟨rfl, e2⟩
      · rw [if_neg h2]
        by_cases h3 : (m : Int) ≤ 4294967295
        · rw [if_pos h3, List.append_assoc, first_byte]
          have s := step 254#8 4 65535 (.inr (.inr (.inl rfl))) (by omega) (by omega)
          have e2 := low_nat m 4 (.inr (.inr (.inl rfl))) (by omega)
          unfold cdMore
          dsimp only
          rw [if_neg (show ¬ (254#8).setWidth 64 = 253#64 by decide), if_pos (show (254#8).setWidth 64 = 254#64 by decide)]
          have s' : above (some (le (BitVec.ofInt 64 (m : Int)) 4 ++ r)) 65535 4 = _ := s
          rw [s']
          exact ⟨rfl, e2⟩
        · rw [if_neg h3, List.append_assoc, first_byte]
          have s := step 255#8 8 4294967295 (.inr (.inr (.inr rfl))) (by omega) (by omega)
          have e2 := low_nat m 8 (.inr (.inr (.inr rfl))) (by omega)
          unfold cdMore
          dsimp only
          rw [if_neg (show ¬ (255#8).setWidth 64 = 253#64 by decide), if_neg (show ¬ (255#8).setWidth 64 = 254#64 by decide), if_pos (show (255#8).setWidth 64 = 255#64 by decide)]
          have s' : above (some (le (BitVec.ofInt 64 (m : Int)) 8 ++ r)) 4294967295 8 = _ := s
          rw [s']
          exact ⟨rfl, e2⟩
  unfold cdCount
  rw [main.2, if_neg (by omega), main.1]
theorem rd_text (s r : List (BitVec 8)) (hs : s.length < 9223372036854775808) : rdText (some (text s ++ r)) s.length = (some r, s) := by
  have e : rdCount (some (text s ++ r)) s.length = (some (s ++ r), (s.length : Int)) := by
    unfold text
    rw [List.append_assoc]
    exact rd_count s.length s.length hs (Int.le_refl _) (s ++ r)
  unfold rdText
  rw [e]
  dsimp only
  rw [if_pos (by rw [List.length_append]; omega)]
  simp
theorem rd_hash (h r : List (BitVec 8)) (hh : h.length = 32) : rdHash (some (h ++ r)) = (some r, h) := by
  show (if 32 ≤ (h ++ r).length then _ else _) = _
  rw [if_pos (by rw [List.length_append]; omega), ← hh]
  simp
/-! put again -/
theorem num_again (B : List (BitVec 8)) (z : Int) (C : List (BitVec 8)) (h : (rdNum (some B) z).1 = some C) : num (rdNum (some B) z).2 z ++ C = B := by
  have hc : okSize z ∧ z ≤ B.length := by
    refine Classical.byContradiction fun hn => ?_
    have e : rdNum (some B) z = (none, 0) := by
      show (if okSize z ∧ z ≤ B.length then _ else _) = _
      rw [if_neg hn]
    rw [e] at h
    cases h
  obtain ⟨K, rfl⟩ : ∃ K : Nat, z = K := ⟨z.toNat, by have := hc.1; unfold okSize at this; omega⟩
  have e := rdNum_some B K hc.1 (by omega)
  rw [e] at h ⊢
  injection h with h
  subst h
  unfold num
  rw [if_pos hc.1]
  have := le_leV B K (okSize_le hc.1) (by omega)
  show le (leV B 0 K) ((K : Int).toNat) ++ B.drop K = B
  rw [show ((K : Int).toNat) = K from rfl, this, List.take_append_drop]
theorem ofInt_toNat (v : BitVec 64) : BitVec.ofInt 64 (v.toNat : Int) = v := by rw [BitVec.ofInt_natCast, BitVec.ofNat_toNat, BitVec.setWidth_eq]
theorem above_again (b : BitVec 8) (r : List (BitVec 8)) (K o : Nat) (C : List (BitVec 8)) (hK : K = 2 ∧ o = 252 ∧ b = 253#8 ∨ K = 4 ∧ o = 65535 ∧ b = 254#8 ∨ K = 8 ∧ o = 4294967295 ∧ b = 255#8) (h : (above (some r) o K).1 = some C) :
    count (above (some r) o K).2.toNat ++ C = b :: r := by
  unfold above at h ⊢
  by_cases hle : (rdNum (some r) K).2.toNat ≤ o
  · rw [if_pos hle] at h; cases h
  · rw [if_neg hle] at h ⊢
    have e := num_again r K C h
    have hb := leV_lt r K 0
    have hs : okSize K := by unfold okSize; omega
    have hv : (rdNum (some r) K).2.toNat < 256 ^ K := by
      by_cases hl : K ≤ r.length
      · rw [rdNum_some r K hs hl]; exact hb
      · have e0 : rdNum (some r) K = (none, 0) := by
          show (if okSize K ∧ (K : Int) ≤ r.length then _ else _) = _
          rw [if_neg (by omega)]
        rw [e0] at h; cases h
    generalize (rdNum (some r) K).2 = v at e hle hv
    unfold num at e
    rw [if_pos hs, show ((K : Int).toNat) = K from rfl] at e
    rw [← e]
    unfold count
    rw [if_neg (by omega), ofInt_toNat]
    rcases hK with ⟨rfl, rfl, rfl⟩ | ⟨rfl, rfl, rfl⟩ | ⟨rfl, rfl, rfl⟩
    · rw [if_neg (by omega), if_pos (by omega)]; rfl
    · rw [if_neg (by omega), if_neg (by omega), if_pos (by omega)]; rfl
    · rw [if_neg (by omega), if_neg (by omega), if_neg (by omega)]; rfl
theorem count_again (B : List (BitVec 8)) (most : Int) (C : List (BitVec 8)) (h : (rdCount (some B) most).1 = some C) : count (rdCount (some B) most).2 ++ C = B := by
  rw [← cdCount_eq] at h ⊢
  unfold cdCount at h ⊢
  split at h
  · cases h
  · rename_i hn
    rw [if_neg hn]
    clear hn
    dsimp only at h ⊢
    cases B with
    | nil =>
      have e : rdNum (some []) 1 = (none, 0) := rfl
      rw [e] at h
      have e2 : cdMore ((none, 0) : Rd × BitVec 64) = (none, 0) := rfl
      rw [e2] at h
      cases h
    | cons b r =>
      have e := first_byte b r
      have e' : rdNum (some (b :: r)) 1 = (some r, b.setWidth 64) := e
      rw [e'] at h ⊢
      have hb : (b.setWidth 64).toNat = b.toNat := by
        rw [BitVec.toNat_setWidth]
        have := b.isLt
        omega
      have hlt := b.isLt
      have key : ∀ k : Nat, k < 256 → b.setWidth 64 = BitVec.ofNat 64 k → b = BitVec.ofNat 8 k := fun k hk e => by
        apply BitVec.eq_of_toNat_eq
        rw [← hb, e, BitVec.toNat_ofNat, BitVec.toNat_ofNat]
        omega
      unfold cdMore at h ⊢
      dsimp only at h ⊢
      by_cases h3 : b.setWidth 64 = 253#64
      · rw [if_pos h3] at h ⊢
        exact above_again b r 2 252 C (.inl ⟨rfl, rfl, key 253 (by omega) h3⟩) h
      · rw [if_neg h3] at h ⊢
        by_cases h4 : b.setWidth 64 = 254#64
        · rw [if_pos h4] at h ⊢
          exact above_again b r 4 65535 C (.inr (.inl ⟨rfl, rfl, key 254 (by omega) h4⟩)) h
        · rw [if_neg h4] at h ⊢
          by_cases h5 : b.setWidth 64 = 255#64
          · rw [if_pos h5] at h ⊢
            exact above_again b r 8 4294967295 C (.inr (.inr ⟨rfl, rfl, key 255 (by omega) h5⟩)) h
          · rw [if_neg h5] at h ⊢
            have n3 : b.toNat ≠ 253 := fun h => h3 (BitVec.eq_of_toNat_eq (by rw [hb, h]; rfl))
            have n4 : b.toNat ≠ 254 := fun h => h4 (BitVec.eq_of_toNat_eq (by rw [hb, h]; rfl))
            have n5 : b.toNat ≠ 255 := fun h => h5 (BitVec.eq_of_toNat_eq (by rw [hb, h]; rfl))
            dsimp only at h ⊢
            injection h with h
            subst h
            unfold count
            rw [if_neg (by omega), if_pos (by rw [hb]; omega), ofInt_toNat]
            simp [le]
theorem text_again (B : List (BitVec 8)) (most : Int) (C : List (BitVec 8)) (h : (rdText (some B) most).1 = some C) : text (rdText (some B) most).2 ++ C = B := by
  unfold rdText at h ⊢
  cases hc : (rdCount (some B) most).1 with
  | none => rw [hc] at h; cases h
  | some D =>
    rw [hc] at h
    dsimp only at h ⊢
    have e := count_again B most D hc
    have h0 : 0 ≤ (rdCount (some B) most).2 := by
      unfold rdCount
      dsimp only
      split
      · exact Int.le_refl 0
      · split
        · exact Int.natCast_nonneg _
        · exact Int.le_refl 0
    generalize (rdCount (some B) most).2 = z at h e h0
    obtain ⟨k, rfl⟩ : ∃ k : Nat, z = k := ⟨z.toNat, by omega⟩
    by_cases hk : (k : Int) ≤ D.length
    · rw [if_pos hk] at h ⊢
      injection h with h
      subst h
      unfold text
      have hl : (D.take ((k : Int).toNat)).length = k := by rw [List.length_take]; omega
      rw [hl, List.append_assoc, List.take_append_drop, e]
    · rw [if_neg hk] at h; cases h
theorem hash_again (B : List (BitVec 8)) (C : List (BitVec 8)) (h : (rdHash (some B)).1 = some C) : (rdHash (some B)).2 ++ C = B := by
  have e : rdHash (some B) = if 32 ≤ B.length then (some (B.drop 32), B.take 32) else (none, List.replicate 32 0#8) := rfl
  rw [e] at h ⊢
  by_cases hk : 32 ≤ B.length
  · rw [if_pos hk] at h ⊢
    injection h with h
    subst h
    exact List.take_append_drop 32 B
  · rw [if_neg hk] at h; cases h
end Go.Proofs.YtpbijcchdjppmaaDoor.Pk
