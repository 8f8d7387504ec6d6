/- what was put is read; what was read is put again: whole things. Nothing of the program. · transactions read off bytes: pure; what is put is read, what is read is put · (mkrd.py)  the reference's ReadText, ReadHash · (mkrd.py)  the reference's ReadHash (mkpkw.py) · a spend that is built field by field; a reader beside other blocks; words as ints: for the reference's Read · A slice literal of one record. Nothing of the program. · what is left of a reader while a transaction is read; the reader beside other blocks · package tx: a spend, a coin read (mktxf.py) · package tx: Read (mktxfr.py) -/
import Derived.Test.YtpbijcchdjppmaaPkF
import Derived.Test.YtpbijcchdjppmaaTxK
import Derived.Test.YtpbijcchdjppmaaRdQ
import Derived.Test.YtpbijcchdjppmaaSm
import Derived.Test.YtpbijcchdjppmaaHr
import Derived.Test.YtpbijcchdjppmaaPkL
import Derived.Test.YtpbijcchdjppmaaRc
import Derived.Test.YtpbijcchdjppmaaTxA
import Derived.Test.YtpbijcchdjppmaaTxC
/-! what was put is read; what was read is put again: whole things. Nothing of the program. -/
namespace Go.Proofs.Ytpbijcchdjppmaa.Pk
open Go.Proofs.Ytpbijcchdjppmaa
theorem rdNum_some (l : List (BitVec 8)) (K : Nat) (hK : okSize K) (hl : K ≤ l.length) : rdNum (some l) K = (some (l.drop K), leV l 0 K) := by
  show (if okSize K ∧ (K : Int) ≤ l.length then _ else _) = _
  rw [if_pos ⟨hK, by omega⟩]
  rfl
theorem okSize_le {K : Nat} (hK : okSize K) : K ≤ 8 := by unfold okSize at hK; omega
theorem rd_le (x : BitVec 64) (K : Nat) (hK : okSize K) (r : List (BitVec 8)) : rdNum (some (le x K ++ r)) K = (some r, (x <<< (64 - 8 * K)) >>> (64 - 8 * K)) := by
  rw [rdNum_some _ K hK (by rw [List.length_append, le_len]; omega), leV_le x K (okSize_le hK), List.drop_append_of_le_length (by rw [le_len]; exact Nat.le_refl _), List.drop_of_length_le (by rw [le_len]; exact Nat.le_refl _)]
  rfl
theorem rd_num (x : BitVec 64) (K : Nat) (hK : okSize K) (r : List (BitVec 8)) : rdNum (some (num x K ++ r)) K = (some r, (x <<< (64 - 8 * K)) >>> (64 - 8 * K)) := by
  unfold num
  rw [if_pos hK]
  exact rd_le x K hK r
theorem low_nat (m K : Nat) (hK : K = 1 ∨ K = 2 ∨ K = 4 ∨ K = 8) (hm : m < 256 ^ K) : (((BitVec.ofInt 64 (m : Int)) <<< (64 - 8 * K)) >>> (64 - 8 * K)).toNat = m := by
  have h64 : m < 2 ^ 64 := by
    rcases hK with rfl | rfl | rfl | rfl <;> omega
  have e : (BitVec.ofInt 64 (m : Int)).toNat = m := by rw [BitVec.ofInt_natCast, BitVec.toNat_ofNat]; omega
  rw [BitVec.toNat_ushiftRight, BitVec.toNat_shiftLeft, e, Nat.shiftLeft_eq, Nat.shiftRight_eq_div_pow]
  rcases hK with rfl | rfl | rfl | rfl
  · omega
  · omega
  · omega
  · omega
theorem first_byte (t : BitVec 8) (r : List (BitVec 8)) : rdNum (some ([t] ++ r)) 1 = (some r, t.setWidth 64) := by
  show (if okSize 1 ∧ (1 : Int) ≤ (([t] ++ r).length : Nat) then _ else _) = _
  rw [if_pos ⟨.inl rfl, by simp; omega⟩]
  show (some r, 256#64 * 0#64 + (cb ([t] ++ r) 0).setWidth 64) = _
  simp [cb]
theorem rd_count (m : Nat) (most : Int) (hm : m < 9223372036854775808) (h : (m : Int) ≤ most) (r : List (BitVec 8)) : rdCount (some (count m ++ r)) most = (some r, (m : Int)) := by
  rw [← cdCount_eq]
  have main : cdMore (rdNum (some (count m ++ r)) 1) = (some r, (cdMore (rdNum (some (count m ++ r)) 1)).2) ∧ (cdMore (rdNum (some (count m ++ r)) 1)).2.toNat = m := by
    unfold count
    rw [if_neg (by omega)]
    by_cases h1 : (m : Int) ≤ 252
    · rw [if_pos h1]
      have e := rd_le (BitVec.ofInt 64 (m : Int)) 1 (.inl rfl) r
      have e2 := low_nat m 1 (.inl rfl) (by omega)
      have e' : rdNum (some (le (BitVec.ofInt 64 (m : Int)) 1 ++ r)) 1 = (some r, (BitVec.ofInt 64 (m : Int) <<< (64 - 8 * 1)) >>> (64 - 8 * 1)) := e
      rw [e']
      generalize (BitVec.ofInt 64 (m : Int) <<< (64 - 8 * 1)) >>> (64 - 8 * 1) = y at e2
      unfold cdMore
      dsimp only
      have n3 : y ≠ 253#64 := fun e => by rw [e] at e2; have : (253#64).toNat = 253 := rfl; omega
      have n4 : y ≠ 254#64 := fun e => by rw [e] at e2; have : (254#64).toNat = 254 := rfl; omega
      have n5 : y ≠ 255#64 := fun e => by rw [e] at e2; have : (255#64).toNat = 255 := rfl; omega
      rw [if_neg n3, if_neg n4, if_neg n5]
      exact ⟨rfl, e2⟩
    · rw [if_neg h1]
      have step : ∀ (t : BitVec 8) (K o : Nat), K = 1 ∨ K = 2 ∨ K = 4 ∨ K = 8 → m < 256 ^ K → o < m → above (some (le (BitVec.ofInt 64 (m : Int)) K ++ r)) o K = (some r, (BitVec.ofInt 64 (m : Int) <<< (64 - 8 * K)) >>> (64 - 8 * K)) := fun t K o hK hmK ho => by
        unfold above
        rw [rd_le _ K (by unfold okSize; omega) r]
        dsimp only
        rw [if_neg (by rw [low_nat m K hK hmK]; omega)]
      by_cases h2 : (m : Int) ≤ 65535
      · rw [if_pos h2, List.append_assoc, first_byte]
        have s := step 253#8 2 252 (.inr (.inl rfl)) (by omega) (by omega)
        have e2 := low_nat m 2 (.inr (.inl rfl)) (by omega)
        unfold cdMore
        dsimp only
        rw [if_pos (show (253#8).setWidth 64 = 253#64 by decide)]
        have s' : above (some (le (BitVec.ofInt 64 (m : Int)) 2 ++ r)) 252 2 = _ := s
        rw [s']
        exact ⟨rfl, e2⟩
      · rw [if_neg h2]
        by_cases h3 : (m : Int) ≤ 4294967295
        · rw [if_pos h3, List.append_assoc, first_byte]
          have s := step 254#8 4 65535 (.inr (.inr (.inl rfl))) (by omega) (by omega)
          have e2 := low_nat m 4 (.inr (.inr (.inl rfl))) (by omega)
          unfold cdMore
          dsimp only
          rw [if_neg (show ¬ (254#8).setWidth 64 = 253#64 by decide), if_pos (show (254#8).setWidth 64 = 254#64 by decide)]
          have s' : above (some (le (BitVec.ofInt 64 (m : Int)) 4 ++ r)) 65535 4 = _ := s
          rw [s']
          exact ⟨rfl, e2⟩
        · rw [if_neg h3, List.append_assoc, first_byte]
          have s := step 255#8 8 4294967295 (.inr (.inr (.inr rfl))) (by omega) (by omega)
          have e2 := low_nat m 8 (.inr (.inr (.inr rfl))) (by omega)
          unfold cdMore
          dsimp only
          rw [if_neg (show ¬ (255#8).setWidth 64 = 253#64 by decide), if_neg (show ¬ (255#8).setWidth 64 = 254#64 by decide), if_pos (show (255#8).setWidth 64 = 255#64 by decide)]
          have s' : above (some (le (BitVec.ofInt 64 (m : Int)) 8 ++ r)) 4294967295 8 = _ := s
          rw [s']
          exact ⟨rfl, e2⟩
  unfold cdCount
  rw [main.2, if_neg (by omega), main.1]
theorem rd_text (s r : List (BitVec 8)) (hs : s.length < 9223372036854775808) : rdText (some (text s ++ r)) s.length = (some r, s) := by
  have e : rdCount (some (text s ++ r)) s.length = (some (s ++ r), (s.length : Int)) := by
    unfold text
    rw [List.append_assoc]
    exact rd_count s.length s.length hs (Int.le_refl _) (s ++ r)
  unfold rdText
  rw [e]
  dsimp only
  rw [if_pos (by rw [List.length_append]; omega)]
  simp
theorem rd_hash (h r : List (BitVec 8)) (hh : h.length = 32) : rdHash (some (h ++ r)) = (some r, h) := by
  show (if 32 ≤ (h ++ r).length then _ else _) = _
  rw [if_pos (by rw [List.length_append]; omega), ← hh]
  simp
/-! put again -/
theorem num_again (B : List (BitVec 8)) (z : Int) (C : List (BitVec 8)) (h : (rdNum (some B) z).1 = some C) : num (rdNum (some B) z).2 z ++ C = B := by
  have hc : okSize z ∧ z ≤ B.length := by
    refine Classical.byContradiction fun hn => ?_
    have e : rdNum (some B) z = (none, 0) := by
      show (if okSize z ∧ z ≤ B.length then _ else _) = _
      rw [if_neg hn]
    rw [e] at h
    cases h
  obtain ⟨K, rfl⟩ : ∃ K : Nat, z = K := ⟨z.toNat, by have := hc.1; unfold okSize at this; omega⟩
  have e := rdNum_some B K hc.1 (by omega)
  rw [e] at h ⊢
  injection h with h
  subst h
  unfold num
  rw [if_pos hc.1]
  have := le_leV B K (okSize_le hc.1) (by omega)
  show le (leV B 0 K) ((K : Int).toNat) ++ B.drop K = B
  rw [show ((K : Int).toNat) = K from rfl, this, List.take_append_drop]
theorem ofInt_toNat (v : BitVec 64) : BitVec.ofInt 64 (v.toNat : Int) = v := by rw [BitVec.ofInt_natCast, BitVec.ofNat_toNat, BitVec.setWidth_eq]
theorem above_again (b : BitVec 8) (r : List (BitVec 8)) (K o : Nat) (C : List (BitVec 8)) (hK : K = 2 ∧ o = 252 ∧ b = 253#8 ∨ K = 4 ∧ o = 65535 ∧ b = 254#8 ∨ K = 8 ∧ o = 4294967295 ∧ b = 255#8) (h : (above (some r) o K).1 = some C) :
    count (above (some r) o K).2.toNat ++ C = b :: r := by
  unfold above at h ⊢
  by_cases hle : (rdNum (some r) K).2.toNat ≤ o
  · rw [if_pos hle] at h; cases h
  · rw [if_neg hle] at h ⊢
    have e := num_again r K C h
    have hb := leV_lt r K 0
    have hs : okSize K := by unfold okSize; omega
    have hv : (rdNum (some r) K).2.toNat < 256 ^ K := by
      by_cases hl : K ≤ r.length
      · rw [rdNum_some r K hs hl]; exact hb
      · have e0 : rdNum (some r) K = (none, 0) := by
          show (if okSize K ∧ (K : Int) ≤ r.length then _ else _) = _
          rw [if_neg (by omega)]
        rw [e0] at h; cases h
    generalize (rdNum (some r) K).2 = v at e hle hv
    unfold num at e
    rw [if_pos hs, show ((K : Int).toNat) = K from rfl] at e
    rw [← e]
    unfold count
    rw [if_neg (by omega), ofInt_toNat]
    rcases hK with ⟨rfl, rfl, rfl⟩ | ⟨rfl, rfl, rfl⟩ | ⟨rfl, rfl, rfl⟩
    · rw [if_neg (by omega), if_pos (by omega)]; rfl
    · rw [if_neg (by omega), if_neg (by omega), if_pos (by omega)]; rfl
    · rw [if_neg (by omega), if_neg (by omega), if_neg (by omega)]; rfl
theorem count_again (B : List (BitVec 8)) (most : Int) (C : List (BitVec 8)) (h : (rdCount (some B) most).1 = some C) : count (rdCount (some B) most).2 ++ C = B := by
  rw [← cdCount_eq] at h ⊢
  unfold cdCount at h ⊢
  split at h
  · cases h
  · rename_i hn
    rw [if_neg hn]
    clear hn
    dsimp only at h ⊢
    cases B with
    | nil =>
      have e : rdNum (some []) 1 = (none, 0) := rfl
      rw [e] at h
      have e2 : cdMore ((none, 0) : Rd × BitVec 64) = (none, 0) := rfl
      rw [e2] at h
      cases h
    | cons b r =>
      have e := first_byte b r
      have e' : rdNum (some (b :: r)) 1 = (some r, b.setWidth 64) := e
      rw [e'] at h ⊢
      have hb : (b.setWidth 64).toNat = b.toNat := by
        rw [BitVec.toNat_setWidth]
        have := b.isLt
        omega
      have hlt := b.isLt
      have key : ∀ k : Nat, k < 256 → b.setWidth 64 = BitVec.ofNat 64 k → b = BitVec.ofNat 8 k := fun k hk e => by
        apply BitVec.eq_of_toNat_eq
        rw [← hb, e, BitVec.toNat_ofNat, BitVec.toNat_ofNat]
        omega
      unfold cdMore at h ⊢
      dsimp only at h ⊢
      by_cases h3 : b.setWidth 64 = 253#64
      · rw [if_pos h3] at h ⊢
        exact above_again b r 2 252 C (.inl ⟨rfl, rfl, key 253 (by omega) h3⟩) h
      · rw [if_neg h3] at h ⊢
        by_cases h4 : b.setWidth 64 = 254#64
        · rw [if_pos h4] at h ⊢
          exact above_again b r 4 65535 C (.inr (.inl ⟨rfl, rfl, key 254 (by omega) h4⟩)) h
        · rw [if_neg h4] at h ⊢
          by_cases h5 : b.setWidth 64 = 255#64
          · rw [if_pos h5] at h ⊢
            exact above_again b r 8 4294967295 C (.inr (.inr ⟨rfl, rfl, key 255 (by omega) h5⟩)) h
          · rw [if_neg h5] at h ⊢
            have n3 : b.toNat ≠ 253 := fun h => h3 (BitVec.eq_of_toNat_eq (by rw [hb, h]; rfl))
            have n4 : b.toNat ≠ 254 := fun h => h4 (BitVec.eq_of_toNat_eq (by rw [hb, h]; rfl))
            have n5 : b.toNat ≠ 255 := fun h => h5 (BitVec.eq_of_toNat_eq (by rw [hb, h]; rfl))
            dsimp only at h ⊢
            injection h with h
            subst h
            unfold count
            rw [if_neg (by omega), if_pos (by rw [hb]; omega), ofInt_toNat]
            simp [le]
theorem text_again (B : List (BitVec 8)) (most : Int) (C : List (BitVec 8)) (h : (rdText (some B) most).1 = some C) : text (rdText (some B) most).2 ++ C = B := by
  unfold rdText at h ⊢
  cases hc : (rdCount (some B) most).1 with
  | none => rw [hc] at h; cases h
  | some D =>
    rw [hc] at h
    dsimp only at h ⊢
    have e := count_again B most D hc
    have h0 : 0 ≤ (rdCount (some B) most).2 := by
      unfold rdCount
      dsimp only
      split
      · exact Int.le_refl 0
      · split
        · exact Int.natCast_nonneg _
        · exact Int.le_refl 0
    generalize (rdCount (some B) most).2 = z at h e h0
    obtain ⟨k, rfl⟩ : ∃ k : Nat, z = k := ⟨z.toNat, by omega⟩
    by_cases hk : (k : Int) ≤ D.length
    · rw [if_pos hk] at h ⊢
      injection h with h
      subst h
      unfold text
      have hl : (D.take ((k : Int).toNat)).length = k := by rw [List.length_take]; omega
      rw [hl, List.append_assoc, List.take_append_drop, e]
    · rw [if_neg hk] at h; cases h
theorem hash_again (B : List (BitVec 8)) (C : List (BitVec 8)) (h : (rdHash (some B)).1 = some C) : (rdHash (some B)).2 ++ C = B := by
  have e : rdHash (some B) = if 32 ≤ B.length then (some (B.drop 32), B.take 32) else (none, List.replicate 32 0#8) := rfl
  rw [e] at h ⊢
  by_cases hk : 32 ≤ B.length
  · rw [if_pos hk] at h ⊢
    injection h with h
    subst h
    exact List.take_append_drop 32 B
  · rw [if_neg hk] at h; cases h
end Go.Proofs.Ytpbijcchdjppmaa.Pk

/-! transactions read off bytes: pure; what is put is read, what is read is put -/
namespace Go.Proofs.Ytpbijcchdjppmaa.Tx
open Go.Proofs.Ytpbijcchdjppmaa
/-- a spend, a coin off a reader; is it as it must be? -/
def rdSp (s : Pk.Rd) : Pk.Rd × Sp × Bool :=
  let h := Pk.rdHash s
  let n := Pk.rdNum h.1 4
  let k := Pk.rdText n.1 32
  let e := Pk.rdNum k.1 8
  (e.1, ⟨h.2, n.2.toNat, k.2, e.2⟩, decide (n.2.toNat < 8))
def rdCo (s : Pk.Rd) : Pk.Rd × Co × Bool :=
  let v := Pk.rdNum s 8
  let l := Pk.rdNum v.1 8
  (l.1, ⟨v.2.toInt, l.2⟩, decide (Am.Good v.2.toInt))
def rdSps (s : Pk.Rd) (ok : Bool) : Nat → Pk.Rd × List Sp × Bool
  | 0 => (s, [], ok)
  | k + 1 => ((rdSp (rdSps s ok k).1).1, (rdSps s ok k).2.1 ++ [(rdSp (rdSps s ok k).1).2.1], (rdSps s ok k).2.2 && (rdSp (rdSps s ok k).1).2.2)
def rdCos (s : Pk.Rd) (ok : Bool) : Nat → Pk.Rd × List Co × Bool
  | 0 => (s, [], ok)
  | k + 1 => ((rdCo (rdCos s ok k).1).1, (rdCos s ok k).2.1 ++ [(rdCo (rdCos s ok k).1).2.1], (rdCos s ok k).2.2 && (rdCo (rdCos s ok k).1).2.2)
/-- what is read of the spends, of the coins behind them, of the last byte -/
def rdA (B : List (BitVec 8)) : Pk.Rd × List Sp × Bool := rdSps (Pk.rdCount (some B) 8).1 true (Pk.rdCount (some B) 8).2.toNat
def rdB (B : List (BitVec 8)) : Pk.Rd × List Co × Bool := rdCos (Pk.rdCount (rdA B).1 8).1 (rdA B).2.2 (Pk.rdCount (rdA B).1 8).2.toNat
def rdF (B : List (BitVec 8)) : Pk.Rd × BitVec 64 := Pk.rdNum (rdB B).1 1
/-- whose bytes these are -/
def rdOk (B : List (BitVec 8)) : Prop := (rdB B).2.2 = true ∧ (rdF B).2.toNat ≤ 1 ∧ Pk.atEnd (rdF B).1 = true
instance (B : List (BitVec 8)) : Decidable (rdOk B) := inferInstanceAs (Decidable (_ ∧ _))
def rdT (B : List (BitVec 8)) : T := ⟨(rdA B).2.1, (rdB B).2.1, decide ((rdF B).2 = 1#64)⟩
def zT : T := ⟨[], [], false⟩
def read (B : List (BitVec 8)) : Option T := if rdOk B then some (rdT B) else none
theorem rdNum_none (z : Int) : Pk.rdNum none z = (none, 0) := rfl
theorem rdText_none (z : Int) : Pk.rdText none z = (none, []) := by
  have : (Pk.rdCount none z).1 = none := by
    unfold Pk.rdCount Pk.rdMore
    rw [rdNum_none]
    rfl
  unfold Pk.rdText
  rw [this]
theorem rdSp_none : (rdSp none).1 = none := by
  unfold rdSp
  show (Pk.rdNum (Pk.rdText (Pk.rdNum (Pk.rdHash none).1 4).1 32).1 8).1 = none
  rw [show (Pk.rdHash none).1 = none from rfl, rdNum_none, rdText_none, rdNum_none]
theorem rdCo_none : (rdCo none).1 = none := rfl
/-- a spend that may be put and read again -/
def SpGood (s : Sp) : Prop := s.h.length = 32 ∧ 0 ≤ s.n ∧ s.n ≤ 7 ∧ s.key.length ≤ 32
theorem low_all (x : BitVec 64) : (x <<< (64 - 8 * 8)) >>> (64 - 8 * 8) = x := by simp
theorem rdSp_enc (s : Sp) (hs : SpGood s) (r : List (BitVec 8)) : rdSp (some (encSp true s ++ r)) = (some r, s, true) := by
  obtain ⟨h1, h2, h3, h4⟩ := hs
  have e : encSp true s ++ r = s.h ++ (Pk.le (BitVec.ofInt 64 s.n) 4 ++ (Pk.text s.key ++ (Pk.le s.sl 8 ++ r))) := by simp [encSp]
  have q2 := Pk.rd_le (BitVec.ofInt 64 s.n) 4 (by unfold Pk.okSize; omega) (Pk.text s.key ++ (Pk.le s.sl 8 ++ r))
  have q4 := Pk.rd_le s.sl 8 (by unfold Pk.okSize; omega) r
  rw [low_all] at q4
  obtain ⟨m, hm⟩ := Int.eq_ofNat_of_zero_le h2
  have q5 := Pk.low_nat m 4 (by omega) (by have : m ≤ 7 := by omega
                                           omega)
  rw [← hm] at q5
  have q3 : Pk.rdText (some (Pk.text s.key ++ (Pk.le s.sl 8 ++ r))) 32 = (some (Pk.le s.sl 8 ++ r), s.key) := by
    have hc := Pk.rd_count s.key.length 32 (by omega) (by omega) (s.key ++ (Pk.le s.sl 8 ++ r))
    have e2 : Pk.text s.key ++ (Pk.le s.sl 8 ++ r) = Pk.count s.key.length ++ (s.key ++ (Pk.le s.sl 8 ++ r)) := by simp [Pk.text]
    unfold Pk.rdText
    rw [e2, hc]
    simp
    omega
  rw [e]
  unfold rdSp
  rw [Pk.rd_hash _ _ h1]
  show ((Pk.rdNum (Pk.rdText (Pk.rdNum _ 4).1 32).1 8).1, (⟨_, _, _, _⟩ : Sp), _) = _
  rw [show ((4 : Int)) = ((4 : Nat) : Int) from rfl, q2, q3, show ((8 : Int)) = ((8 : Nat) : Int) from rfl, q4]
  rw [q5]
  cases s
  simp only [Prod.mk.injEq, Sp.mk.injEq, true_and, and_true]
  constructor
  · simpa using hm.symm
  · simp only [decide_eq_true_eq]
    omega
theorem rdCo_enc (c : Co) (hc : CoOk c) (hg : Am.Good c.v) (r : List (BitVec 8)) : rdCo (some (encCo c ++ r)) = (some r, c, true) := by
  have e : encCo c ++ r = Pk.le (BitVec.ofInt 64 c.v) 8 ++ (Pk.le c.lock 8 ++ r) := by simp [encCo]
  have q1 := Pk.rd_le (BitVec.ofInt 64 c.v) 8 (by unfold Pk.okSize; omega) (Pk.le c.lock 8 ++ r)
  have q2 := Pk.rd_le c.lock 8 (by unfold Pk.okSize; omega) r
  rw [low_all] at q1 q2
  have q3 : (BitVec.ofInt 64 c.v).toInt = c.v := by
    rw [BitVec.toInt_ofInt]
    have h1 := hc.1
    have h2 := hc.2
    rw [Int.bmod_eq_of_le] <;> omega
  rw [e]
  unfold rdCo
  rw [show ((8 : Int)) = ((8 : Nat) : Int) from rfl, q1]
  show ((Pk.rdNum _ _).1, (⟨_, _⟩ : Co), _) = _
  rw [q2, q3]
  cases c
  simp only [Prod.mk.injEq, true_and]
  exact decide_eq_true hg
theorem rdSps_enc (L : List Sp) (hL : ∀ s, s ∈ L → SpGood s) (r : List (BitVec 8)) (ok : Bool) : ∀ k, k ≤ L.length → rdSps (some (L.flatMap (encSp true) ++ r)) ok k = (some ((L.drop k).flatMap (encSp true) ++ r), L.take k, ok)
  | 0, _ => rfl
  | k + 1, hk => by
    have ih := rdSps_enc L hL r ok k (by omega)
    have hd : L.drop k = L[k] :: L.drop (k + 1) := List.drop_eq_getElem_cons (by omega)
    have hs := rdSp_enc L[k] (hL _ (List.getElem_mem _)) ((L.drop (k + 1)).flatMap (encSp true) ++ r)
    show ((rdSp (rdSps _ ok k).1).1, (rdSps _ ok k).2.1 ++ [(rdSp (rdSps _ ok k).1).2.1], (rdSps _ ok k).2.2 && (rdSp (rdSps _ ok k).1).2.2) = _
    rw [ih]
    have e : (L.drop k).flatMap (encSp true) ++ r = encSp true L[k] ++ ((L.drop (k + 1)).flatMap (encSp true) ++ r) := by rw [hd, List.flatMap_cons, List.append_assoc]
    rw [e]
    rw [hs]
    simp only [Bool.and_true, Prod.mk.injEq, true_and, and_true]
    rw [List.take_succ_eq_append_getElem]
theorem rdCos_enc (L : List Co) (hL : ∀ c, c ∈ L → CoOk c ∧ Am.Good c.v) (r : List (BitVec 8)) (ok : Bool) : ∀ k, k ≤ L.length → rdCos (some (L.flatMap encCo ++ r)) ok k = (some ((L.drop k).flatMap encCo ++ r), L.take k, ok)
  | 0, _ => rfl
  | k + 1, hk => by
    have ih := rdCos_enc L hL r ok k (by omega)
    have hd : L.drop k = L[k] :: L.drop (k + 1) := List.drop_eq_getElem_cons (by omega)
    have hs := rdCo_enc L[k] (hL _ (List.getElem_mem _)).1 (hL _ (List.getElem_mem _)).2 ((L.drop (k + 1)).flatMap encCo ++ r)
    show ((rdCo (rdCos _ ok k).1).1, (rdCos _ ok k).2.1 ++ [(rdCo (rdCos _ ok k).1).2.1], (rdCos _ ok k).2.2 && (rdCo (rdCos _ ok k).1).2.2) = _
    rw [ih]
    have e : (L.drop k).flatMap encCo ++ r = encCo L[k] ++ ((L.drop (k + 1)).flatMap encCo ++ r) := by rw [hd, List.flatMap_cons, List.append_assoc]
    rw [e]
    rw [hs]
    simp only [Bool.and_true, Prod.mk.injEq, true_and, and_true]
    rw [List.take_succ_eq_append_getElem]
/-- what is put is read -/
theorem read_enc (t : T) (hn : t.sp.length ≤ 8) (hm : t.co.length ≤ 8) (hsp : ∀ s, s ∈ t.sp → SpGood s) (hco : ∀ c, c ∈ t.co → CoOk c ∧ Am.Good c.v) : rdOk (enc true t) ∧ rdT (enc true t) = t := by
  have e : enc true t = Pk.count t.sp.length ++ (t.sp.flatMap (encSp true) ++ (Pk.count t.co.length ++ (t.co.flatMap encCo ++ [if t.firm = true then 1#8 else 0#8]))) := by simp [enc]
  have c1 := Pk.rd_count t.sp.length 8 (by omega) (by omega) (t.sp.flatMap (encSp true) ++ (Pk.count t.co.length ++ (t.co.flatMap encCo ++ [if t.firm = true then 1#8 else 0#8])))
  have hA : rdA (enc true t) = (some (Pk.count t.co.length ++ (t.co.flatMap encCo ++ [if t.firm = true then 1#8 else 0#8])), t.sp, true) := by
    unfold rdA
    rw [e, c1]
    show rdSps _ true (t.sp.length : Int).toNat = _
    rw [Int.toNat_natCast, rdSps_enc t.sp hsp _ true t.sp.length (Nat.le_refl _)]
    simp
  have c2 := Pk.rd_count t.co.length 8 (by omega) (by omega) (t.co.flatMap encCo ++ [if t.firm = true then 1#8 else 0#8])
  have hB : rdB (enc true t) = (some [if t.firm = true then 1#8 else 0#8], t.co, true) := by
    unfold rdB
    rw [hA]
    show rdCos (Pk.rdCount (some _) 8).1 true (Pk.rdCount (some _) 8).2.toNat = _
    rw [c2]
    show rdCos _ true (t.co.length : Int).toNat = _
    rw [Int.toNat_natCast, rdCos_enc t.co hco _ true t.co.length (Nat.le_refl _)]
    simp
  have hF : rdF (enc true t) = (some [], (if t.firm = true then 1#8 else 0#8 : BitVec 8).setWidth 64) := by
    unfold rdF
    rw [hB]
    exact Pk.first_byte _ []
  refine ⟨⟨by rw [hB], by rw [hF]; cases t.firm <;> decide, by rw [hF]; rfl⟩, ?_⟩
  unfold rdT
  rw [hA, hB, hF]
  obtain ⟨sp, co, firm⟩ := t
  cases firm <;> rfl
/-! what is read is put -/
theorem rdNum_again {s : Pk.Rd} {K : Nat} {C : List (BitVec 8)} (hK : Pk.okSize K) (h : (Pk.rdNum s K).1 = some C) : ∃ B, s = some B ∧ Pk.le (Pk.rdNum s K).2 K ++ C = B := by
  cases s with
  | none => cases h
  | some B =>
    have := Pk.num_again B K C h
    unfold Pk.num at this
    rw [if_pos hK, Int.toNat_natCast] at this
    exact ⟨B, rfl, this⟩
theorem rdText_again {s : Pk.Rd} {z : Int} {C : List (BitVec 8)} (h : (Pk.rdText s z).1 = some C) : ∃ B, s = some B ∧ Pk.text (Pk.rdText s z).2 ++ C = B := by
  cases s with
  | none => rw [rdText_none] at h; cases h
  | some B => exact ⟨B, rfl, Pk.text_again B z C h⟩
theorem rdCount_le (s : Pk.Rd) (most : Int) (h0 : 0 ≤ most) : 0 ≤ (Pk.rdCount s most).2 ∧ (Pk.rdCount s most).2 ≤ most := by
  simp only [Pk.rdCount]
  generalize Pk.rdMore (Pk.rdNum s 1) = p
  obtain ⟨x, y⟩ := p
  cases x with
  | none => exact ⟨Int.le_refl _, h0⟩
  | some B =>
    simp only
    split
    · rename_i h
      exact ⟨by show (0 : Int) ≤ (y.toNat : Int); omega, h.2.1⟩
    · exact ⟨Int.le_refl _, h0⟩
theorem rdText_len (s : Pk.Rd) : (Pk.rdText s 32).2.length ≤ 32 := by
  have hc : (Pk.rdCount s 32).2 ≤ 32 := (rdCount_le s 32 (by omega)).2
  unfold Pk.rdText
  split
  · simp
  · split
    · simp only [List.length_take]
      omega
    · simp
theorem rdHash_len (s : Pk.Rd) : (Pk.rdHash s).2.length = 32 := by
  unfold Pk.rdHash
  cases s with
  | none => simp
  | some B =>
    simp only
    split
    · simp only [List.length_take]
      omega
    · simp
theorem rdHash_again {s : Pk.Rd} {C : List (BitVec 8)} (h : (Pk.rdHash s).1 = some C) : ∃ B, s = some B ∧ (Pk.rdHash s).2 ++ C = B := by
  cases s with
  | none => cases h
  | some B => exact ⟨B, rfl, Pk.hash_again B C h⟩
theorem rdSp_again {s : Pk.Rd} {C : List (BitVec 8)} (h : (rdSp s).1 = some C) : (∃ B, s = some B ∧ encSp true (rdSp s).2.1 ++ C = B) ∧ ((rdSp s).2.2 = true → SpGood (rdSp s).2.1) := by
  unfold rdSp at h ⊢
  simp only at h ⊢
  obtain ⟨B4, h4, e4⟩ := rdNum_again (K := 8) (by unfold Pk.okSize; omega) h
  obtain ⟨B3, h3, e3⟩ := rdText_again h4
  obtain ⟨B2, h2, e2⟩ := rdNum_again (K := 4) (by unfold Pk.okSize; omega) h3
  obtain ⟨B1, h1, e1⟩ := rdHash_again h2
  refine ⟨⟨B1, h1, ?_⟩, fun hg => ⟨rdHash_len s, by show (0 : Int) ≤ ((Pk.rdNum (Pk.rdHash s).1 4).2.toNat : Int); omega, by have := of_decide_eq_true hg; show ((Pk.rdNum (Pk.rdHash s).1 4).2.toNat : Int) ≤ 7; omega, rdText_len _⟩⟩
  rw [← e1, ← e2, ← e3, ← e4]
  unfold encSp
  simp only [if_true, Pk.ofInt_toNat, List.append_assoc]
  rfl
theorem rdCo_again {s : Pk.Rd} {C : List (BitVec 8)} (h : (rdCo s).1 = some C) : (∃ B, s = some B ∧ encCo (rdCo s).2.1 ++ C = B) ∧ CoOk (rdCo s).2.1 ∧ ((rdCo s).2.2 = true → Am.Good (rdCo s).2.1.v) := by
  unfold rdCo at h ⊢
  simp only at h ⊢
  obtain ⟨B2, h2, e2⟩ := rdNum_again (K := 8) (by unfold Pk.okSize; omega) h
  obtain ⟨B1, h1, e1⟩ := rdNum_again (K := 8) (by unfold Pk.okSize; omega) h2
  refine ⟨⟨B1, h1, ?_⟩, ?_, fun hg => of_decide_eq_true hg⟩
  · rw [← e1, ← e2]
    unfold encCo
    simp only [BitVec.ofInt_toInt, List.append_assoc]
    rfl
  · have l1 := BitVec.le_toInt (x := (Pk.rdNum s 8).2)
    have l2 := BitVec.toInt_lt (x := (Pk.rdNum s 8).2)
    exact ⟨by show -9223372036854775808 ≤ (Pk.rdNum s 8).2.toInt; omega, by show (Pk.rdNum s 8).2.toInt < 9223372036854775808; omega⟩
theorem rdSps_again (s : Pk.Rd) (ok : Bool) : ∀ (k : Nat) (C : List (BitVec 8)), (rdSps s ok k).1 = some C → (∃ B, s = some B ∧ (rdSps s ok k).2.1.flatMap (encSp true) ++ C = B) ∧ (rdSps s ok k).2.1.length = k ∧ ((rdSps s ok k).2.2 = true → ok = true ∧ ∀ u, u ∈ (rdSps s ok k).2.1 → SpGood u)
  | 0, C, h => ⟨⟨C, h, rfl⟩, rfl, fun e => ⟨e, fun u hu => by cases hu⟩⟩
  | k + 1, C, h => by
    have h' : (rdSp (rdSps s ok k).1).1 = some C := h
    obtain ⟨⟨B1, h1, e1⟩, g1⟩ := rdSp_again h'
    obtain ⟨⟨B0, h0, e0⟩, l0, g0⟩ := rdSps_again s ok k B1 h1
    show (∃ B, s = some B ∧ ((rdSps s ok k).2.1 ++ [(rdSp (rdSps s ok k).1).2.1]).flatMap (encSp true) ++ C = B) ∧ ((rdSps s ok k).2.1 ++ [(rdSp (rdSps s ok k).1).2.1]).length = k + 1 ∧ (((rdSps s ok k).2.2 && (rdSp (rdSps s ok k).1).2.2) = true → ok = true ∧ ∀ u, u ∈ (rdSps s ok k).2.1 ++ [(rdSp (rdSps s ok k).1).2.1] → SpGood u)
    refine ⟨⟨B0, h0, ?_⟩, by rw [List.length_append, l0]; rfl, fun hg => ?_⟩
    · rw [← e0, ← e1]
      simp
    · rw [Bool.and_eq_true] at hg
      refine ⟨(g0 hg.1).1, fun u hu => ?_⟩
      rcases List.mem_append.1 hu with h | h
      · exact (g0 hg.1).2 u h
      · rw [List.mem_singleton.1 h]
        exact g1 hg.2
theorem rdCos_again (s : Pk.Rd) (ok : Bool) : ∀ (k : Nat) (C : List (BitVec 8)), (rdCos s ok k).1 = some C → (∃ B, s = some B ∧ (rdCos s ok k).2.1.flatMap encCo ++ C = B) ∧ (rdCos s ok k).2.1.length = k ∧ ((rdCos s ok k).2.2 = true → ok = true ∧ ∀ u, u ∈ (rdCos s ok k).2.1 → CoOk u ∧ Am.Good u.v)
  | 0, C, h => ⟨⟨C, h, rfl⟩, rfl, fun e => ⟨e, fun u hu => by cases hu⟩⟩
  | k + 1, C, h => by
    have h' : (rdCo (rdCos s ok k).1).1 = some C := h
    obtain ⟨⟨B1, h1, e1⟩, k1, g1⟩ := rdCo_again h'
    obtain ⟨⟨B0, h0, e0⟩, l0, g0⟩ := rdCos_again s ok k B1 h1
    show (∃ B, s = some B ∧ ((rdCos s ok k).2.1 ++ [(rdCo (rdCos s ok k).1).2.1]).flatMap encCo ++ C = B) ∧ ((rdCos s ok k).2.1 ++ [(rdCo (rdCos s ok k).1).2.1]).length = k + 1 ∧ (((rdCos s ok k).2.2 && (rdCo (rdCos s ok k).1).2.2) = true → ok = true ∧ ∀ u, u ∈ (rdCos s ok k).2.1 ++ [(rdCo (rdCos s ok k).1).2.1] → CoOk u ∧ Am.Good u.v)
    refine ⟨⟨B0, h0, ?_⟩, by rw [List.length_append, l0]; rfl, fun hg => ?_⟩
    · rw [← e0, ← e1]
      simp
    · rw [Bool.and_eq_true] at hg
      refine ⟨(g0 hg.1).1, fun u hu => ?_⟩
      rcases List.mem_append.1 hu with h | h
      · exact (g0 hg.1).2 u h
      · rw [List.mem_singleton.1 h]
        exact ⟨k1, g1 hg.2⟩
theorem rdCount_again {s : Pk.Rd} {C : List (BitVec 8)} (h : (Pk.rdCount s 8).1 = some C) : (∃ B, s = some B ∧ Pk.count (Pk.rdCount s 8).2 ++ C = B) ∧ 0 ≤ (Pk.rdCount s 8).2 ∧ (Pk.rdCount s 8).2 ≤ 8 := by
  have hc := rdCount_le s 8 (by omega)
  refine ⟨?_, hc⟩
  cases s with
  | none =>
    exfalso
    unfold Pk.rdCount Pk.rdMore at h
    rw [rdNum_none] at h
    cases h
  | some B => exact ⟨B, rfl, Pk.count_again B 8 C h⟩
/-- what is read whole is put as it was; and is as it must be -/
theorem enc_read (B : List (BitVec 8)) (h : rdOk B) : enc true (rdT B) = B ∧ (rdT B).sp.length ≤ 8 ∧ (rdT B).co.length ≤ 8 ∧ (∀ s, s ∈ (rdT B).sp → SpGood s) ∧ (∀ c, c ∈ (rdT B).co → CoOk c ∧ Am.Good c.v) := by
  obtain ⟨hok, hle, hend⟩ := h
  have hF : (rdF B).1 = some [] := by
    unfold Pk.atEnd at hend
    split at hend
    · assumption
    · cases hend
  obtain ⟨C3, h3, e3⟩ := rdNum_again (s := (rdB B).1) (K := 1) (by unfold Pk.okSize; omega) hF
  obtain ⟨⟨C2, h2, e2⟩, l2, g2⟩ := rdCos_again _ _ _ C3 h3
  obtain ⟨⟨C1, h1, e1⟩, k1, k2⟩ := rdCount_again h2
  obtain ⟨⟨C0, h0, e0⟩, l0, g0⟩ := rdSps_again _ _ _ C1 h1
  obtain ⟨⟨D, hD, eD⟩, j1, j2⟩ := rdCount_again h0
  obtain rfl : B = D := by injection hD
  have hg2 := g2 hok
  have hg0 := g0 hg2.1
  refine ⟨?_, by show (rdA B).2.1.length ≤ 8; unfold rdA; rw [l0]; omega, by show (rdB B).2.1.length ≤ 8; unfold rdB; rw [l2]; omega, hg0.2, hg2.2⟩
  have eb : Pk.le (rdF B).2 1 = [if decide ((rdF B).2 = 1#64) = true then 1#8 else 0#8] := by
    have hx : (rdF B).2 = 0#64 ∨ (rdF B).2 = 1#64 := by
      rcases Nat.lt_or_ge (rdF B).2.toNat 1 with q | q
      · left; apply BitVec.eq_of_toNat_eq; simp; omega
      · right; apply BitVec.eq_of_toNat_eq; simp; omega
    rcases hx with q | q <;> rw [q] <;> decide
  have n1 : (((rdA B).2.1.length : Nat) : Int) = (Pk.rdCount (some B) 8).2 := by show (((rdSps _ _ _).2.1.length : Nat) : Int) = _; rw [l0]; omega
  have n2 : (((rdB B).2.1.length : Nat) : Int) = (Pk.rdCount (rdA B).1 8).2 := by show (((rdCos _ _ _).2.1.length : Nat) : Int) = _; rw [l2]; omega
  show Pk.count ((rdA B).2.1.length : Nat) ++ (rdA B).2.1.flatMap (encSp true) ++ Pk.count ((rdB B).2.1.length : Nat) ++ (rdB B).2.1.flatMap encCo ++ [if decide ((rdF B).2 = 1#64) = true then 1#8 else 0#8] = B
  rw [n1, n2, ← eb]
  have e3' : Pk.le (rdF B).2 1 = C3 := by rw [← e3, List.append_nil]; rfl
  rw [e3', List.append_assoc, List.append_assoc, List.append_assoc]
  show _ ++ ((rdSps _ _ _).2.1.flatMap (encSp true) ++ (_ ++ ((rdCos _ _ _).2.1.flatMap encCo ++ C3))) = B
  rw [e2, e1, e0, eD]
end Go.Proofs.Ytpbijcchdjppmaa.Tx

/-! (mkrd.py)  the reference's ReadText, ReadHash -/
namespace Go.Proofs.Ytpbijcchdjppmaa.RdS
open Go Go.RowKit Go.ChangeShapes Go.WideShapes
def TextPost (S : Nat → Prop) (w0 : World) (p : Pk.Rd × List (BitVec 8)) (e : Ending) (w' : World) : Prop :=
  (∃ v, e = .returned (.tuple #[v, .string (strB p.2)]) ∧ InS S w' p.1 v) ∧ Below w0.heap.size w0 w'
theorem InS.slice {S : Nat → Prop} {W : World} {B : List (BitVec 8)} {a : Option Addr} {n c : Nat} {b : Bool} (h : InS S W (some B) (.agg #[.slice a n c, .bool b])) : b = false ∧ Bytes8 W a n B ∧ n ≤ c ∧ (a = none → c = 0) ∧ ∀ x, a = some x → S x.block := by
  obtain ⟨a1, n1, c1, h1, h2, h3, h4⟩ := h
  simp at h1
  obtain ⟨⟨rfl, rfl, rfl⟩, rfl⟩ := h1
  exact ⟨rfl, h2, h3, h4⟩
theorem InS.bad {S : Nat → Prop} {W : World} {a : Option Addr} {n c : Nat} {b : Bool} (h : InS S W none (.agg #[.slice a n c, .bool b])) : b = true ∧ a = none ∧ n = 0 ∧ c = 0 := by
  have h' : Value.agg #[.slice a n c, .bool b] = .agg #[.slice none 0 0, .bool true] := h
  simp at h'
  obtain ⟨⟨rfl, rfl, rfl⟩, rfl⟩ := h'
  exact ⟨rfl, rfl, rfl, rfl⟩
theorem bytes_take {w : World} {a : Option Addr} {n k : Nat} {l : List (BitVec 8)} (h : Bytes8 w a n l) (hk : k ≤ n) : Bytes8 w a k (l.take k) := by
  refine ⟨by rw [List.length_take, h.1]; omega, by have := h.2.1; omega, fun i hi => ?_⟩
  obtain ⟨y, hy, hc⟩ := h.2.2 i (by omega)
  refine ⟨y, hy, hc.trans ?_⟩
  congr 3
  unfold cb
  rw [List.getD_eq_getElem?_getD, List.getD_eq_getElem?_getD, List.getElem?_take, if_pos hi]
set_option maxRecDepth 100000 in
set_option maxHeartbeats 8000000 in
theorem rreadText_any {S : Nat → Prop} (s : Pk.Rd) (v : Value) (most : Int) (hm0 : -9223372036854775808 ≤ most) (hm : most < 9223372036854775808) (hsz : (Pk.left s).length ≤ 1000000) (w : World) (hv : InS S w s v) :
    Calls Try.prog 44 #[v, .int .i64 most] w (TextPost S w (Pk.rdText s most)) := by
  obtain ⟨a, n, c, b, rfl, hB, hb⟩ := hv.cells
  obtain ⟨w0, hw0⟩ : ∃ x, x = (w.alloc (.cells #[.slice a n c, .bool b] 79)).alloc (.cells #[.slice none 0 0, .bool false] 79) := ⟨_, rfl⟩
  have hb0 : Below w.heap.size w w0 := by rw [hw0]; exact ((Below.refl _ _).alloc (Nat.le_refl _) _).alloc (by simp) _
  have hA0 : Has w0 w.heap.size 79 #[.slice a n c, .bool b] := by rw [hw0]; exact (Has.fresh _ _ _).past _
  have hR0 : Has w0 (w.heap.size + 1) 79 #[.slice none 0 0, .bool false] := by rw [hw0]; exact Has.fresh_at _ _ _ (by simp)
  have hv0 : InS S w0 s (.agg #[.slice a n c, .bool b]) := hv.below hb0
  have HW0 := Lib.hid hw0
  obtain ⟨gi, hgi⟩ : ∃ x, x = w.heap.size := ⟨_, rfl⟩
  obtain ⟨gr, hgr⟩ : ∃ x, x = gi + 1 := ⟨_, rfl⟩
  rw [← hgi] at hA0 hR0
  rw [← hgr] at hR0
  have HGR := Lib.hid (And.intro hgi hgr)
  obtain ⟨p, hp⟩ : ∃ p, p = Pk.rdCount s most := ⟨_, rfl⟩
  obtain ⟨R, hR⟩ : ∃ R, R = Pk.rdText s most := ⟨_, rfl⟩
  have HR := Lib.hid (show R = (match p.1 with | none => ((none, []) : Pk.Rd × List (BitVec 8)) | some B => if p.2 ≤ B.length then (some (B.drop p.2.toNat), B.take p.2.toNat) else (none, [])) by rw [hR, hp]; rfl)
  have HC := Lib.hid (fun w1 h => rreadCount_any (S := S) s (.agg #[.slice a n c, .bool b]) most hm0 hm hsz w1 h)
  rw [← hp] at HC
  have hp0 : 0 ≤ p.2 := by
    rw [hp]
    unfold Pk.rdCount
    dsimp only
    split
    · exact Int.le_refl 0
    · split
      · exact Int.natCast_nonneg _
      · exact Int.le_refl 0
  obtain ⟨s1, z1⟩ := p
  obtain ⟨n1, rfl⟩ : ∃ n1 : Nat, z1 = n1 := ⟨z1.toNat, by dsimp only at hp0; omega⟩
  rw [← hR]
  clear hw0 hgi hgr hB hb hv hp hR hm0 hm hsz hp0
  have hA0l := hA0.load_agg (P := Try.prog) (t := 79) Try.underlying79 rfl size_in
  go_enter Try.func44, Try.ntmps44
  go_upto_region 1 with fail
  rw [← HW0.out, ← HGR.out.1, ← HGR.out.2]
  go_upto_region 2 with (first
    | (refine wpList_store_mid rfl 79 (.tmp 2) (.tmp 11) rfl gi 0 #[.slice az kz cz, .bool bz] rfl rfl HS1.out.2.2 (in_size _ _) (in_one _ _ rfl rfl) ?_)
    | (refine wpList_load_run rfl 79 (.tmp 2) rfl _ _ rfl hA0l ?_)
    | (go_at_call 41; refine (HC.out _ hv0).mono ?_; rintro e w1 ⟨⟨v1, rfl, hv1⟩, hb1⟩; have hv1' := hv1; obtain ⟨az, kz, cz, bz, rfl, HB1⟩ := hv1'.cellsH; have HS1 := Lib.hid (And.intro hv1 (And.intro hb1 ((hA0.under hb1 hA0.lt).there 0 2 (Nat.le_refl _)))); clear hv1 hb1 hv1'))
  have hv1 := HS1.out.1
  obtain ⟨wz, hwz⟩ : ∃ x, x = w1.setCells gi 0 (#[.slice az kz cz, .bool bz] : Array Value).toList := ⟨_, rfl⟩
  have hAz : Has wz gi 79 #[.slice az kz cz, .bool bz] := by rw [hwz]; exact (hA0.under HS1.out.2.1 hA0.lt).whole_cs rfl
  have hg0 : w.heap.size ≤ gi := by have := HGR.out.1; omega
  have hmz : Moved (fun k => k = gi) w1 wz := by rw [hwz]; exact Moved.putAll (F := fun k => k = gi) (.inl rfl) _ 0 (Moved.refl _ _)
  have hvz : InS S wz s1 (.agg #[.slice az kz cz, .bool bz]) := hv1.aside (hA0.under HS1.out.2.1 hA0.lt) hmz (fun _ e => e)
  have hb1 : Below w.heap.size w w1 := hb0.trans (HS1.out.2.1.mono hb0.size)
  have hbz : Below w.heap.size w wz := hb1.trans (hmz.below (B := w.heap.size) (fun k e => by have e' : k = gi := e; omega) hb1.size)
  have hRz : Has wz gr 79 #[.slice none 0 0, .bool false] := (hR0.under HS1.out.2.1 hR0.lt).moved hmz (fun e => by have := HGR.out.2; have e' : gr = gi := e; omega)
  rw [← hwz]
  clear hwz hmz hv1 hA0 hR0 hb1 hb0 hv0 hA0l HS1 HC HW0 HB1
  have c0 : wz.cell? ⟨gi, 0, none⟩ = some (.slice az kz cz) := hAz.cell_at rfl
  have c1 : wz.cell? ⟨gi, 1, none⟩ = some (.bool bz) := hAz.cell_at rfl
  have HAZ := Lib.hid hAz
  have HRZ := Lib.hid hRz
  have HVZ := Lib.hid hvz
  have HBZ := Lib.hid hbz
  clear hAz hRz hvz hbz
  by_cases hbad : s1 = none ∨ kz < n1
  · obtain rfl : R = (none, []) := by
      rw [HR.out]
      cases s1 with
      | none => rfl
      | some B =>
        have hk : kz = B.length := HVZ.out.slice.2.1.1.symm
        dsimp only
        rw [if_neg (by
          rcases hbad with h | h
          · cases h
          · omega)]
    have HX := Lib.hid (show bz = true ∨ bz = false ∧ (kz : Int) < (n1 : Int) by
      cases s1 with
      | none => exact .inl HVZ.out.bad.1
      | some B =>
        right
        refine ⟨HVZ.out.slice.1, ?_⟩
        rcases hbad with h | h
        · cases h
        · omega)
    clear hbad
    rcases HX.out with rfl | ⟨rfl, hd⟩
    all_goals
      go_wp2_with (first
        | (refine wpList_store_mid rfl 79 (.tmp 4) (.tmp 22) rfl gr 0 #[.slice none 0 0, .bool true] rfl rfl hth4 (in_size _ _) (in_one _ _ rfl rfl) ?_)
        | (go_at_call 66; refine (rwrong_any _).mono ?_; rintro e w4 ⟨rfl, hb4⟩; have hR4 := HRZ.out.under hb4 HRZ.out.lt; have hth4 := hR4.there 0 2 (Nat.le_refl _)))
      have hE := hR4.whole_cs (cs2 := #[.slice none 0 0, .bool true]) rfl
      exact bodyPost_ret (results_cell_tmp rfl _ _ gr rfl _ _ rfl (in_load hE)) rfl ⟨⟨_, rfl, rfl⟩, below_setAll (by have := HGR.out; omega) _ 0 (HBZ.out.trans (hb4.mono HBZ.out.size))⟩
  · obtain ⟨B, rfl⟩ : ∃ B, s1 = some B := by
      cases s1 with
      | none => exact absurd (.inl rfl) hbad
      | some B => exact ⟨B, rfl⟩
    obtain ⟨hbf, hBz, hkc, hac, hSz⟩ := HVZ.out.slice
    have HSZ := Lib.hid hSz
    clear hSz
    subst hbf
    have hnk : n1 ≤ kz := by omega
    obtain rfl : R = (some (B.drop n1), B.take n1) := by
      rw [HR.out]
      dsimp only
      rw [if_pos (by have := hBz.1; omega)]
      rfl
    have hnki : ¬ (kz : Int) < (n1 : Int) := by omega
    have hBt := bytes_take hBz hnk
    have hth := HRZ.out.there 0 2 (Nat.le_refl _)
    have r0 : wz.cell? ⟨gr, 0, none⟩ = some (.slice none 0 0) := HRZ.out.cell_at rfl
    have r1 : wz.cell? ⟨gr, 1, none⟩ = some (.bool false) := HRZ.out.cell_at rfl
    have f0 : wz.frozen? ⟨gr, 0, none⟩ = false := HRZ.out.loose 0
    have f1 : wz.frozen? ⟨gr, 1, none⟩ = false := HRZ.out.loose 1
    have hst := run_string (P := Try.prog) 38 9 5 Try.underlying38 Try.underlying5 Try.underlying9 (w := wz.drew) (c := cz) hBt.draw
    have hnki2 : (n1 : Int) ≤ (kz : Int) := by omega
    have hnci : (n1 : Int) ≤ (cz : Int) := by omega
    have hkci : (kz : Int) ≤ (cz : Int) := by omega
    clear hbad
    have HP := Lib.hid (show ∀ u0 u1 : Value, Moved (fun k => k = gr) wz ((wz.setCell ⟨gr, 0, none⟩ u0).setCell ⟨gr, 1, none⟩ u1) from fun u0 u1 => ((Moved.refl (fun k => k = gr) wz).put (.inl rfl) 0 u0).put (.inl rfl) 1 u1)
    have HW := Lib.hid (show ∀ u0 u1 : Value, InS S ((wz.setCell ⟨gr, 0, none⟩ u0).setCell ⟨gr, 1, none⟩ u1) (some B) (.agg #[.slice az kz cz, .bool false]) from fun u0 u1 => HVZ.out.aside HRZ.out (HP.out u0 u1) (fun _ e => e))
    have hst2 : ∀ u0 u1 : Value, (convert 38 9 (.slice az n1 cz)).run Try.prog ((wz.setCell ⟨gr, 0, none⟩ u0).setCell ⟨gr, 1, none⟩ u1).drew = .ok (.string (strB (B.take n1))) ((wz.setCell ⟨gr, 0, none⟩ u0).setCell ⟨gr, 1, none⟩ u1).drew := fun u0 u1 =>
      run_string (P := Try.prog) 38 9 5 Try.underlying38 Try.underlying5 Try.underlying9 (c := cz) (bytes_take (HW.out u0 u1).slice.2.1 hnk).draw
    have HG2 := Lib.hid (show ∀ u0 u1 : Value, Has ((wz.setCell ⟨gr, 0, none⟩ u0).setCell ⟨gr, 1, none⟩ u1) gr 79 #[u0, u1] from fun u0 u1 => (HRZ.out.put 0 u0).put 1 u1)
    have HACX := Lib.hid (And.intro hkc (And.intro hac hnk))
    have c02 : ∀ u0 : Value, (wz.setCell ⟨gr, 0, none⟩ u0).cell? ⟨gi, 0, none⟩ = some (.slice az kz cz) := fun u0 => (HAZ.out.aside (p := ⟨gr, 0, none⟩) (by have := HGR.out.2; show gi ≠ gr; omega) u0).cell_at rfl
    clear hBz hBt hth hac
    have HF := Lib.hid (show ∀ u0 u1 : Value, Below w.heap.size w ((wz.setCell ⟨gr, 0, none⟩ u0).setCell ⟨gr, 1, none⟩ u1).drew from fun u0 u1 => ((HBZ.out.trans ((HP.out u0 u1).below (B := w.heap.size) (fun k e => by have e' : k = gr := e; have := HGR.out; omega) HBZ.out.size))).drew)
    by_cases hcn : cz = n1
    · obtain rfl := hcn
      obtain rfl : kz = cz := by omega
      go_upto_region 4 with fail
      go_region
      all_goals
        go_wp2
        refine bodyPost_ret (results_cell_tmp rfl _ _ gr rfl _ _ rfl (in_load (HG2.out _ _).draw)) rfl ⟨⟨_, rfl, ?_⟩, HF.out _ _⟩
        have hBB := (HW.out (.bool false) (.bool false)).slice.2.1
        exact ⟨_, _, _, rfl, ⟨by rw [List.length_drop, hBB.1, Nat.sub_self], by unfold maxLen; omega, fun i hi => by omega⟩, by omega, (fun _ => by rfl), HSZ.out⟩
    · cases az with
      | none => exact absurd (HACX.out.2.1 rfl) (by have := HACX.out.2.1 rfl; omega)
      | some x =>
        have hcni : ¬ ((cz : Int) = (n1 : Int)) := by omega
        go_upto_region 4 with fail
        go_region
        all_goals
          go_wp2
          refine bodyPost_ret (results_cell_tmp rfl _ _ gr rfl _ _ rfl (in_load (HG2.out _ _).draw)) rfl ⟨⟨_, rfl, ?_⟩, HF.out _ _⟩
          have hBB := ((HW.out (.slice (some (x.add n1)) (kz - n1) (cz - n1)) (.bool false)).below (Below.refl _ _).drew).slice.2.1
          exact ⟨some (x.add n1), kz - n1, cz - n1, rfl, bytes_from hBB n1, by omega, (fun e => by cases e), fun y e => by injection e with e; rw [← e, block_add]; exact HSZ.out x rfl⟩
end Go.Proofs.Ytpbijcchdjppmaa.RdS

/-! (mkrd.py)  the reference's ReadHash (mkpkw.py) -/
namespace Go.Proofs.Ytpbijcchdjppmaa.RdS
open Go Go.RowKit Go.ChangeShapes Go.WideShapes
def HashPost8 (S : Nat → Prop) (w0 : World) (p : Pk.Rd × List (BitVec 8)) (e : Ending) (w' : World) : Prop :=
  (∃ v, e = .returned (.tuple #[v, .agg (blist p.2).toArray]) ∧ InS S w' p.1 v) ∧ Below w0.heap.size w0 w'
def Pk.hP (B : List (BitVec 8)) (i j : Nat) : Value := .int .u8 (nb8 (if j < i then cb B j else 0))
theorem hP_zero (B : List (BitVec 8)) : z32 = cellsOf 32 (Pk.hP B 0) := by rfl
theorem hP_step (B : List (BitVec 8)) (i : Nat) : (cellsOf 32 (Pk.hP B i)).setIfInBounds i (.int .u8 (nb8 (cb B i))) = cellsOf 32 (Pk.hP B (i + 1)) :=
  cellsOf_put _ _ i _ (by unfold Pk.hP; rw [if_pos (by omega)]) (fun j _ hne => by
    unfold Pk.hP
    by_cases h : j < i
    · rw [if_pos h, if_pos (by omega)]
    · rw [if_neg h, if_neg (by omega)])
theorem hP_end (B : List (BitVec 8)) (hB : 32 ≤ B.length) : cellsOf 32 (Pk.hP B 32) = (blist (B.take 32)).toArray := by
  apply Array.ext_getElem?
  intro j
  by_cases h : j < 32
  · rw [cellsOf_at _ h, List.getElem?_toArray, blist_at _ j (by rw [List.length_take]; omega)]
    unfold Pk.hP
    rw [if_pos h]
    congr 3
    unfold cb
    rw [List.getD_eq_getElem?_getD, List.getD_eq_getElem?_getD, List.getElem?_take, if_pos h]
  · have e1 : (cellsOf 32 (Pk.hP B 32))[j]? = none := Array.getElem?_eq_none (by rw [cellsOf_size]; omega)
    have e2 : (blist (B.take 32))[j]? = none := List.getElem?_eq_none (by rw [blist_length, List.length_take]; omega)
    rw [e1, List.getElem?_toArray, e2]
set_option maxRecDepth 100000 in
set_option maxHeartbeats 16000000 in
theorem rreadHash_any {S : Nat → Prop} (s : Pk.Rd) (v : Value) (w : World) (hv : InS S w s v) :
    Calls Try.prog 42 #[v] w (HashPost8 S w (Pk.rdHash s)) := by
  obtain ⟨a, n, c, b, rfl, hB, hb⟩ := hv.cells
  have HB := Lib.hid (And.intro hv (And.intro hB hb))
  clear hB hb hv
  obtain ⟨R, hR⟩ : ∃ R, R = Pk.rdHash s := ⟨_, rfl⟩
  rw [← hR]
  have HR := Lib.hid hR
  clear hR
  go_enter Try.func42, Try.ntmps42
  go_upto_region 2 with fail
  obtain ⟨w0, hw0⟩ : ∃ x, x = (((w.alloc (.cells #[.slice a n c, .bool b] 79)).alloc (.cells #[.slice none 0 0, .bool false] 79)).alloc (.cells z32 49)).alloc (.cells z32 49) := ⟨_, rfl⟩
  rw [← hw0]
  have hb0 : Below w.heap.size w w0 := by rw [hw0]; exact ((((Below.refl _ _).alloc (Nat.le_refl _) _).alloc (by simp) _).alloc (by simp; omega) _).alloc (by simp; omega) _
  have hA : Has w0 w.heap.size 79 #[.slice a n c, .bool b] := by rw [hw0]; exact (((Has.fresh _ _ _).past _).past _).past _
  have hR2 : Has w0 (w.heap.size + 1) 79 #[.slice none 0 0, .bool false] := by rw [hw0]; exact ((Has.fresh_at _ _ _ (by simp)).past _).past _
  have hH3 : Has w0 (w.heap.size + 1 + 1) 49 z32 := by rw [hw0]; exact (Has.fresh_at _ _ _ (by simp)).past _
  have hH4 : Has w0 (w.heap.size + 1 + 1 + 1) 49 z32 := by rw [hw0]; exact Has.fresh_at _ _ _ (by simp)
  clear hw0
  obtain ⟨gi, hgi⟩ : ∃ x, x = w.heap.size := ⟨_, rfl⟩
  rw [← hgi] at hA hR2 hH3 hH4 ⊢
  obtain ⟨g2, hg2⟩ : ∃ x, x = gi + 1 := ⟨_, rfl⟩
  rw [← hg2] at hR2 hH3 hH4 ⊢
  obtain ⟨g3, hg3⟩ : ∃ x, x = g2 + 1 := ⟨_, rfl⟩
  rw [← hg3] at hH3 hH4 ⊢
  obtain ⟨g4, hg4⟩ : ∃ x, x = g3 + 1 := ⟨_, rfl⟩
  rw [← hg4] at hH4 ⊢
  have HNE := Lib.hid (show g4 ≠ g2 ∧ g4 ≠ g3 ∧ (∀ k, k = g2 ∨ k = g3 → w.heap.size ≤ k) ∧ g3 ≠ g2 from ⟨by omega, by omega, fun k hk => by omega, by omega⟩)
  have HNI := Lib.hid (show gi ≠ g2 ∧ gi ≠ g3 by omega)
  have HN4 := Lib.hid (show g4 ≠ gi ∧ w.heap.size ≤ g4 by omega)
  clear hgi hg2 hg3 hg4
  have c0 : w0.cell? ⟨gi, 0, none⟩ = some (.slice a n c) := hA.cell_at rfl
  have c1 : w0.cell? ⟨gi, 1, none⟩ = some (.bool b) := hA.cell_at rfl
  by_cases hbad : s = none ∨ n < 32
  · obtain rfl : R = (none, List.replicate 32 0#8) := by
      rw [HR.out]
      cases s with
      | none => rfl
      | some B =>
        show (if 32 ≤ B.length then _ else _) = _
        have := HB.out.2.1.1
        rw [if_neg (by
          rcases hbad with h | h
          · cases h
          · have h2 : B.length = n := this; omega)]
    have HX := Lib.hid (show b = true ∨ b = false ∧ (n : Int) < 32 by
      cases s with
      | none => exact .inl HB.out.2.2
      | some B =>
        right
        refine ⟨HB.out.2.2, ?_⟩
        rcases hbad with h | h
        · cases h
        · omega)
    have HRL := Lib.hid (show (List.replicate 32 0#8).length = 32 from List.length_replicate)
    clear hbad
    rcases HX.out with rfl | ⟨rfl, hd⟩
    all_goals
      go_upto_region 3 with fail
      obtain ⟨wd, hwd⟩ : ∃ x, x = w0.drew := ⟨_, rfl⟩
      have hmd : Below w0.heap.size w0 wd := by rw [hwd]; exact (Below.refl _ _).drew
      refine wp_region_held_drew (S := HeldM (fun k => k = g2 ∨ k = g3) wd) (by kernel_rfl) (by rw [hwd]; exact HeldM.refl _ _) (fun hHeld => ?_)
      rw [← hwd] at hHeld ⊢
      clear hwd
      have hG4 := hH4.under hmd hH4.lt
      have hG3 := hH3.under hmd hH3.lt
      have hG2 := hR2.under hmd hR2.lt
      have hBd := hb0.trans (hmd.mono hb0.size)
      refine take_at 1 15 rfl rfl (by kernel_rfl) (by kernel_rfl) (by kernel_rfl) (fun _ _ _ h => h) hHeld (yieldsIf_load_agg (by rfl) 49 (.tmp 4) rfl _ _ (by rfl) (fun wq hSw => (hG4.moved hSw.out (fun e => e.elim (fun e => HNE.out.1 e) (fun e => HNE.out.2.1 e))).load_agg Try.underlying49 rfl (size_hash' HRL.out))) rfl ?_
      simp only [List.set_cons_zero, List.set_cons_succ]
      refine wpAnyH_ready (rs := [0]) (by kernel_rfl) (by simp) ?_
      refine AllReadyH.cons rfl (fun K hK => ?_) AllReadyH.nil
      go_simp
      go_at_call 66; refine (rwrong_any _).mono ?_; rintro e w5 ⟨rfl, hb5⟩
      refine hK.out _ _ (HeldM.of (Moved.of_below hb5)) (fun _ => ?_)
      clear hK K
      try simp only [Act.put, List.setIfInBounds_toArray, List.set_cons_zero, List.set_cons_succ]
      refine heldM_grow (w1 := w5) (Moved.of_below hb5) ?_
      clear hHeld
      have hHeld : HeldM (fun k => k = g2 ∨ k = g3) w5 w5 := HeldM.refl _ _
      have hI2 := hG2.under hb5 hG2.lt
      have hI3 := hG3.under hb5 hG3.lt
      have hB5 := hBd.trans (hb5.mono hBd.size)
      refine wpAnyH_ready (rs := [2]) (by kernel_rfl) (by simp) ?_
      refine AllReadyH.cons rfl (fun K hK => ?_) AllReadyH.nil
      refine step_store_row (by rfl) 79 (.tmp 2) (.tmp 14) rfl g2 0 (#[.slice none 0 0, .bool true]) (by first | rfl | simp [Act.eval]) (by first | rfl | simp [Act.eval]) (hI2.there 0 2 (Nat.le_refl _)) (in_size _ _) (in_one _ _ rfl rfl) rfl ?_
      obtain ⟨ws, hws⟩ : ∃ ww, ww = w5.setCells g2 0 (#[.slice none 0 0, .bool true]).toList := ⟨_, rfl⟩
      rw [← hws]
      have hmws : Moved (fun k => k = g2 ∨ k = g3) w5 ws := by rw [hws]; exact Moved.putAll (F := fun k => k = g2 ∨ k = g3) (.inl (.inl rfl)) _ 0 (Moved.refl _ _)
      refine hK.out _ _ (HeldM.of hmws) (fun _ => ?_)
      clear hK K
      refine heldM_grow (w1 := ws) hmws ?_
      clear hHeld
      have hHeld : HeldM (fun k => k = g2 ∨ k = g3) ws ws := HeldM.refl _ _
      have hS2 : Has ws g2 79 (#[.slice none 0 0, .bool true]) := by rw [hws]; exact hI2.whole_cs rfl
      have hS3 : Has ws g3 49 z32 := by rw [hws]; exact hI3.asideAll HNE.out.2.2.2 _ 0
      clear hws
      refine wpAnyH_ready (rs := [3]) (by kernel_rfl) (by simp) ?_
      refine AllReadyH.cons rfl (fun K hK => ?_) AllReadyH.nil
      refine step_store_row (by rfl) 49 (.tmp 3) (.tmp 15) rfl g3 0 ((blist (List.replicate 32 0#8)).toArray) (by first | rfl | simp [Act.eval]) (by first | rfl | simp [Act.eval]) (hS3.there 0 _ (by rw [List.size_toArray, blist_length, HRL.out]; decide)) (size_hash' HRL.out) (one_hash _) rfl ?_
      obtain ⟨wt, hwt⟩ : ∃ ww, ww = ws.setCells g3 0 ((blist (List.replicate 32 0#8)).toArray).toList := ⟨_, rfl⟩
      rw [← hwt]
      have hmwt : Moved (fun k => k = g2 ∨ k = g3) ws wt := by rw [hwt]; exact Moved.putAll (F := fun k => k = g2 ∨ k = g3) (.inl (.inr rfl)) _ 0 (Moved.refl _ _)
      refine hK.out _ _ (HeldM.of hmwt) (fun _ => ?_)
      clear hK K
      refine heldM_grow (w1 := wt) hmwt ?_
      clear hHeld
      have hHeld : HeldM (fun k => k = g2 ∨ k = g3) wt wt := HeldM.refl _ _
      have hU3 : Has wt g3 49 (blist (List.replicate 32 0#8)).toArray := by rw [hwt]; exact hS3.whole_cs (by rw [List.size_toArray, blist_length, HRL.out]; rfl)
      have hU2 : Has wt g2 79 (#[.slice none 0 0, .bool true]) := by rw [hwt]; exact hS2.asideAll (fun e => HNE.out.2.2.2 e.symm) _ 0
      clear hwt
      refine wpAnyH_done (by kernel_rfl) ?_ _
      go_wp2
      refine bodyPost_ret (results_two_cells rfl _ _ g2 g3 rfl rfl _ _ (in_load hU2) (hU3.load_var Try.underlying49 rfl (size_hash' HRL.out))) rfl ?_
      refine ⟨⟨_, rfl, rfl⟩, ?_⟩
      exact (hB5.trans (hmws.below (B := w.heap.size) HNE.out.2.2.1 hB5.size)).trans (hmwt.below (B := w.heap.size) HNE.out.2.2.1 (hB5.trans (hmws.below (B := w.heap.size) HNE.out.2.2.1 hB5.size)).size)
  · obtain ⟨B, rfl⟩ : ∃ B, s = some B := by
      cases s with
      | none => exact absurd (.inl rfl) hbad
      | some B => exact ⟨B, rfl⟩
    obtain ⟨hbf, hBz, hnc, hac, hSz⟩ := HB.out.1.slice
    have HSZ := Lib.hid hSz
    clear hSz
    subst hbf
    have hn32 : ¬ (n : Int) < 32 := by omega
    have hn32n : 32 ≤ n := by omega
    obtain ⟨x, rfl, _⟩ := hBz.2.2 0 (by omega)
    have HBL := Lib.hid (show 32 ≤ B.length by have := hBz.1; omega)
    obtain rfl : R = (some (B.drop 32), B.take 32) := by
      rw [HR.out]
      show (if 32 ≤ B.length then _ else _) = _
      rw [if_pos HBL.out]
    have HRL := Lib.hid (show (B.take 32).length = 32 by rw [List.length_take]; have := HBL.out; omega)
    have HBY := Lib.hid hBz
    have hmx : n ≤ 9223372036854775807 := hBz.2.1
    have hcc : (n : Int) ≤ (c : Int) := by omega
    clear hbad hBz hac
    go_wp2_with fail
    go_loopw [5] (fun iv wr => ∃ i : Nat, i ≤ 32 ∧ iv = .int .i64 i ∧ Has wr g4 49 (cellsOf 32 (Pk.hP B i)) ∧ Moved (fun k => k = g4) w0 wr) (fun iv _ => 32 - (intOf iv).toNat)
    case atStart => exact ⟨0, Nat.zero_le _, rfl, by rw [← hP_zero]; exact hH4, Moved.refl _ _⟩
    case round =>
      obtain ⟨i, hi, rfl, hP, hm⟩ := hrel
      have hb := hb0.trans (hm.below (B := w.heap.size) (fun k e => by have e' : k = g4 := e; have := HN4.out.2; omega) hb0.size)
      have hA1 := hA.moved hm (fun e => HN4.out.1 e.symm)
      by_cases hlt : i < 32
      · have hii : (i : Int) < 32 := by omega
        have hin : (i : Int) < (n : Int) := by omega
        obtain ⟨y, hy, hx⟩ := (HBY.out.below hb).2.2 i (by omega)
        injection hy with hy
        subst hy
        obtain ⟨q, hq⟩ : ∃ q, q = cb B i := ⟨_, rfl⟩
        have HST := Lib.hid (show (cellsOf 32 (Pk.hP B i)).setIfInBounds i (.int .u8 (nb8 q)) = cellsOf 32 (Pk.hP B (i + 1)) by rw [hq]; exact hP_step B i)
        rw [← hq] at hx
        have c2 : wr.cell? ⟨gi, 0, none⟩ = some (.slice (some x) n c) := hA1.cell_at rfl
        have c4 : wr.cell? ⟨g4, i, none⟩ = some (Pk.hP B i i) := hP.cell_at (cellsOf_at _ hlt)
        have f4 : wr.frozen? ⟨g4, i, none⟩ = false := hP.loose i
        have HP := Lib.hid hP
        have HM := Lib.hid hm
        clear hq hP hm hA1 c0 c1
        go_wp2
        go_roundw
        case rel => exact ⟨i + 1, by omega, by go_num, by rw [← HST.out]; exact HP.out.put i _, HM.out.put (.inl rfl) i _⟩
        case measure => (simp [intOf]; try omega)
      · have hin : i = 32 := by omega
        subst hin
        rw [hP_end B HBL.out] at hP
        have hii : ¬ (32 : Int) < 32 := by omega
        have hR1 := hR2.moved hm (fun e => HNE.out.1 e.symm)
        have hH1 := hH3.moved hm (fun e => HNE.out.2.1 e.symm)
        clear hA hR2 hH3 hH4 c0 c1 hm hlt hi
        by_cases hc32 : c = 32
        · obtain rfl : n = 32 := by omega
          subst hc32
          go_upto_region 8 with fail
          obtain ⟨wd, hwd⟩ : ∃ x, x = wr.drew := ⟨_, rfl⟩
          have hmd : Below wr.heap.size wr wd := by rw [hwd]; exact (Below.refl _ _).drew
          refine wp_region_held_drew (S := HeldM (fun k => k = g2 ∨ k = g3) wd) (by kernel_rfl) (by rw [hwd]; exact HeldM.refl _ _) (fun hHeld => ?_)
          rw [← hwd] at hHeld ⊢
          clear hwd
          have hBd := hb.trans (hmd.mono hb.size)
          have hG1 := hA1.under hmd hA1.lt
          have hG2 := hR1.under hmd hR1.lt
          have hG3 := hH1.under hmd hH1.lt
          have hG4 := hP.under hmd hP.lt
          have HG1 := Lib.hid hG1
          refine take_at (v := ?_) 0 27 rfl rfl (by kernel_rfl) (by kernel_rfl) (by kernel_rfl) (fun _ _ _ h => h) hHeld (Or.inl ⟨by rfl, ?_⟩) rfl ?_
          rotate_left
          · intro wq hSw
            go_simp
            try with_reducible rfl
          simp only [List.set_cons_zero, List.set_cons_succ]
          refine take_at (v := ?_) 1 28 rfl rfl (by kernel_rfl) (by kernel_rfl) (by kernel_rfl) (fun _ _ _ h => h) hHeld (Or.inl ⟨by rfl, ?_⟩) rfl ?_
          rotate_left
          · intro wq hSw
            have hst := (HG1.out.moved hSw.out (fun e => e.elim (fun e => HNI.out.1 e) (fun e => HNI.out.2 e))).cell_at (i := 0) (v := .slice (some x) 32 32) rfl
            go_simp
            try with_reducible rfl
          simp only [List.set_cons_zero, List.set_cons_succ]
          refine take_at (v := ?_) 2 29 rfl rfl (by kernel_rfl) (by kernel_rfl) (by kernel_rfl) (fun _ _ _ h => h) hHeld (Or.inl ⟨by rfl, ?_⟩) rfl ?_
          rotate_left
          · intro wq hSw
            go_simp
            try with_reducible rfl
          simp only [List.set_cons_zero, List.set_cons_succ]
          refine take_at (v := ?_) 3 30 rfl rfl (by kernel_rfl) (by kernel_rfl) (by kernel_rfl) (fun _ _ _ h => h) hHeld (Or.inl ⟨by rfl, ?_⟩) rfl ?_
          rotate_left
          · intro wq hSw
            go_simp
            try with_reducible rfl
          simp only [List.set_cons_zero, List.set_cons_succ]
          refine take_at 4 31 rfl rfl (by kernel_rfl) (by kernel_rfl) (by kernel_rfl) (fun _ _ _ h => h) hHeld (yieldsIf_load_agg (by rfl) 49 (.tmp 4) rfl _ _ (by rfl) (fun wq hSw => (hG4.moved hSw.out (fun e => e.elim (fun e => HNE.out.1 e) (fun e => HNE.out.2.1 e))).load_agg Try.underlying49 rfl (size_hash' HRL.out))) rfl ?_
          simp only [List.set_cons_zero, List.set_cons_succ]
          refine wpAnyH_ready (rs := [5]) (by kernel_rfl) (by simp) ?_
          refine AllReadyH.cons rfl (fun K hK => ?_) AllReadyH.nil
          refine step_store_row (by rfl) 79 (.tmp 2) (.tmp 30) rfl g2 0 (#[.slice (some x) 0 0, .bool false]) (by first | rfl | simp [Act.eval]) (by first | rfl | simp [Act.eval]) (hG2.there 0 2 (Nat.le_refl _)) (in_size _ _) (in_one _ _ rfl rfl) rfl ?_
          obtain ⟨ws, hws⟩ : ∃ ww, ww = wd.setCells g2 0 (#[.slice (some x) 0 0, .bool false]).toList := ⟨_, rfl⟩
          rw [← hws]
          have hmws : Moved (fun k => k = g2 ∨ k = g3) wd ws := by rw [hws]; exact Moved.putAll (F := fun k => k = g2 ∨ k = g3) (.inl (.inl rfl)) _ 0 (Moved.refl _ _)
          refine hK.out _ _ (HeldM.of hmws) (fun _ => ?_)
          clear hK K
          refine heldM_grow (w1 := ws) hmws ?_
          clear hHeld
          have hHeld : HeldM (fun k => k = g2 ∨ k = g3) ws ws := HeldM.refl _ _
          have hS2 : Has ws g2 79 (#[.slice (some x) 0 0, .bool false]) := by rw [hws]; exact hG2.whole_cs rfl
          have hS3 : Has ws g3 49 z32 := by rw [hws]; exact hG3.asideAll HNE.out.2.2.2 _ 0
          clear hws
          refine wpAnyH_ready (rs := [6]) (by kernel_rfl) (by simp) ?_
          refine AllReadyH.cons rfl (fun K hK => ?_) AllReadyH.nil
          refine step_store_row (by rfl) 49 (.tmp 3) (.tmp 31) rfl g3 0 ((blist (B.take 32)).toArray) (by first | rfl | simp [Act.eval]) (by first | rfl | simp [Act.eval]) (hS3.there 0 _ (by rw [List.size_toArray, blist_length, HRL.out]; decide)) (size_hash' HRL.out) (one_hash _) rfl ?_
          obtain ⟨wt, hwt⟩ : ∃ ww, ww = ws.setCells g3 0 ((blist (B.take 32)).toArray).toList := ⟨_, rfl⟩
          rw [← hwt]
          have hmwt : Moved (fun k => k = g2 ∨ k = g3) ws wt := by rw [hwt]; exact Moved.putAll (F := fun k => k = g2 ∨ k = g3) (.inl (.inr rfl)) _ 0 (Moved.refl _ _)
          refine hK.out _ _ (HeldM.of hmwt) (fun _ => ?_)
          clear hK K
          refine heldM_grow (w1 := wt) hmwt ?_
          clear hHeld
          have hHeld : HeldM (fun k => k = g2 ∨ k = g3) wt wt := HeldM.refl _ _
          have hU3 : Has wt g3 49 (blist (B.take 32)).toArray := by rw [hwt]; exact hS3.whole_cs (by rw [List.size_toArray, blist_length, HRL.out]; rfl)
          have hU2 : Has wt g2 79 (#[.slice (some x) 0 0, .bool false]) := by rw [hwt]; exact hS2.asideAll (fun e => HNE.out.2.2.2 e.symm) _ 0
          clear hwt
          refine wpAnyH_done (by kernel_rfl) ?_ _
          go_wp2
          refine bodyPost_ret (results_two_cells rfl _ _ g2 g3 rfl rfl _ _ (in_load hU2) (hU3.load_var Try.underlying49 rfl (size_hash' HRL.out))) rfl ?_
          have hBs := hBd.trans (hmws.below (B := w.heap.size) HNE.out.2.2.1 hBd.size)
          have hBt := hBs.trans (hmwt.below (B := w.heap.size) HNE.out.2.2.1 hBs.size)
          have hBB := HBY.out.below hBt
          refine ⟨⟨_, rfl, ?_⟩, hBt⟩
          exact ⟨_, _, _, rfl, ⟨by rw [List.length_drop, hBB.1], by unfold maxLen; omega, fun i hi => by omega⟩, by omega, (fun e => by cases e), HSZ.out⟩
        · have hc32i : ¬ ((c : Int) = 32) := by omega
          go_upto_region 8 with fail
          obtain ⟨wd, hwd⟩ : ∃ x, x = wr.drew := ⟨_, rfl⟩
          have hmd : Below wr.heap.size wr wd := by rw [hwd]; exact (Below.refl _ _).drew
          refine wp_region_held_drew (S := HeldM (fun k => k = g2 ∨ k = g3) wd) (by kernel_rfl) (by rw [hwd]; exact HeldM.refl _ _) (fun hHeld => ?_)
          rw [← hwd] at hHeld ⊢
          clear hwd
          have hBd := hb.trans (hmd.mono hb.size)
          have hG1 := hA1.under hmd hA1.lt
          have hG2 := hR1.under hmd hR1.lt
          have hG3 := hH1.under hmd hH1.lt
          have hG4 := hP.under hmd hP.lt
          have HG1 := Lib.hid hG1
          refine take_at (v := ?_) 0 27 rfl rfl (by kernel_rfl) (by kernel_rfl) (by kernel_rfl) (fun _ _ _ h => h) hHeld (Or.inl ⟨by rfl, ?_⟩) rfl ?_
          rotate_left
          · intro wq hSw
            go_simp
            try with_reducible rfl
          simp only [List.set_cons_zero, List.set_cons_succ]
          refine take_at (v := ?_) 1 28 rfl rfl (by kernel_rfl) (by kernel_rfl) (by kernel_rfl) (fun _ _ _ h => h) hHeld (Or.inl ⟨by rfl, ?_⟩) rfl ?_
          rotate_left
          · intro wq hSw
            have hst := (HG1.out.moved hSw.out (fun e => e.elim (fun e => HNI.out.1 e) (fun e => HNI.out.2 e))).cell_at (i := 0) (v := .slice (some x) n c) rfl
            go_simp
            try with_reducible rfl
          simp only [List.set_cons_zero, List.set_cons_succ]
          refine take_at (v := ?_) 2 29 rfl rfl (by kernel_rfl) (by kernel_rfl) (by kernel_rfl) (fun _ _ _ h => h) hHeld (Or.inl ⟨by rfl, ?_⟩) rfl ?_
          rotate_left
          · intro wq hSw
            go_simp
            try with_reducible rfl
          simp only [List.set_cons_zero, List.set_cons_succ]
          refine take_at (v := ?_) 3 30 rfl rfl (by kernel_rfl) (by kernel_rfl) (by kernel_rfl) (fun _ _ _ h => h) hHeld (Or.inl ⟨by rfl, ?_⟩) rfl ?_
          rotate_left
          · intro wq hSw
            go_simp
            try with_reducible rfl
          simp only [List.set_cons_zero, List.set_cons_succ]
          refine take_at 4 31 rfl rfl (by kernel_rfl) (by kernel_rfl) (by kernel_rfl) (fun _ _ _ h => h) hHeld (yieldsIf_load_agg (by rfl) 49 (.tmp 4) rfl _ _ (by rfl) (fun wq hSw => (hG4.moved hSw.out (fun e => e.elim (fun e => HNE.out.1 e) (fun e => HNE.out.2.1 e))).load_agg Try.underlying49 rfl (size_hash' HRL.out))) rfl ?_
          simp only [List.set_cons_zero, List.set_cons_succ]
          refine wpAnyH_ready (rs := [5]) (by kernel_rfl) (by simp) ?_
          refine AllReadyH.cons rfl (fun K hK => ?_) AllReadyH.nil
          refine step_store_row (by rfl) 79 (.tmp 2) (.tmp 30) rfl g2 0 (#[.slice (some (x.add 32)) (n - 32) (c - 32), .bool false]) (by first | rfl | simp [Act.eval]) (by first | rfl | simp [Act.eval]) (hG2.there 0 2 (Nat.le_refl _)) (in_size _ _) (in_one _ _ rfl rfl) rfl ?_
          obtain ⟨ws, hws⟩ : ∃ ww, ww = wd.setCells g2 0 (#[.slice (some (x.add 32)) (n - 32) (c - 32), .bool false]).toList := ⟨_, rfl⟩
          rw [← hws]
          have hmws : Moved (fun k => k = g2 ∨ k = g3) wd ws := by rw [hws]; exact Moved.putAll (F := fun k => k = g2 ∨ k = g3) (.inl (.inl rfl)) _ 0 (Moved.refl _ _)
          refine hK.out _ _ (HeldM.of hmws) (fun _ => ?_)
          clear hK K
          refine heldM_grow (w1 := ws) hmws ?_
          clear hHeld
          have hHeld : HeldM (fun k => k = g2 ∨ k = g3) ws ws := HeldM.refl _ _
          have hS2 : Has ws g2 79 (#[.slice (some (x.add 32)) (n - 32) (c - 32), .bool false]) := by rw [hws]; exact hG2.whole_cs rfl
          have hS3 : Has ws g3 49 z32 := by rw [hws]; exact hG3.asideAll HNE.out.2.2.2 _ 0
          clear hws
          refine wpAnyH_ready (rs := [6]) (by kernel_rfl) (by simp) ?_
          refine AllReadyH.cons rfl (fun K hK => ?_) AllReadyH.nil
          refine step_store_row (by rfl) 49 (.tmp 3) (.tmp 31) rfl g3 0 ((blist (B.take 32)).toArray) (by first | rfl | simp [Act.eval]) (by first | rfl | simp [Act.eval]) (hS3.there 0 _ (by rw [List.size_toArray, blist_length, HRL.out]; decide)) (size_hash' HRL.out) (one_hash _) rfl ?_
          obtain ⟨wt, hwt⟩ : ∃ ww, ww = ws.setCells g3 0 ((blist (B.take 32)).toArray).toList := ⟨_, rfl⟩
          rw [← hwt]
          have hmwt : Moved (fun k => k = g2 ∨ k = g3) ws wt := by rw [hwt]; exact Moved.putAll (F := fun k => k = g2 ∨ k = g3) (.inl (.inr rfl)) _ 0 (Moved.refl _ _)
          refine hK.out _ _ (HeldM.of hmwt) (fun _ => ?_)
          clear hK K
          refine heldM_grow (w1 := wt) hmwt ?_
          clear hHeld
          have hHeld : HeldM (fun k => k = g2 ∨ k = g3) wt wt := HeldM.refl _ _
          have hU3 : Has wt g3 49 (blist (B.take 32)).toArray := by rw [hwt]; exact hS3.whole_cs (by rw [List.size_toArray, blist_length, HRL.out]; rfl)
          have hU2 : Has wt g2 79 (#[.slice (some (x.add 32)) (n - 32) (c - 32), .bool false]) := by rw [hwt]; exact hS2.asideAll (fun e => HNE.out.2.2.2 e.symm) _ 0
          clear hwt
          refine wpAnyH_done (by kernel_rfl) ?_ _
          go_wp2
          refine bodyPost_ret (results_two_cells rfl _ _ g2 g3 rfl rfl _ _ (in_load hU2) (hU3.load_var Try.underlying49 rfl (size_hash' HRL.out))) rfl ?_
          have hBs := hBd.trans (hmws.below (B := w.heap.size) HNE.out.2.2.1 hBd.size)
          have hBt := hBs.trans (hmwt.below (B := w.heap.size) HNE.out.2.2.1 hBs.size)
          have hBB := HBY.out.below hBt
          refine ⟨⟨_, rfl, ?_⟩, hBt⟩
          exact ⟨_, _, _, rfl, bytes_from hBB 32, by omega, (fun e => by cases e), fun y e => by injection e with e; rw [← e, block_add]; exact HSZ.out x rfl⟩
end Go.Proofs.Ytpbijcchdjppmaa.RdS

/-! a spend that is built field by field; a reader beside other blocks; words as ints: for the reference's Read -/
namespace Go.Proofs.Ytpbijcchdjppmaa
open Go Go.RowKit Go.ChangeShapes Go.WideShapes
/-- a spend's cells while it is built -/
def spRow (h : List (BitVec 8)) (x y z : Value) : Array Value := (blist h ++ [x, y, z]).toArray
theorem spRow_spend (s : Tx.Sp) : spRow s.h (.int .i64 s.n) (.string (strB s.key)) (.int .u64 (nb64 s.sl)) = (spCells s).toArray := rfl
theorem spRow_size {h : List (BitVec 8)} {x y z : Value} (hl : h.length = 32) : (spRow h x y z).size = 35 := by simp [spRow, blist_length, hl]
theorem spRow_at {h : List (BitVec 8)} {x y z : Value} (hl : h.length = 32) (j : Nat) : (spRow h x y z)[32 + j]? = ([x, y, z] : List Value)[j]? := by
  unfold spRow
  rw [List.getElem?_toArray, List.getElem?_append_right (by rw [blist_length, hl]; omega), blist_length, hl, Nat.add_sub_cancel_left]
theorem one_zSp : zSp.all (·.oneCell') = true := by simp [Value.oneCell']
theorem size_zSp : (Try.prog.info? 54).map (·.size) = some zSp.size := by kernel_rfl
section
variable {w : World} {g : Nat} {T : TypeId} {h : List (BitVec 8)} {x y z u : Value}
theorem zSp_row : zSp = spRow (List.replicate 32 0#8) (.int .i64 0) (.string ⟨#[]⟩) (.int .u64 0) := by rfl
theorem row_hash {h0 : List (BitVec 8)} (hh : Has w g T (spRow h0 x y z)) (h0l : h0.length = 32) (hl : h.length = 32) : Has (w.setCells g 0 (blist h)) g T (spRow h x y z) := by
  have key : ∀ (vs : List Value) (a : List Value) (r : List Value) (b : List Value), b.length = vs.length → putAll (a ++ b ++ r).toArray a.length vs = (a ++ vs ++ r).toArray := by
    intro vs
    induction vs with
    | nil =>
      intro a r b hb
      obtain rfl := List.length_eq_zero_iff.1 hb
      rfl
    | cons v vs ih =>
      intro a r b hb
      cases b with
      | nil => cases hb
      | cons b0 b =>
        show putAll ((a ++ b0 :: b ++ r).toArray.setIfInBounds a.length v) (a.length + 1) vs = _
        have e : (a ++ b0 :: b ++ r).toArray.setIfInBounds a.length v = ((a ++ [v]) ++ b ++ r).toArray := by
          rw [List.setIfInBounds_toArray]
          congr 1
          simp
        rw [e]
        have := ih (a ++ [v]) r b (by simpa using hb)
        rw [List.length_append] at this
        rw [show a.length + [v].length = a.length + 1 from rfl] at this
        rw [this]
        simp
  have h1 := hh.putAll (blist h) 0
  have h2 := key (blist h) [] [x, y, z] (blist h0) (by rw [blist_length, blist_length, hl, h0l])
  rw [List.nil_append, List.nil_append] at h2
  unfold spRow at h1 ⊢
  rw [show ([] : List Value).length = 0 from rfl] at h2
  rwa [h2] at h1
theorem row_set (hh : Has w g T (spRow h x y z)) (hl : h.length = 32) (j : Nat) : Has (w.setCell ⟨g, 32 + j, none⟩ u) g T (blist h ++ ([x, y, z] : List Value).set j u).toArray := by
  have h1 := hh.put (32 + j) u
  unfold spRow at h1
  rw [List.setIfInBounds_toArray, List.set_append_right _ _ (by rw [blist_length, hl]; omega), blist_length, hl, Nat.add_sub_cancel_left] at h1
  exact h1
theorem row_n (hh : Has w g T (spRow h x y z)) (hl : h.length = 32) : Has (w.setCell ⟨g, 32, none⟩ u) g T (spRow h u y z) := row_set hh hl 0
theorem row_key (hh : Has w g T (spRow h x y z)) (hl : h.length = 32) : Has (w.setCell ⟨g, 33, none⟩ u) g T (spRow h x u z) := row_set hh hl 1
theorem row_seal (hh : Has w g T (spRow h x y z)) (hl : h.length = 32) : Has (w.setCell ⟨g, 34, none⟩ u) g T (spRow h x y u) := row_set hh hl 2
theorem row_at_n (hh : Has w g T (spRow h x y z)) (hl : h.length = 32) : w.cell? ⟨g, 32, none⟩ = some x := hh.cell_at (spRow_at hl 0)
theorem row_at_key (hh : Has w g T (spRow h x y z)) (hl : h.length = 32) : w.cell? ⟨g, 33, none⟩ = some y := hh.cell_at (spRow_at hl 1)
theorem row_at_seal (hh : Has w g T (spRow h x y z)) (hl : h.length = 32) : w.cell? ⟨g, 34, none⟩ = some z := hh.cell_at (spRow_at hl 2)
end
/-- a reader where blocks of F are written: its bytes lie in blocks of S -/
theorem RdS.InS.moved {S F : Nat → Prop} {w w' : World} {s : Pk.Rd} {v : Value} (h : RdS.InS S w s v) (hm : Moved F w w') (hF : s ≠ none → ∀ k, S k → ¬ F k) : RdS.InS S w' s v := by
  cases s with
  | none => exact h
  | some B =>
    obtain ⟨a, n, c, h1, h2, h3, h4, h5⟩ := h
    exact ⟨a, n, c, h1, h2.moved hm (fun _ y e hf => hF (by simp) y.block (h5 y e) hf), h3, h4, h5⟩
theorem word_int (x : BitVec 64) : IntKind.i64.wrap (nb64 x) = x.toInt := by
  have hx := x.isLt
  rw [IntKind.wrap_i64]
  simp only [nb64, BitVec.toInt_eq_toNat_cond]
  split <;> omega
theorem word_small (x : BitVec 64) (h : x.toNat < 9223372036854775808) : IntKind.i64.wrap (nb64 x) = (x.toNat : Int) := by
  rw [word_int, BitVec.toInt_eq_toNat_cond]
  rw [if_pos (by omega)]
/-- what is read in four bytes is small -/
theorem rdNum4_small (s : Pk.Rd) : (Pk.rdNum s 4).2.toNat < 4294967296 := by
  unfold Pk.rdNum
  cases s with
  | none => simp
  | some B =>
    simp only
    split
    · have := Pk.leV_lt B 4 0
      simpa using this
    · simp
end Go.Proofs.Ytpbijcchdjppmaa

/-! A slice literal of one record. Nothing of the program. -/
namespace Go.Proofs.Ytpbijcchdjppmaa
open Go Go.RowKit Go.ChangeShapes Go.WideShapes
/-! a slice literal of one record -/
theorem fold_row : ∀ (l pre b r : List Value), b.length = l.length → (l.zipIdx pre.length).foldl (fun acc (p : Value × Nat) => acc.setIfInBounds (0 + p.2) p.1) (pre ++ b ++ r).toArray = (pre ++ l ++ r).toArray
  | [], pre, b, r, hb => by
    obtain rfl := List.length_eq_zero_iff.1 hb
    rfl
  | v :: l, pre, [], r, hb => by cases hb
  | v :: l, pre, b0 :: b, r, hb => by
    rw [List.zipIdx_cons, List.foldl_cons]
    have e : (pre ++ b0 :: b ++ r).toArray.setIfInBounds (0 + pre.length) v = ((pre ++ [v]) ++ b ++ r).toArray := by
      rw [List.setIfInBounds_toArray, Nat.zero_add]
      congr 1
      simp
    have ih := fold_row l (pre ++ [v]) b r (by simpa using hb)
    rw [List.length_append] at ih
    simp only
    rw [e]
    rw [show pre.length + [v].length = pre.length + 1 from rfl] at ih
    rw [ih]
    simp
theorem fill_row {k : Nat} (cs zs : Array Value) (hc : cs.size = k) (hz : zs.size = k) : Instr.fill (fun i => some (i * k, k)) zs [(0, .agg cs)] = some cs := by
  have h := fold_row cs.toList [] zs.toList [] (by rw [Array.length_toList, Array.length_toList, hc, hz])
  have hcc : (Value.agg cs).cells = cs := rfl
  unfold Instr.fill
  simp only [Nat.zero_mul, hcc, hc, hz, ne_eq, not_true_eq_false, Nat.zero_add, gt_iff_lt, Nat.lt_irrefl, decide_false, Bool.or_self, Bool.false_eq_true, if_false]
  unfold Instr.fill
  congr 1
  rw [← Array.foldl_toList, Array.toList_zipIdx]
  simpa using h
theorem run_build_row {P : Program} {t T : TypeId} {z : Array Value} {k by_ : Nat} (ht : P.underlying t = some (.slice T)) (hi : (P.info? T).map (fun i => (i.zero, i.size, i.bytes)) = some (some (.agg z), k, by_)) (hk : 0 < k) (hk2 : k ≤ 16777216) (cs : Array Value) (hc : cs.size = k) (w : World) :
    (Instr.buildSlice t 1 #[(0, .agg cs)]).run P w = .ok (.slice (some ⟨w.heap.size, 0, none⟩) 1 1) (w.alloc (.cells cs T)) := by
  obtain ⟨i0, hi0, hz0, hz1, hz2⟩ := info_parts hi
  have hf := fill_row cs ((Array.range (1 * k)).map (z[· % z.size]!)) hc (by simp)
  have hz : (Value.agg z).cells = z := rfl
  have hne : ¬ k = 0 := by omega
  have hgt : ¬ 16777216 < k := by omega
  simp at hf
  simp [Instr.buildSlice, Sem.run_bind, run_underlying ht, sizeOf, typeInfo, zeroValue, hi0, hz0, hz1, hz, newRow, hf, hne, hgt]
theorem wpList_build_row {P : Program} {w : World} {ops : Array Oper} {rest : List Oper} {o : Oper} {a : Act} {Q : Exit → Act → World → Prop} (hgd : o.guard = none) (x : Operand) (t : TypeId) (ho : o.op = .buildSlice t 1 #[(0, x)])
    (T : TypeId) {z : Array Value} {k by_ : Nat} (ht : P.underlying t = some (.slice T)) (hi : (P.info? T).map (fun i => (i.zero, i.size, i.bytes)) = some (some (.agg z), k, by_)) (hk : 0 < k) (hk2 : k ≤ 16777216) (cs : Array Value) (hc : cs.size = k) (hx : a.eval x = .agg cs)
    (h : wpList P ops Q rest (a.put o.dst (.slice (some ⟨w.heap.size, 0, none⟩) 1 1)) (w.alloc (.cells cs T))) : wpList P ops Q (o :: rest) a w :=
  wpList_plain hgd fun K hK => by
    have hr := run_build_row (P := P) ht hi hk hk2 cs hc w
    unfold Oper.wp execOp
    simp only [ho, List.map_toArray, List.map_cons, List.map_nil, hx, Sem.run_bind, Sem.run_pure, Result.andThen_ok, hr]
    exact hK _ _ h
end Go.Proofs.Ytpbijcchdjppmaa

/-! what is left of a reader while a transaction is read; the reader beside other blocks -/
namespace Go.Proofs.Ytpbijcchdjppmaa
open Go Go.RowKit Go.ChangeShapes Go.WideShapes
/-- a reader that may be read further: few bytes; none are left where there were none -/
def Tx.Gs (l : List (BitVec 8)) (s : Pk.Rd) : Prop := (s ≠ none → l ≠ []) ∧ (Pk.left s).length ≤ 1000000
theorem Tx.left_count (s : Pk.Rd) (z : Int) : ((Pk.rdCount s z).1 ≠ none → s ≠ none) ∧ (Pk.left (Pk.rdCount s z).1).length ≤ (Pk.left s).length := by
  have h1 := RdS.left_rdMore (Pk.rdNum s 1)
  have h2 := RdS.left_rdNum s 1
  refine ⟨fun h => ?_, ?_⟩
  · rintro rfl
    apply h
    unfold Pk.rdCount Pk.rdMore
    rfl
  · simp only [Pk.rdCount]
    generalize hp : Pk.rdMore (Pk.rdNum s 1) = p at h1
    obtain ⟨x, y⟩ := p
    cases x with
    | none => simp [Pk.left]
    | some B =>
      simp only
      split
      · exact Nat.le_trans h1 h2
      · simp [Pk.left]
section
variable {l : List (BitVec 8)} {s : Pk.Rd}
theorem Tx.Gs.count (h : Tx.Gs l s) (z : Int) : Tx.Gs l (Pk.rdCount s z).1 := ⟨fun e => h.1 ((Tx.left_count s z).1 e), Nat.le_trans (Tx.left_count s z).2 h.2⟩
theorem Tx.Gs.num (h : Tx.Gs l s) (z : Int) : Tx.Gs l (Pk.rdNum s z).1 := ⟨fun e => h.1 (fun e2 => e (by rw [e2]; rfl)), Nat.le_trans (RdS.left_rdNum s z) h.2⟩
theorem Tx.Gs.hash (h : Tx.Gs l s) : Tx.Gs l (Pk.rdHash s).1 := by
  refine ⟨fun e => h.1 (fun e2 => e (by rw [e2]; rfl)), Nat.le_trans ?_ h.2⟩
  cases s with
  | none => exact Nat.le_refl _
  | some B =>
    unfold Pk.rdHash
    simp only
    split
    · simp [Pk.left]
    · simp [Pk.left]
theorem Tx.Gs.text (h : Tx.Gs l s) (z : Int) : Tx.Gs l (Pk.rdText s z).1 := by
  have hc := h.count z
  unfold Pk.rdText
  generalize hq : (Pk.rdCount s z).1 = q at hc
  cases q with
  | none => exact ⟨fun e => absurd rfl e, by simp [Pk.left]⟩
  | some B =>
    simp only
    split
    · refine ⟨fun _ => hc.1 (by simp), ?_⟩
      have := hc.2
      simp only [Pk.left, Option.getD_some, List.length_drop] at this ⊢
      omega
    · exact ⟨fun e => absurd rfl e, by simp [Pk.left]⟩
theorem Tx.Gs.start (hl : l.length ≤ 1000000) : Tx.Gs l (Pk.rdCount (some l) 8).1 := by
  refine ⟨fun e e2 => e (by rw [e2]; rfl), Nat.le_trans (Tx.left_count (some l) 8).2 hl⟩
theorem Tx.Gs.sp (h : Tx.Gs l s) : Tx.Gs l (Tx.rdSp s).1 := ((h.hash.num 4).text 32).num 8
theorem Tx.Gs.co (h : Tx.Gs l s) : Tx.Gs l (Tx.rdCo s).1 := (h.num 8).num 8
theorem Tx.Gs.sps (h : Tx.Gs l s) (ok : Bool) : ∀ k, Tx.Gs l (Tx.rdSps s ok k).1
  | 0 => h
  | k + 1 => (Tx.Gs.sps h ok k).sp
theorem Tx.Gs.cos (h : Tx.Gs l s) (ok : Bool) : ∀ k, Tx.Gs l (Tx.rdCos s ok k).1
  | 0 => h
  | k + 1 => (Tx.Gs.cos h ok k).co
end
/-- what a caller is given of bytes -/
def Tx.rdV (l : List (BitVec 8)) : Tx.T := if Tx.rdOk l then Tx.rdT l else Tx.zT
/-- whose blocks the bytes of an argument l may lie in -/
def Tx.Src (l : List (BitVec 8)) (N : Nat) (k : Nat) : Prop := l = [] ∨ k < N
theorem RdS.InS.keep {l : List (BitVec 8)} {N : Nat} {F : Nat → Prop} {w w' : World} {s : Pk.Rd} {v : Value} (h : RdS.InS (Tx.Src l N) w s v) (hg : Tx.Gs l s) (hm : Moved F w w') (hF : ∀ k, F k → N ≤ k) : RdS.InS (Tx.Src l N) w' s v :=
  h.moved hm fun hs k hk hf => by
    rcases hk with hk | hk
    · exact hg.1 hs hk
    · have := hF k hf
      omega
/-- one spend more, one coin more -/
theorem Tx.sps_next {s1 s : Pk.Rd} {b0 ok : Bool} {k : Nat} {L0 : List Tx.Sp} {ph : Pk.Rd × List (BitVec 8)} {pn pl : Pk.Rd × BitVec 64} {px : Pk.Rd × List (BitVec 8)} (h : s = (Tx.rdSps s1 b0 k).1 ∧ L0 = (Tx.rdSps s1 b0 k).2.1 ∧ ok = (Tx.rdSps s1 b0 k).2.2)
    (h1 : ph = Pk.rdHash s) (h2 : pn = Pk.rdNum ph.1 4) (h3 : px = Pk.rdText pn.1 32) (h4 : pl = Pk.rdNum px.1 8) :
    Tx.rdSps s1 b0 (k + 1) = (pl.1, L0 ++ [⟨ph.2, pn.2.toNat, px.2, pl.2⟩], ok && decide (pn.2.toNat < 8)) := by
  obtain ⟨rfl, rfl, rfl⟩ := h
  subst h1
  subst h2
  subst h3
  subst h4
  rfl
theorem Tx.cos_next {s1 s : Pk.Rd} {b0 ok : Bool} {k : Nat} {L0 : List Tx.Co} {pv pl : Pk.Rd × BitVec 64} (h : s = (Tx.rdCos s1 b0 k).1 ∧ L0 = (Tx.rdCos s1 b0 k).2.1 ∧ ok = (Tx.rdCos s1 b0 k).2.2)
    (h1 : pv = Pk.rdNum s 8) (h2 : pl = Pk.rdNum pv.1 8) :
    Tx.rdCos s1 b0 (k + 1) = (pl.1, L0 ++ [⟨pv.2.toInt, pl.2⟩], ok && decide (Am.Good pv.2.toInt)) := by
  obtain ⟨rfl, rfl, rfl⟩ := h
  subst h1
  subst h2
  rfl
end Go.Proofs.Ytpbijcchdjppmaa

/-! package tx: a spend, a coin read (mktxf.py) -/
namespace Go.Proofs.Ytpbijcchdjppmaa
open Go Go.RowKit Go.ChangeShapes Go.WideShapes
def encSpV (x : Tx.Sp × Bool) : Value := .agg (spCells x.1).toArray
/-- a number that no coin has, a value that is none -/
def Tx.offN (s : Tx.Sp) : Prop := ¬ (0 ≤ s.n ∧ s.n < 8)
instance (s : Tx.Sp) : Decidable (Tx.offN s) := inferInstanceAs (Decidable (¬ _))
def Tx.offV (c : Tx.Co) : Prop := ¬ Am.Good c.v
instance (c : Tx.Co) : Decidable (Tx.offV c) := inferInstanceAs (Decidable (¬ _))
def encCoV (x : Tx.Co × Bool) : Value := .agg (coCells x.1).toArray
set_option maxRecDepth 100000 in
set_option maxHeartbeats 16000000 in
theorem readSpend_any (gi : Nat) (r : Option Nat) (s : Pk.Rd) (w : World) (h : InS w gi r s) :
    Calls Try.prog 31 #[.pointer (some ⟨gi, 0, none⟩)] w (InPost encSpV gi r (Tx.rdSp s) w) := by
  obtain ⟨W2, hW2⟩ : ∃ x, x = (w.alloc (.cells zSp 54)).alloc (.cells zSp 54) := ⟨_, rfl⟩
  have hB2 : Below w.heap.size w W2 := by rw [hW2]; exact ((Below.refl _ w).alloc (Nat.le_refl _) _).alloc (by simp) _
  have hR : Has W2 w.heap.size 54 zSp := by rw [hW2]; exact (Has.fresh w _ _).past _
  have hG : Has W2 (w.heap.size + 1) 54 zSp := by rw [hW2]; exact Has.fresh_at _ _ _ (by simp)
  rw [zSp_row] at hG
  have hM : Moved (inF gi) w W2 := Moved.of_below hB2
  have hI := h.below hB2
  have hgi : gi < w.heap.size := by
    cases s with
    | none => exact h.2.lt
    | some B => obtain ⟨_, _, _, h2, _⟩ := h.2; exact h2.lt
  have HR := Lib.hid (show ∀ k, r = some k → k < w.heap.size from fun k e => (h.1 k e).2)
  have HW := Lib.hid hW2
  clear hW2 h hB2
  go_enter Try.func31, Try.ntmps31
  go_upto_region 2 with fail
  rw [← HW.out]
  obtain ⟨g2, hg2⟩ : ∃ g, g = w.heap.size := ⟨_, rfl⟩
  obtain ⟨g3, hg3⟩ : ∃ g, g = w.heap.size + 1 := ⟨_, rfl⟩
  rw [← hg3, ← hg2]
  rw [← hg2] at hR
  rw [← hg3] at hG
  have HN := Lib.hid (show g2 = w.heap.size ∧ g3 = w.heap.size + 1 ∧ gi < w.heap.size from ⟨hg2, hg3, hgi⟩)
  clear hg2 hg3 hgi HW
  obtain ⟨ph, hph⟩ : ∃ x, x = Pk.rdHash s := ⟨_, rfl⟩
  have HPph := Lib.hid hph
  clear hph
  obtain ⟨pn, hpn⟩ : ∃ x, x = Pk.rdNum ph.1 4 := ⟨_, rfl⟩
  have HPpn := Lib.hid hpn
  clear hpn
  obtain ⟨px, hpx⟩ : ∃ x, x = Pk.rdText pn.1 32 := ⟨_, rfl⟩
  have HPpx := Lib.hid hpx
  clear hpx
  obtain ⟨pl, hpl⟩ : ∃ x, x = Pk.rdNum px.1 8 := ⟨_, rfl⟩
  have HPpl := Lib.hid hpl
  clear hpl
  have HLH := Lib.hid (show ph.2.length = 32 by rw [HPph.out]; exact Tx.rdHash_len s)
  have HLK := Lib.hid (show px.2.length ≤ 32 by rw [HPpx.out]; exact Tx.rdText_len _)
  have HSM := Lib.hid (show pn.2.toNat < 4294967296 by rw [HPpn.out]; exact rdNum4_small _)
  have HRS := Lib.hid (show Tx.rdSp s = (pl.1, ⟨ph.2, pn.2.toNat, px.2, pl.2⟩, decide (pn.2.toNat < 8)) by rw [HPpl.out, HPpx.out, HPpn.out, HPph.out]; rfl)
  go_upto_region 3 with (first
    | (refine wpList_store_mid rfl 49 (.tmp 7) (.tmp 5) rfl g3 0 (blist ph.2).toArray rfl rfl (hG.there 0 _ (by rw [List.size_toArray, blist_length, HLH.out, spRow_size (by simp)]; omega)) (size_hash' HLH.out) (one_hash _) ?_)
    | (go_at_call 59; refine (inHash_any gi r s W2 hI).mono ?_; rw [← HPph.out]; rintro e w3 ⟨rfl, hIn, hmn⟩; replace hI := hIn; have hmn2 := hmn; replace hG := hG.moved hmn2 (fun e => by have e2 : g3 = gi := e; have := HN.out; omega); replace hR := hR.moved hmn2 (fun e => by have e2 : g2 = gi := e; have := HN.out; omega); replace hM := hM.trans hmn2 (fun k e => .inl e); clear hIn hmn hmn2))
  obtain ⟨w4, hwx⟩ : ∃ x, x = w3.setCells g3 0 (blist ph.2) := ⟨_, rfl⟩
  rw [← hwx]
  have hmx : Moved (fun k => k = g3) w3 w4 := by rw [hwx]; exact Moved.putAll (F := fun k => k = g3) (.inl rfl) _ _ (Moved.refl _ _)
  have hgx := row_hash hG (by simp) HLH.out
  rw [← hwx] at hgx
  replace hG := hgx
  clear hgx
  replace hI := hI.moved hmx (fun e => by have e2 : gi = g3 := e; have := HN.out; omega) (fun k hk e => by have e2 : k = g3 := e; have := HR.out k hk; have := HN.out; omega)
  replace hR := hR.moved hmx (fun e => by have e2 : g2 = g3 := e; have := HN.out; omega)
  replace hM := hM.trans hmx (fun k e => .inr (by have e2 : k = g3 := e; have := HN.out; omega))
  clear hwx hmx
  have hwd : IntKind.i64.wrap (nb64 pn.2) = (pn.2.toNat : Int) := word_small _ (by have := HSM.out; omega)
  go_upto_region 4 with (go_at_call 33; refine (inNum_any gi r ph.1 4 w4 hI).mono ?_; rw [← HPpn.out]; rintro e w5 ⟨rfl, hIn, hmn⟩; replace hI := hIn; have hmn2 := hmn; replace hG := hG.moved hmn2 (fun e => by have e2 : g3 = gi := e; have := HN.out; omega); replace hR := hR.moved hmn2 (fun e => by have e2 : g2 = gi := e; have := HN.out; omega); replace hM := hM.trans hmn2 (fun k e => .inl e); clear hIn hmn hmn2; have c32 := row_at_n hG HLH.out; have l32 := hG.loose 32)
  clear c32 l32 hwd
  obtain ⟨w6, hwx⟩ : ∃ x, x = w5.setCell ⟨g3, 32, none⟩ (.int .i64 (pn.2.toNat : Int)) := ⟨_, rfl⟩
  rw [← hwx]
  have hmx : Moved (fun k => k = g3) w5 w6 := by rw [hwx]; exact Moved.put (F := fun k => k = g3) (Moved.refl _ _) (.inl rfl) _ _
  have hgx := row_n (u := .int .i64 (pn.2.toNat : Int)) hG HLH.out
  rw [← hwx] at hgx
  replace hG := hgx
  clear hgx
  replace hI := hI.moved hmx (fun e => by have e2 : gi = g3 := e; have := HN.out; omega) (fun k hk e => by have e2 : k = g3 := e; have := HR.out k hk; have := HN.out; omega)
  replace hR := hR.moved hmx (fun e => by have e2 : g2 = g3 := e; have := HN.out; omega)
  replace hM := hM.trans hmx (fun k e => .inr (by have e2 : k = g3 := e; have := HN.out; omega))
  clear hwx hmx
  go_upto_region 5 with (go_at_call 60; refine (inText_any gi r pn.1 32 (by omega) w6 hI).mono ?_; rw [← HPpx.out]; rintro e w7 ⟨rfl, hIn, hmn⟩; replace hI := hIn; have hmn2 := hmn; replace hG := hG.moved hmn2 (fun e => by have e2 : g3 = gi := e; have := HN.out; omega); replace hR := hR.moved hmn2 (fun e => by have e2 : g2 = gi := e; have := HN.out; omega); replace hM := hM.trans hmn2 (fun k e => .inl e); clear hIn hmn hmn2; have c33 := row_at_key hG HLH.out; have l33 := hG.loose 33)
  clear c33 l33
  obtain ⟨w8, hwx⟩ : ∃ x, x = w7.setCell ⟨g3, 33, none⟩ (.string (strB px.2)) := ⟨_, rfl⟩
  rw [← hwx]
  have hmx : Moved (fun k => k = g3) w7 w8 := by rw [hwx]; exact Moved.put (F := fun k => k = g3) (Moved.refl _ _) (.inl rfl) _ _
  have hgx := row_key (u := .string (strB px.2)) hG HLH.out
  rw [← hwx] at hgx
  replace hG := hgx
  clear hgx
  replace hI := hI.moved hmx (fun e => by have e2 : gi = g3 := e; have := HN.out; omega) (fun k hk e => by have e2 : k = g3 := e; have := HR.out k hk; have := HN.out; omega)
  replace hR := hR.moved hmx (fun e => by have e2 : g2 = g3 := e; have := HN.out; omega)
  replace hM := hM.trans hmx (fun k e => .inr (by have e2 : k = g3 := e; have := HN.out; omega))
  clear hwx hmx
  go_upto_region 6 with (go_at_call 33; refine (inNum_any gi r px.1 8 w8 hI).mono ?_; rw [← HPpl.out]; rintro e w9 ⟨rfl, hIn, hmn⟩; replace hI := hIn; have hmn2 := hmn; replace hG := hG.moved hmn2 (fun e => by have e2 : g3 = gi := e; have := HN.out; omega); replace hR := hR.moved hmn2 (fun e => by have e2 : g2 = gi := e; have := HN.out; omega); replace hM := hM.trans hmn2 (fun k e => .inl e); clear hIn hmn hmn2; have c34 := row_at_seal hG HLH.out; have l34 := hG.loose 34)
  clear c34 l34
  obtain ⟨wA, hwx⟩ : ∃ x, x = w9.setCell ⟨g3, 34, none⟩ (.int .u64 (nb64 pl.2)) := ⟨_, rfl⟩
  rw [← hwx]
  have hmx : Moved (fun k => k = g3) w9 wA := by rw [hwx]; exact Moved.put (F := fun k => k = g3) (Moved.refl _ _) (.inl rfl) _ _
  have hgx := row_seal (u := .int .u64 (nb64 pl.2)) hG HLH.out
  rw [← hwx] at hgx
  replace hG := hgx
  clear hgx
  replace hI := hI.moved hmx (fun e => by have e2 : gi = g3 := e; have := HN.out; omega) (fun k hk e => by have e2 : k = g3 := e; have := HR.out k hk; have := HN.out; omega)
  replace hR := hR.moved hmx (fun e => by have e2 : g2 = g3 := e; have := HN.out; omega)
  replace hM := hM.trans hmx (fun k e => .inr (by have e2 : k = g3 := e; have := HN.out; omega))
  clear hwx hmx
  obtain ⟨cs, hcs⟩ : ∃ cs : Array Value, cs = (spCells ⟨ph.2, (pn.2.toNat : Int), px.2, pl.2⟩).toArray := ⟨_, rfl⟩
  have hsz : cs.size = 35 := by rw [hcs]; exact spRow_size (h := ph.2) HLH.out
  replace hG : Has wA g3 54 cs := by rw [hcs]; exact hG
  have lG := hG.load_agg (P := Try.prog) (t := 54) Try.underlying54 rfl (by rw [hsz]; kernel_rfl)
  have hone : cs.all (·.oneCell') = true := by rw [hcs]; exact spRec.all_one ⟨ph.2, (pn.2.toNat : Int), px.2, pl.2⟩
  have HC := Lib.hid (show (Try.prog.info? 54).map (·.size) = some cs.size ∧ cs.all (·.oneCell') = true ∧ cs.size = 35 ∧ cs = (spCells ⟨ph.2, (pn.2.toNat : Int), px.2, pl.2⟩).toArray from ⟨by rw [hsz]; kernel_rfl, hone, hsz, hcs⟩)
  clear hcs hsz hone
  go_wp2_with (first
    | (refine wpList_store_mid rfl 54 (.tmp 2) (.tmp 19) rfl g2 0 cs rfl rfl (hR.there 0 _ (by rw [HC.out.2.2.1]; exact Nat.le_refl 35)) HC.out.1 HC.out.2.1 ?_)
    | (refine wpList_load_run rfl 54 (.tmp 3) rfl _ _ rfl lG ?_))
  obtain ⟨wZ, hwZ⟩ : ∃ x, x = wA.setCells g2 0 cs.toList := ⟨_, rfl⟩
  have hE : Has wZ g2 54 cs := by rw [hwZ]; exact hR.whole_cs (by rw [HC.out.2.2.1]; rfl)
  have hmz : Moved (fun k => k = g2) wA wZ := by rw [hwZ]; exact Moved.putAll (F := fun k => k = g2) (.inl rfl) _ 0 (Moved.refl _ _)
  rw [← hwZ]
  refine bodyPost_ret (results_one_cell rfl _ _ g2 rfl _ (hE.load_var Try.underlying54 rfl HC.out.1)) rfl ⟨?_, ?_, ?_⟩
  · rw [HRS.out, HC.out.2.2.2]
    rfl
  · rw [HRS.out]
    exact hI.moved hmz (fun e => by have e2 : gi = g2 := e; have := HN.out; omega) (fun k hk e => by have e2 : k = g2 := e; have := HR.out k hk; have := HN.out; omega)
  · exact hM.trans hmz (fun k e => .inr (by have e2 : k = g2 := e; have := HN.out; omega))
set_option maxRecDepth 100000 in
set_option maxHeartbeats 16000000 in
theorem readCoin_any (gi : Nat) (r : Option Nat) (s : Pk.Rd) (w : World) (h : InS w gi r s) :
    Calls Try.prog 32 #[.pointer (some ⟨gi, 0, none⟩)] w (InPost encCoV gi r (Tx.rdCo s) w) := by
  obtain ⟨W2, hW2⟩ : ∃ x, x = (w.alloc (.cells zCo 56)).alloc (.cells zCo 56) := ⟨_, rfl⟩
  have hB2 : Below w.heap.size w W2 := by rw [hW2]; exact ((Below.refl _ w).alloc (Nat.le_refl _) _).alloc (by simp) _
  have hR : Has W2 w.heap.size 56 zCo := by rw [hW2]; exact (Has.fresh w _ _).past _
  have hG : Has W2 (w.heap.size + 1) 56 zCo := by rw [hW2]; exact Has.fresh_at _ _ _ (by simp)
  have hM : Moved (inF gi) w W2 := Moved.of_below hB2
  have hI := h.below hB2
  have hgi : gi < w.heap.size := by
    cases s with
    | none => exact h.2.lt
    | some B => obtain ⟨_, _, _, h2, _⟩ := h.2; exact h2.lt
  have HR := Lib.hid (show ∀ k, r = some k → k < w.heap.size from fun k e => (h.1 k e).2)
  have HW := Lib.hid hW2
  clear hW2 h hB2
  go_enter Try.func32, Try.ntmps32
  go_upto_region 2 with fail
  rw [← HW.out]
  obtain ⟨g2, hg2⟩ : ∃ g, g = w.heap.size := ⟨_, rfl⟩
  obtain ⟨g3, hg3⟩ : ∃ g, g = w.heap.size + 1 := ⟨_, rfl⟩
  rw [← hg3, ← hg2]
  rw [← hg2] at hR
  rw [← hg3] at hG
  have HN := Lib.hid (show g2 = w.heap.size ∧ g3 = w.heap.size + 1 ∧ gi < w.heap.size from ⟨hg2, hg3, hgi⟩)
  clear hg2 hg3 hgi HW
  obtain ⟨pv, hpv⟩ : ∃ x, x = Pk.rdNum s 8 := ⟨_, rfl⟩
  have HPpv := Lib.hid hpv
  clear hpv
  obtain ⟨pl, hpl⟩ : ∃ x, x = Pk.rdNum pv.1 8 := ⟨_, rfl⟩
  have HPpl := Lib.hid hpl
  clear hpl
  have HRS := Lib.hid (show Tx.rdCo s = (pl.1, ⟨pv.2.toInt, pl.2⟩, decide (Am.Good pv.2.toInt)) by rw [HPpl.out, HPpv.out]; rfl)
  obtain ⟨vi, hvi⟩ : ∃ v, v = pv.2.toInt := ⟨_, rfl⟩
  have hwd : IntKind.i64.wrap (nb64 pv.2) = vi := by rw [hvi]; exact word_int _
  have HVI := Lib.hid hvi
  rw [← hvi] at HRS
  clear hvi
  go_upto_region 3 with (go_at_call 33; refine (inNum_any gi r s 8 W2 hI).mono ?_; rw [← HPpv.out]; rintro e w3 ⟨rfl, hIn, hmn⟩; replace hI := hIn; have hmn2 := hmn; replace hG := hG.moved hmn2 (fun e => by have e2 : g3 = gi := e; have := HN.out; omega); replace hR := hR.moved hmn2 (fun e => by have e2 : g2 = gi := e; have := HN.out; omega); replace hM := hM.trans hmn2 (fun k e => .inl e); clear hIn hmn hmn2; have c0 : w3.cell? ⟨g3, 0, none⟩ = some (.int .i64 0) := hG.cell_at rfl; have l0 := hG.loose 0)
  clear c0 l0 hwd
  obtain ⟨w4, hwx⟩ : ∃ x, x = w3.setCell ⟨g3, 0, none⟩ (.int .i64 vi) := ⟨_, rfl⟩
  rw [← hwx]
  have hmx : Moved (fun k => k = g3) w3 w4 := by rw [hwx]; exact Moved.put (F := fun k => k = g3) (Moved.refl _ _) (.inl rfl) _ _
  have hgx := hG.put 0 (.int .i64 vi)
  rw [← hwx] at hgx
  replace hG := hgx
  clear hgx
  replace hI := hI.moved hmx (fun e => by have e2 : gi = g3 := e; have := HN.out; omega) (fun k hk e => by have e2 : k = g3 := e; have := HR.out k hk; have := HN.out; omega)
  replace hR := hR.moved hmx (fun e => by have e2 : g2 = g3 := e; have := HN.out; omega)
  replace hM := hM.trans hmx (fun k e => .inr (by have e2 : k = g3 := e; have := HN.out; omega))
  clear hwx hmx
  go_upto_region 4 with (go_at_call 33; refine (inNum_any gi r pv.1 8 w4 hI).mono ?_; rw [← HPpl.out]; rintro e w5 ⟨rfl, hIn, hmn⟩; replace hI := hIn; have hmn2 := hmn; replace hG := hG.moved hmn2 (fun e => by have e2 : g3 = gi := e; have := HN.out; omega); replace hR := hR.moved hmn2 (fun e => by have e2 : g2 = gi := e; have := HN.out; omega); replace hM := hM.trans hmn2 (fun k e => .inl e); clear hIn hmn hmn2; have c1 : w5.cell? ⟨g3, 1, none⟩ = some (.int .u64 0) := hG.cell_at rfl; have l1 := hG.loose 1)
  clear c1 l1
  obtain ⟨wA, hwx⟩ : ∃ x, x = w5.setCell ⟨g3, 1, none⟩ (.int .u64 (nb64 pl.2)) := ⟨_, rfl⟩
  rw [← hwx]
  have hmx : Moved (fun k => k = g3) w5 wA := by rw [hwx]; exact Moved.put (F := fun k => k = g3) (Moved.refl _ _) (.inl rfl) _ _
  have hgx := hG.put 1 (.int .u64 (nb64 pl.2))
  rw [← hwx] at hgx
  replace hG := hgx
  clear hgx
  replace hI := hI.moved hmx (fun e => by have e2 : gi = g3 := e; have := HN.out; omega) (fun k hk e => by have e2 : k = g3 := e; have := HR.out k hk; have := HN.out; omega)
  replace hR := hR.moved hmx (fun e => by have e2 : g2 = g3 := e; have := HN.out; omega)
  replace hM := hM.trans hmx (fun k e => .inr (by have e2 : k = g3 := e; have := HN.out; omega))
  clear hwx hmx
  obtain ⟨cs, hcs⟩ : ∃ cs : Array Value, cs = (coCells ⟨vi, pl.2⟩).toArray := ⟨_, rfl⟩
  have hsz : cs.size = 2 := by rw [hcs]; exact rfl
  replace hG : Has wA g3 56 cs := by rw [hcs]; exact hG
  have lG := hG.load_agg (P := Try.prog) (t := 56) Try.underlying56 rfl (by rw [hsz]; kernel_rfl)
  have hone : cs.all (·.oneCell') = true := by rw [hcs]; exact coRec.all_one ⟨vi, pl.2⟩
  have HC := Lib.hid (show (Try.prog.info? 56).map (·.size) = some cs.size ∧ cs.all (·.oneCell') = true ∧ cs.size = 2 ∧ cs = (coCells ⟨vi, pl.2⟩).toArray from ⟨by rw [hsz]; kernel_rfl, hone, hsz, hcs⟩)
  clear hcs hsz hone
  go_wp2_with (first
    | (refine wpList_store_mid rfl 56 (.tmp 2) (.tmp 11) rfl g2 0 cs rfl rfl (hR.there 0 _ (by rw [HC.out.2.2.1]; exact Nat.le_refl 2)) HC.out.1 HC.out.2.1 ?_)
    | (refine wpList_load_run rfl 56 (.tmp 3) rfl _ _ rfl lG ?_))
  obtain ⟨wZ, hwZ⟩ : ∃ x, x = wA.setCells g2 0 cs.toList := ⟨_, rfl⟩
  have hE : Has wZ g2 56 cs := by rw [hwZ]; exact hR.whole_cs (by rw [HC.out.2.2.1]; rfl)
  have hmz : Moved (fun k => k = g2) wA wZ := by rw [hwZ]; exact Moved.putAll (F := fun k => k = g2) (.inl rfl) _ 0 (Moved.refl _ _)
  rw [← hwZ]
  refine bodyPost_ret (results_one_cell rfl _ _ g2 rfl _ (hE.load_var Try.underlying56 rfl HC.out.1)) rfl ⟨?_, ?_, ?_⟩
  · rw [HRS.out, HC.out.2.2.2]
    rfl
  · rw [HRS.out]
    exact hI.moved hmz (fun e => by have e2 : gi = g2 := e; have := HN.out; omega) (fun k hk e => by have e2 : k = g2 := e; have := HR.out k hk; have := HN.out; omega)
  · exact hM.trans hmz (fun k e => .inr (by have e2 : k = g2 := e; have := HN.out; omega))
set_option maxRecDepth 100000 in
set_option maxHeartbeats 16000000 in
theorem read1_any (s : Tx.Sp) (hok : Tx.SpOk s) (b : Bool) (hb : b = true ↔ Tx.offN s) (w : World) :
    Calls Try.prog 36 #[.agg (spCells s).toArray] w fun e w' => e = .returned (.bool b) ∧ Below w.heap.size w w' := by
  obtain ⟨W1, hW1⟩ : ∃ x, x = w.alloc (.cells (spCells s).toArray 54) := ⟨_, rfl⟩
  have hBw : Below w.heap.size w W1 := by rw [hW1]; exact (Below.refl _ w).alloc (Nat.le_refl _) _
  have hX : Has W1 w.heap.size 54 (spCells s).toArray := by rw [hW1]; exact Has.fresh w _ _
  have HW := Lib.hid hW1
  clear hW1
  have c32 := hX.spN hok.1
  obtain ⟨sn, hsn⟩ : ∃ m, m = s.n := ⟨_, rfl⟩
  rw [← hsn] at c32
  replace hb : b = true ↔ ¬ (0 ≤ sn ∧ sn < 8) := by rw [hb, hsn]; rfl
  obtain ⟨v, hv⟩ : ∃ v : Bool, v = true ↔ (0 ≤ sn ∧ sn < 8) := ⟨decide (0 ≤ sn ∧ sn < 8), by simp⟩
  have hbr : (!v) = b := by rw [Bool.eq_iff_iff, hb, Bool.not_eq_true', ← Bool.not_eq_true, hv]
  have HR := Lib.hid (And.intro hv hbr)
  clear hb hsn hok hX hv hbr
  go_enter Try.func36, Try.ntmps36
  go_upto_region 1 with fail
  rw [← HW.out]
  go_wp2_with (go_at_call 37; refine (isnum_any sn v HR.out.1 _).mono ?_; rintro e w2 ⟨rfl, rfl⟩)
  go_ret
  exact ⟨congrArg (fun b => Ending.returned (.bool b)) HR.out.2, hBw⟩
set_option maxRecDepth 100000 in
set_option maxHeartbeats 16000000 in
theorem read2_any (s : Tx.Co) (b : Bool) (hb : b = true ↔ Tx.offV s) (w : World) :
    Calls Try.prog 39 #[.agg #[.int .i64 s.v, .int .u64 (nb64 s.lock)]] w fun e w' => e = .returned (.bool b) ∧ Below w.heap.size w w' := by
  obtain ⟨W1, hW1⟩ : ∃ x, x = w.alloc (.cells #[.int .i64 s.v, .int .u64 (nb64 s.lock)] 56) := ⟨_, rfl⟩
  have hBw : Below w.heap.size w W1 := by rw [hW1]; exact (Below.refl _ w).alloc (Nat.le_refl _) _
  have hX : Has W1 w.heap.size 56 #[.int .i64 s.v, .int .u64 (nb64 s.lock)] := by rw [hW1]; exact Has.fresh w _ _
  have HW := Lib.hid hW1
  clear hW1
  have c0 : W1.cell? ⟨w.heap.size, 0, none⟩ = some (.int .i64 s.v) := hX.cell_at rfl
  obtain ⟨v, hv⟩ : ∃ v : Bool, v = true ↔ Am.Good s.v := ⟨decide (Am.Good s.v), by simp⟩
  have hbr : (!v) = b := by rw [Bool.eq_iff_iff, hb, Bool.not_eq_true', ← Bool.not_eq_true, hv]; rfl
  have HR := Lib.hid (And.intro hv hbr)
  clear hb hX hv hbr
  go_enter Try.func39, Try.ntmps39
  go_upto_region 1 with fail
  rw [← HW.out]
  go_wp2_with (go_at_call 40; refine (pgood_any s.v v HR.out.1 _).mono ?_; rintro e w2 ⟨rfl, rfl⟩)
  go_ret
  exact ⟨congrArg (fun b => Ending.returned (.bool b)) HR.out.2, hBw⟩
set_option maxRecDepth 100000 in
set_option maxHeartbeats 8000000 in
theorem idx_read1 (a : Option Addr) (n q : Nat) (L : List Tx.Sp)  (w : World) (h : Recs spRec w a n L)  :
    Calls Try.prog 63 #[.slice a n q, .func (.func 36) #[] #[]] w fun e w' => (∃ z : Int, e = .returned (.int .i64 z) ∧ (0 ≤ z ↔ ∃ s, s ∈ L ∧ (Tx.offN s))) ∧ Below w.heap.size w w' := by
  have hmx : n ≤ 9223372036854775807 := h.2.1
  have hX0 := True.intro
  have HL := Lib.hid h.1
  clear hX0
  go_enter Try.func63, Try.ntmps63
  go_wp2
  go_loopw [8] (fun iv wr => ∃ i : Nat, i ≤ n ∧ iv = .int .i64 i ∧ RowKit.Hid (∀ (j : Nat) (s : Tx.Sp), j < i → L[j]? = some s → ¬ (Tx.offN s)) ∧ Below w.heap.size w wr) (fun iv _ => n - (intOf iv).toNat)
  case atStart => exact ⟨0, Nat.zero_le _, rfl, Lib.hid (fun j s hj => by omega), Below.refl _ _⟩
  case round =>
    obtain ⟨i, hi, rfl, HB, hb⟩ := hrel
    by_cases hlt : i < n
    · have hii : (i : Int) < (n : Int) := by omega
      have hi0 : (0 : Int) ≤ (i : Int) := by omega
      obtain ⟨s, hs⟩ := h.get hlt
      obtain ⟨x, hax, _⟩ := h.2.2.2 i s hs
      subst hax
      have hy := spends_at (h.below hb) hs
      have HS := Lib.hid (And.intro hs (h.okay hs))
      clear hs
      obtain ⟨v, hv⟩ : ∃ v : Bool, v = true ↔ (Tx.offN s) := ⟨decide (Tx.offN s), by simp⟩
      have HV := Lib.hid hv
      clear hv
      cases v
      · have HB2 := Lib.hid (show ∀ (j : Nat) (u : Tx.Sp), j < i + 1 → L[j]? = some u → ¬ (Tx.offN u) from fun j u hj hu => by
          rcases Nat.lt_or_ge j i with h | h
          · exact HB.out j u h hu
          · have e2 : j = i := by omega
            subst e2
            rw [HS.out.1] at hu
            injection hu with hu
            subst hu
            exact fun e => Bool.false_ne_true (HV.out.2 e))
        go_wp2_with (first
          | (go_at_call 36; refine (read1_any s HS.out.2 _ HV.out wr).mono ?_; rintro e w2 ⟨rfl, hb2⟩; have hbn := hb.trans (hb2.mono hb.size))
          | (refine wpList_load_run rfl 54 (.tmp 14) rfl _ _ rfl hy ?_))
        go_roundw
        case rel => exact ⟨i + 1, by omega, by go_num, HB2, hbn⟩
        case measure => (simp [intOf]; try omega)
      · have HT := Lib.hid (show ∃ s, s ∈ L ∧ (Tx.offN s) from ⟨s, List.mem_of_getElem? HS.out.1, HV.out.1 rfl⟩)
        go_wp2_with (first
          | (go_at_call 36; refine (read1_any s HS.out.2 _ HV.out wr).mono ?_; rintro e w2 ⟨rfl, hb2⟩; have hbn := hb.trans (hb2.mono hb.size))
          | (refine wpList_load_run rfl 54 (.tmp 14) rfl _ _ rfl hy ?_))
        go_ret
        exact ⟨⟨_, rfl, fun _ => HT.out, fun _ => by omega⟩, hbn⟩
    · have HF := Lib.hid (show ¬ ∃ s, s ∈ L ∧ (Tx.offN s) from fun ⟨s, hm, hp⟩ => by
        obtain ⟨j, hj⟩ := List.mem_iff_getElem?.1 hm
        exact HB.out j s (by have h9 : j < L.length := (List.getElem?_eq_some_iff.1 hj).1; rw [HL.out] at h9; omega) hj hp)
      have hii : ¬ (i : Int) < (n : Int) := by omega
      go_wp2
      go_ret
      exact ⟨⟨_, rfl, fun h => by omega, fun h => (HF.out h).elim⟩, hb⟩
set_option maxRecDepth 100000 in
set_option maxHeartbeats 8000000 in
theorem has_read1 (a : Option Addr) (n q : Nat) (L : List Tx.Sp)  (w : World) (h : Recs spRec w a n L)  (r : Bool) (hr : r = true ↔ ∃ s, s ∈ L ∧ (Tx.offN s)) :
    Calls Try.prog 35 #[.slice a n q, .func (.func 36) #[] #[]] w fun e w' => e = .returned (.bool r) ∧ Below w.heap.size w w' := by
  have HR := Lib.hid hr
  have hX0 := True.intro
  clear hr
  clear hX0
  go_enter Try.func35, Try.ntmps35
  go_wp2_with (go_at_call 63; refine (idx_read1 a n q L  w h ).mono ?_; rintro e w1 ⟨⟨z, rfl, hz⟩, hb⟩; have HZ := Lib.hid hz; clear hz)
  go_ret
  refine ⟨?_, hb⟩
  have h1 : decide (0 ≤ z) = r := by
    rw [Bool.eq_iff_iff, decide_eq_true_iff, HZ.out, HR.out]
  exact congrArg (fun b => Ending.returned (.bool b)) h1
set_option maxRecDepth 100000 in
set_option maxHeartbeats 8000000 in
theorem idx_read2 (a : Option Addr) (n q : Nat) (L : List Tx.Co)  (w : World) (h : Recs coRec w a n L)  :
    Calls Try.prog 64 #[.slice a n q, .func (.func 39) #[] #[]] w fun e w' => (∃ z : Int, e = .returned (.int .i64 z) ∧ (0 ≤ z ↔ ∃ s, s ∈ L ∧ (Tx.offV s))) ∧ Below w.heap.size w w' := by
  have hmx : n ≤ 9223372036854775807 := h.2.1
  have hX0 := True.intro
  have HL := Lib.hid h.1
  clear hX0
  go_enter Try.func64, Try.ntmps64
  go_wp2
  go_loopw [8] (fun iv wr => ∃ i : Nat, i ≤ n ∧ iv = .int .i64 i ∧ RowKit.Hid (∀ (j : Nat) (s : Tx.Co), j < i → L[j]? = some s → ¬ (Tx.offV s)) ∧ Below w.heap.size w wr) (fun iv _ => n - (intOf iv).toNat)
  case atStart => exact ⟨0, Nat.zero_le _, rfl, Lib.hid (fun j s hj => by omega), Below.refl _ _⟩
  case round =>
    obtain ⟨i, hi, rfl, HB, hb⟩ := hrel
    by_cases hlt : i < n
    · have hii : (i : Int) < (n : Int) := by omega
      have hi0 : (0 : Int) ≤ (i : Int) := by omega
      obtain ⟨s, hs⟩ := h.get hlt
      obtain ⟨x, hax, _⟩ := h.2.2.2 i s hs
      subst hax
      have hy := coins_at (h.below hb) hs
      have HS := Lib.hid (And.intro hs (h.okay hs))
      clear hs
      obtain ⟨v, hv⟩ : ∃ v : Bool, v = true ↔ (Tx.offV s) := ⟨decide (Tx.offV s), by simp⟩
      have HV := Lib.hid hv
      clear hv
      cases v
      · have HB2 := Lib.hid (show ∀ (j : Nat) (u : Tx.Co), j < i + 1 → L[j]? = some u → ¬ (Tx.offV u) from fun j u hj hu => by
          rcases Nat.lt_or_ge j i with h | h
          · exact HB.out j u h hu
          · have e2 : j = i := by omega
            subst e2
            rw [HS.out.1] at hu
            injection hu with hu
            subst hu
            exact fun e => Bool.false_ne_true (HV.out.2 e))
        go_wp2_with (first
          | (go_at_call 39; refine (read2_any s _ HV.out wr).mono ?_; rintro e w2 ⟨rfl, hb2⟩; have hbn := hb.trans (hb2.mono hb.size))
          | (refine wpList_load_run rfl 56 (.tmp 14) rfl _ _ rfl hy ?_))
        go_roundw
        case rel => exact ⟨i + 1, by omega, by go_num, HB2, hbn⟩
        case measure => (simp [intOf]; try omega)
      · have HT := Lib.hid (show ∃ s, s ∈ L ∧ (Tx.offV s) from ⟨s, List.mem_of_getElem? HS.out.1, HV.out.1 rfl⟩)
        go_wp2_with (first
          | (go_at_call 39; refine (read2_any s _ HV.out wr).mono ?_; rintro e w2 ⟨rfl, hb2⟩; have hbn := hb.trans (hb2.mono hb.size))
          | (refine wpList_load_run rfl 56 (.tmp 14) rfl _ _ rfl hy ?_))
        go_ret
        exact ⟨⟨_, rfl, fun _ => HT.out, fun _ => by omega⟩, hbn⟩
    · have HF := Lib.hid (show ¬ ∃ s, s ∈ L ∧ (Tx.offV s) from fun ⟨s, hm, hp⟩ => by
        obtain ⟨j, hj⟩ := List.mem_iff_getElem?.1 hm
        exact HB.out j s (by have h9 : j < L.length := (List.getElem?_eq_some_iff.1 hj).1; rw [HL.out] at h9; omega) hj hp)
      have hii : ¬ (i : Int) < (n : Int) := by omega
      go_wp2
      go_ret
      exact ⟨⟨_, rfl, fun h => by omega, fun h => (HF.out h).elim⟩, hb⟩
set_option maxRecDepth 100000 in
set_option maxHeartbeats 8000000 in
theorem has_read2 (a : Option Addr) (n q : Nat) (L : List Tx.Co)  (w : World) (h : Recs coRec w a n L)  (r : Bool) (hr : r = true ↔ ∃ s, s ∈ L ∧ (Tx.offV s)) :
    Calls Try.prog 38 #[.slice a n q, .func (.func 39) #[] #[]] w fun e w' => e = .returned (.bool r) ∧ Below w.heap.size w w' := by
  have HR := Lib.hid hr
  have hX0 := True.intro
  clear hr
  clear hX0
  go_enter Try.func38, Try.ntmps38
  go_wp2_with (go_at_call 64; refine (idx_read2 a n q L  w h ).mono ?_; rintro e w1 ⟨⟨z, rfl, hz⟩, hb⟩; have HZ := Lib.hid hz; clear hz)
  go_ret
  refine ⟨?_, hb⟩
  have h1 : decide (0 ≤ z) = r := by
    rw [Bool.eq_iff_iff, decide_eq_true_iff, HZ.out, HR.out]
  exact congrArg (fun b => Ending.returned (.bool b)) h1
end Go.Proofs.Ytpbijcchdjppmaa

/-! package tx: Read (mktxfr.py) -/
namespace Go.Proofs.Ytpbijcchdjppmaa
open Go Go.RowKit Go.ChangeShapes Go.WideShapes
theorem step_build_row {P : Program} {w : World} {ops : Array Oper} {o : Oper} {a : Act} {K : Act → World → Prop} {Q : Exit → Act → World → Prop} {E : Prop} (hwt : Region.wanted o (yielded ops a.tmps) = true) (x : Operand) (t : TypeId) (ho : o.op = .buildSlice t 1 #[(0, x)])
    (T : TypeId) {z : Array Value} {k by_ : Nat} (ht : P.underlying t = some (.slice T)) (hi : (P.info? T).map (fun i => (i.zero, i.size, i.bytes)) = some (some (.agg z), k, by_)) (hk : 0 < k) (hk2 : k ≤ 16777216) (cs : Array Value) (hc : cs.size = k) (hx : a.eval x = .agg cs)
    (h : K (a.put o.dst (.slice (some ⟨w.heap.size, 0, none⟩) 1 1)) (w.alloc (.cells cs T))) : if Region.wanted o (yielded ops a.tmps) = true then Oper.wp P o a w K Q else E := by
  rw [if_pos hwt]
  have hr := run_build_row (P := P) ht hi hk hk2 cs hc w
  unfold Oper.wp execOp
  simp only [ho, List.map_toArray, List.map_cons, List.map_nil, hx, Sem.run_bind, Sem.run_pure, Result.andThen_ok, hr]
  exact h
theorem recs_one {α : Type} {R : Rec α} {T : TypeId} {w : World} {x : α} (hx : R.ok x) {cs : Array Value} (hcs : cs = (R.cells x).toArray) : Recs R (w.alloc (.cells cs T)) (some ⟨w.heap.size, 0, none⟩) 1 [x] :=
  recs_fresh (R := R) (L := [x]) (fun t ht => by rw [List.mem_singleton.1 ht]; exact hx) (Has.fresh _ _ _) (by show 1 ≤ maxLen; unfold maxLen; omega) (fun j u hj => by
    rw [hcs, List.getElem?_toArray]
    simpa [Rec.row] using hj)
theorem results_cell_slot {P : Program} {fn : Func} {p q : Tmp} {ty : TypeId} (h : fn.results = #[.cell p ty, .tmp q]) (tmps : Array Value) (w : World) (g : Nat) (hp : tmps.getD p undef = .pointer (some ⟨g, 0, none⟩))
    (v u : Value) (hv : (loadVar ty ⟨g, 0, none⟩).run P w = .ok v w) (hu : tmps.getD q undef = u) : (results fn tmps).run P w = .ok (.tuple #[v, u]) w := by
  rw [Array.getD_eq_getD_getElem?] at hp hu
  simp only [results, h]
  simp [hp, hu, hv, asAddr]
namespace Tx
theorem sps_flag (s : Pk.Rd) (ok : Bool) : ∀ k, ((rdSps s ok k).2.2 = true ↔ (ok = true ∧ ∀ x, x ∈ (rdSps s ok k).2.1 → ¬ offN x)) ∧ (∀ x, x ∈ (rdSps s ok k).2.1 → SpOk x) ∧ (rdSps s ok k).2.1.length = k
  | 0 => ⟨⟨fun h => ⟨h, fun x hx => by cases hx⟩, fun h => h.1⟩, (fun x hx => by cases hx), rfl⟩
  | k + 1 => by
    obtain ⟨ih, io, il⟩ := sps_flag s ok k
    have e1 : (rdSps s ok (k + 1)).2.1 = (rdSps s ok k).2.1 ++ [(rdSp (rdSps s ok k).1).2.1] := rfl
    have e2 : (rdSps s ok (k + 1)).2.2 = ((rdSps s ok k).2.2 && (rdSp (rdSps s ok k).1).2.2) := rfl
    have hn : (rdSp (rdSps s ok k).1).2.1.n = ((Pk.rdNum (Pk.rdHash (rdSps s ok k).1).1 4).2.toNat : Int) := rfl
    have hf : (rdSp (rdSps s ok k).1).2.2 = decide ((Pk.rdNum (Pk.rdHash (rdSps s ok k).1).1 4).2.toNat < 8) := rfl
    have hsm := rdNum4_small (Pk.rdHash (rdSps s ok k).1).1
    have hx : (rdSp (rdSps s ok k).1).2.2 = true ↔ ¬ offN (rdSp (rdSps s ok k).1).2.1 := by
      rw [hf, decide_eq_true_iff, offN, hn]
      omega
    refine ⟨?_, ?_, ?_⟩
    · rw [e1, e2, Bool.and_eq_true, ih, hx]
      constructor
      · rintro ⟨⟨h1, h2⟩, h3⟩
        refine ⟨h1, fun x hm => ?_⟩
        rcases List.mem_append.1 hm with h4 | h4
        · exact h2 x h4
        · rw [List.mem_singleton.1 h4]; exact h3
      · rintro ⟨h1, h2⟩
        exact ⟨⟨h1, fun x hm => h2 x (List.mem_append_left _ hm)⟩, h2 _ (List.mem_append_right _ (List.mem_singleton.2 rfl))⟩
    · rw [e1]
      intro x hm
      rcases List.mem_append.1 hm with h4 | h4
      · exact io x h4
      · rw [List.mem_singleton.1 h4]
        refine ⟨rdHash_len _, by rw [hn]; omega, ?_⟩
        have := rdText_len (Pk.rdNum (Pk.rdHash (rdSps s ok k).1).1 4).1
        have e : (rdSp (rdSps s ok k).1).2.1.key.length ≤ 32 := this
        unfold maxLen
        omega
    · rw [e1, List.length_append, il]
      rfl
theorem cos_flag (s : Pk.Rd) (ok : Bool) : ∀ k, ((rdCos s ok k).2.2 = true ↔ (ok = true ∧ ∀ x, x ∈ (rdCos s ok k).2.1 → ¬ offV x)) ∧ (∀ x, x ∈ (rdCos s ok k).2.1 → CoOk x) ∧ (rdCos s ok k).2.1.length = k
  | 0 => ⟨⟨fun h => ⟨h, fun x hx => by cases hx⟩, fun h => h.1⟩, (fun x hx => by cases hx), rfl⟩
  | k + 1 => by
    obtain ⟨ih, io, il⟩ := cos_flag s ok k
    have e1 : (rdCos s ok (k + 1)).2.1 = (rdCos s ok k).2.1 ++ [(rdCo (rdCos s ok k).1).2.1] := rfl
    have e2 : (rdCos s ok (k + 1)).2.2 = ((rdCos s ok k).2.2 && (rdCo (rdCos s ok k).1).2.2) := rfl
    have hv : (rdCo (rdCos s ok k).1).2.1.v = (Pk.rdNum (rdCos s ok k).1 8).2.toInt := rfl
    have hf : (rdCo (rdCos s ok k).1).2.2 = decide (Am.Good (Pk.rdNum (rdCos s ok k).1 8).2.toInt) := rfl
    have hx : (rdCo (rdCos s ok k).1).2.2 = true ↔ ¬ offV (rdCo (rdCos s ok k).1).2.1 := by
      rw [hf, decide_eq_true_iff, offV, hv, Decidable.not_not]
    refine ⟨?_, ?_, ?_⟩
    · rw [e1, e2, Bool.and_eq_true, ih, hx]
      constructor
      · rintro ⟨⟨h1, h2⟩, h3⟩
        refine ⟨h1, fun x hm => ?_⟩
        rcases List.mem_append.1 hm with h4 | h4
        · exact h2 x h4
        · rw [List.mem_singleton.1 h4]; exact h3
      · rintro ⟨h1, h2⟩
        exact ⟨⟨h1, fun x hm => h2 x (List.mem_append_left _ hm)⟩, h2 _ (List.mem_append_right _ (List.mem_singleton.2 rfl))⟩
    · rw [e1]
      intro x hm
      rcases List.mem_append.1 hm with h4 | h4
      · exact io x h4
      · rw [List.mem_singleton.1 h4]
        have h1 := BitVec.toInt_lt (x := (Pk.rdNum (rdCos s ok k).1 8).2)
        have h2 := BitVec.le_toInt (x := (Pk.rdNum (rdCos s ok k).1 8).2)
        refine ⟨?_, ?_⟩ <;> rw [hv] <;> omega
    · rw [e1, List.length_append, il]
      rfl
theorem ok_iff (l : List (BitVec 8)) : rdOk l ↔ ((∀ x, x ∈ (rdA l).2.1 → ¬ offN x) ∧ (∀ x, x ∈ (rdB l).2.1 → ¬ offV x) ∧ (rdF l).2.toNat ≤ 1 ∧ Pk.atEnd (rdF l).1 = true) := by
  have h1 := (sps_flag (Pk.rdCount (some l) 8).1 true (Pk.rdCount (some l) 8).2.toNat).1
  have h2 := (cos_flag (Pk.rdCount (rdA l).1 8).1 (rdA l).2.2 (Pk.rdCount (rdA l).1 8).2.toNat).1
  unfold rdOk
  rw [show (rdB l).2.2 = true ↔ _ from h2, show (rdA l).2.2 = true ↔ _ from h1]
  constructor
  · rintro ⟨⟨⟨_, a⟩, b⟩, c, d⟩
    exact ⟨a, b, c, d⟩
  · rintro ⟨a, b, c, d⟩
    exact ⟨⟨⟨rfl, a⟩, b⟩, c, d⟩
end Tx
def PReadPost (l : List (BitVec 8)) (w0 : World) (e : Ending) (w' : World) : Prop :=
  ∃ (a : Option Addr) (n q : Nat) (b : Option Addr) (m r : Nat), e = .returned (.tuple #[txv a n q b m r (Tx.rdV l).firm, if Tx.rdOk l then .nilIface else erro 2]) ∧ TxOwn w0.heap.size w' a n q b m r (Tx.rdV l) ∧ Below w0.heap.size w0 w'
theorem OwnR.block {α : Type} {R : Rec α} {T : TypeId} {B k : Nat} {w : World} {v : Value} {L : List α} (h : OwnR R T B w v L) (hk : v.ownBlock = some k) : ∃ cs, Has w k T cs := by
  rcases h.2.2 with ⟨rfl, _⟩ | ⟨j, cap, cur, rfl, _, h2, _⟩
  · cases hk
  · have e : j = k := by simpa [Value.ownBlock] using hk
    subst e
    exact ⟨cur, h2⟩
theorem own_ne {α β : Type} {R : Rec α} {R' : Rec β} {T T' : TypeId} {B B' : Nat} {w : World} {a a' : Option Addr} {n n' q q' : Nat} {L : List α} {L' : List β} (hT : (T == T') = false) (h : OwnR R T B w (.slice a n q) L) (h' : OwnR R' T' B' w (.slice a' n' q') L') {j : Nat} (hj : (Value.slice a n q).ownBlock = some j) (hj' : (Value.slice a' n' q').ownBlock = some j) : False := by
  obtain ⟨cs, hh⟩ := OwnR.block h hj
  obtain ⟨cs', hh'⟩ := OwnR.block h' hj'
  exact Has.ne_type hh hh' (by intro e; rw [e] at hT; simp at hT) rfl
set_option maxRecDepth 100000 in
set_option maxHeartbeats 16000000 in
theorem pread_any (xa : Option Addr) (n c : Nat) (l : List (BitVec 8)) (w : World) (h : Bytes8 w xa n l) (h0 : xa = none → c = 0) (hlen : l.length ≤ 1000000) :
    Calls Try.prog 15 #[.slice xa n c] w (PReadPost l w) := by
  obtain ⟨W1, hW1⟩ : ∃ x, x = w.alloc (.cells zTx 25) := ⟨_, rfl⟩
  have hb1 : Below w.heap.size w W1 := by rw [hW1]; exact (Below.refl _ w).alloc (Nat.le_refl _) _
  have hR1 : Has W1 w.heap.size 25 zTx := by rw [hW1]; exact Has.fresh _ _ _
  have hs1 : W1.heap.size = w.heap.size + 1 := by rw [hW1]; simp
  have HH := Lib.hid (h.below hb1)
  have HL := Lib.hid (And.intro h.1 hlen)
  have HC0 := Lib.hid h0
  have HW := Lib.hid hW1
  clear hW1 h hlen h0
  go_enter Try.func15, Try.ntmps15
  go_upto_region 1 with fail
  rw [← HW.out]
  go_upto_region 2 with (go_at_call 29; refine (read_any xa n c l W1 HH.out HC0.out (by have := HL.out.1; have := HL.out.2; omega)).mono ?_; rintro e w2 ⟨gi, r, rfl, hI2, hgi1, hgi2, hr2, hb2⟩)
  obtain ⟨w3, hw3⟩ : ∃ x, x = w2.alloc (.cells zTx 25) := ⟨_, rfl⟩
  have hb3 : Below w2.heap.size w2 w3 := by rw [hw3]; exact (Below.refl _ w2).alloc (Nat.le_refl _) _
  have hT3 : Has w3 w2.heap.size 25 zTx := by rw [hw3]; exact Has.fresh _ _ _
  have hs3 : w3.heap.size = w2.heap.size + 1 := by rw [hw3]; simp
  go_upto_region 3 with fail
  rw [← hw3]
  obtain ⟨g2, hg2⟩ : ∃ g, g = w.heap.size := ⟨_, rfl⟩
  obtain ⟨gt, hgt⟩ : ∃ g, g = w2.heap.size := ⟨_, rfl⟩
  obtain ⟨B, hB⟩ : ∃ B, B = w3.heap.size := ⟨_, rfl⟩
  rw [← hgt, ← hg2]
  rw [← hgt] at hT3
  rw [← hg2] at hR1
  have HN := Lib.hid (show g2 = w.heap.size ∧ g2 < gi ∧ gi < gt ∧ gt + 1 = B ∧ (∀ k, r = some k → g2 < k ∧ k < gi) from ⟨hg2, by omega, by omega, by omega, fun k e => by have := hr2 k e; omega⟩)
  have hT : Has w3 gt 25 #[.slice none 0 0, .slice none 0 0, .bool false] := hT3
  have hR : Has w3 g2 25 zTx := (hR1.under hb2 hR1.lt).under hb3 (hR1.under hb2 hR1.lt).lt
  have hI : InS w3 gi r (some l) := hI2.below hb3
  have hb : Below w.heap.size w w3 := (hb1.trans (hb2.mono hb1.size)).trans (hb3.mono (hb1.trans (hb2.mono hb1.size)).size)
  have hBr : B ≤ w3.heap.size := by omega
  clear hw3 hg2 hgt hB hr2 hgi1 hgi2 hs1 hs3 hT3 hR1 hI2 hb1 hb2 hb3
  obtain ⟨pa, hpa⟩ : ∃ x, x = Pk.rdCount (some l) 8 := ⟨_, rfl⟩
  have HPpa := Lib.hid hpa
  clear hpa
  have HCT := Lib.hid (inCount_any gi r (some l) 8 (by omega) w3 hI)
  clear hI
  rw [← HPpa.out] at HCT
  have hk08 := Tx.rdCount_le (some l) 8 (by omega)
  rw [← HPpa.out] at hk08
  obtain ⟨k08, k88⟩ := hk08
  obtain ⟨s1, hs1⟩ : ∃ s, s = pa.1 := ⟨_, rfl⟩
  obtain ⟨NK, hK⟩ : ∃ NK : Nat, pa.2 = NK := ⟨pa.2.toNat, by omega⟩
  have HS1 := Lib.hid (show s1 = (Pk.rdCount (some l) 8).1 ∧ NK = (Pk.rdCount (some l) 8).2.toNat ∧ NK ≤ 8 from ⟨by rw [hs1, HPpa.out], by rw [← HPpa.out, hK]; rfl, by omega⟩)
  replace HCT := Lib.hid (show Calls Try.prog 30 #[.pointer (some ⟨gi, 0, none⟩), .int .i64 8] w3 (fun e w' => e = .returned (.int .i64 (NK : Int)) ∧ InS w' gi r s1 ∧ Moved (inF gi) w3 w') from HCT.out.mono (fun e w' h => by rw [← hK, hs1]; exact h))
  clear hK hs1 k08 k88 HPpa
  go_wp2_with (go_at_call 30; refine HCT.out.mono ?_; rintro e w4 ⟨rfl, hI, hm4⟩)
  replace hT := hT.moved hm4 (fun e => by have e2 : gt = gi := e; have := HN.out; omega)
  replace hR := hR.moved hm4 (fun e => by have e2 : g2 = gi := e; have := HN.out; omega)
  replace hb := hb.trans (hm4.below (fun k e => by have e2 : k = gi := e; have := HN.out; omega) hb.size)
  replace hBr := Nat.le_trans hBr hm4.size
  have ho : OwnR spRec 54 B w4 (.slice none 0 0) [] := OwnR.nil _ _ _ _
  clear hm4 HCT
  go_loopw [11] (fun kv wr => ∃ (k : Nat) (oa : Option Addr) (oq : Nat), k ≤ NK ∧ kv = .int .i64 k ∧ InS wr gi r (Tx.rdSps s1 true k).1 ∧ Has wr gt 25 #[.slice oa k oq, .slice none 0 0, .bool false] ∧ OwnR spRec 54 B wr (.slice oa k oq) (Tx.rdSps s1 true k).2.1 ∧ Has wr g2 25 zTx ∧ Below w.heap.size w wr ∧ B ≤ wr.heap.size) (fun kv _ => NK - (intOf kv).toNat)
  case atStart => exact ⟨0, none, 0, Nat.zero_le _, rfl, hI, hT, ho, hR, hb, hBr⟩
  case round =>
    clear hI hT ho hR hb hBr
    obtain ⟨k, oa, oq, hk, rfl, hI, hT, ho, hR, hb, hBr⟩ := hrel
    by_cases hlt : k < NK
    · have hki : (k : Int) < (NK : Int) := by omega
      have hk0 : (0 : Int) ≤ (k : Int) := by omega
      go_upto_region 5 with fail
      obtain ⟨s, hs⟩ : ∃ s, s = (Tx.rdSps s1 true k).1 := ⟨_, rfl⟩
      obtain ⟨L0, hL0⟩ : ∃ s, s = (Tx.rdSps s1 true k).2.1 := ⟨_, rfl⟩
      rw [← hs] at hI
      rw [← hL0] at ho
      obtain ⟨X, hX⟩ : ∃ X, X = (Tx.rdSp s).2.1 := ⟨_, rfl⟩
      obtain ⟨s', hs'⟩ : ∃ x, x = (Tx.rdSp s).1 := ⟨_, rfl⟩
      obtain ⟨cs, hcs⟩ : ∃ cs : Array Value, cs = (spCells X).toArray := ⟨_, rfl⟩
      have HNX := Lib.hid (show (Tx.rdSps s1 true (k + 1)).1 = s' ∧ (Tx.rdSps s1 true (k + 1)).2.1 = L0 ++ [X] from ⟨by rw [hs', hs]; rfl, by rw [hX, hL0, hs]; rfl⟩)
      have hokX : spRec.ok X := (Tx.sps_flag s1 true (k + 1)).2.1 X (by rw [HNX.out.2]; exact List.mem_append_right _ (List.mem_singleton.2 rfl))
      have HX := Lib.hid (show spRec.ok X ∧ cs = (spRec.cells X).toArray ∧ L0.length = k from ⟨hokX, hcs, by rw [hL0]; exact (Tx.sps_flag s1 true k).2.2⟩)
      have HSZ := Lib.hid (show cs.size = 35 by rw [hcs, List.size_toArray]; exact spRec.len X HX.out.1)
      obtain ⟨ws, hws⟩ : ∃ x, x = wr.drew := ⟨_, rfl⟩
      have hbs : Below wr.heap.size wr ws := by rw [hws]; exact (Below.refl _ _).drew
      replace hI := hI.below hbs
      replace hT := hT.under hbs hT.lt
      replace hR := hR.under hbs hR.lt
      replace hb := hb.trans (hbs.mono hb.size)
      replace hBr := Nat.le_trans hBr hbs.size
      replace ho := ho.below hbs
      have HRC := Lib.hid (show Calls Try.prog 31 #[.pointer (some ⟨gi, 0, none⟩)] ws (fun e w' => e = .returned (.agg cs) ∧ InS w' gi r s' ∧ Moved (inF gi) ws w') from (readSpend_any gi r s ws hI).mono (fun e w' h => by rw [hcs, hX, hs']; exact h))
      have HT := Lib.hid hT
      have HR := Lib.hid hR
      have HO := Lib.hid ho
      have HB := Lib.hid (And.intro hb hBr)
      clear hs hL0 hX hs' hcs hokX hI hT hR ho hb hBr hbs
      refine wp_region_held_drew (S := HeldM (fun j => j = gi ∨ j = gt ∨ B ≤ j) ws) (by kernel_rfl) (by rw [hws]; exact HeldM.refl _ _) (fun hHeld => ?_)
      rw [← hws] at hHeld ⊢
      clear hws
      refine take_at (v := ?_) 0 13 rfl rfl (by kernel_rfl) (by kernel_rfl) (by kernel_rfl) (fun _ _ _ h => h) hHeld (Or.inl ⟨by rfl, ?_⟩) rfl ?_
      rotate_left
      · intro wq hSw
        go_simp
        try with_reducible rfl
      simp only [List.set_cons_zero, List.set_cons_succ]
      refine take_at (v := ?_) 2 15 rfl rfl (by kernel_rfl) (by kernel_rfl) (by kernel_rfl) (fun _ _ _ h => h) hHeld (Or.inl ⟨by rfl, ?_⟩) rfl ?_
      rotate_left
      · intro wq hSw
        go_simp
        try with_reducible rfl
      simp only [List.set_cons_zero, List.set_cons_succ]
      refine wpAnyH_ready (rs := [1, 3]) (by kernel_rfl) (by simp) ?_
      refine AllReadyH.cons rfl (fun K hK => ?_) (AllReadyH.cons rfl (fun K hK => ?_) AllReadyH.nil)
      · have cg : ws.cell? ⟨gt, 0, none⟩ = some (.slice oa k oq) := HT.out.cell_at rfl
        go_simp
        refine hK.out _ _ hHeld (fun _ => ?_)
        clear hK K cg
        try simp only [Act.put, List.setIfInBounds_toArray, List.set_cons_zero, List.set_cons_succ]
        refine wpAnyH_ready (rs := [3]) (by kernel_rfl) (by simp) ?_
        refine AllReadyH.cons rfl (fun K hK => ?_) AllReadyH.nil
        go_simp
        go_at_call 31; refine HRC.out.mono ?_; rintro e k1 ⟨rfl, hI1, hm1⟩
        have hm1F : Moved (fun j => j = gi ∨ j = gt ∨ B ≤ j) ws k1 := hm1.mono (fun _ e => .inl e)
        refine hK.out _ _ (HeldM.of hm1F) (fun _ => ?_)
        clear hK K
        try simp only [Act.put, List.setIfInBounds_toArray, List.set_cons_zero, List.set_cons_succ]
        refine heldM_grow (w1 := k1) hm1F ?_
        clear hHeld
        have hHeld : HeldM (fun j => j = gi ∨ j = gt ∨ B ≤ j) k1 k1 := HeldM.refl _ _
        have hT1 := HT.out.moved hm1 (fun e => by have e2 : gt = gi := e; have := HN.out; omega)
        have hR1 := HR.out.moved hm1 (fun e => by have e2 : g2 = gi := e; have := HN.out; omega)
        have ho1 := HO.out.moved hm1 (fun j hj e => by have e2 : j = gi := e; have := HO.out.lt j hj; have := HN.out; omega)
        refine wpAnyH_ready (rs := [4]) (by kernel_rfl) (by simp) ?_
        refine AllReadyH.cons rfl (fun K hK => ?_) AllReadyH.nil
        refine step_build_row (by rfl) (.tmp 16) 22 rfl 54 Try.underlying22 info_spend (by decide) (by decide) cs HSZ.out (by first | rfl | simp [Act.eval]) ?_
        obtain ⟨k2, hk2⟩ : ∃ x, x = k1.alloc (.cells cs 54) := ⟨_, rfl⟩
        rw [← hk2]
        have hbk2 : Below k1.heap.size k1 k2 := by rw [hk2]; exact (Below.refl _ _).alloc (Nat.le_refl _) _
        have hX2 : Recs spRec k2 (some ⟨k1.heap.size, 0, none⟩) 1 [X] := by rw [hk2]; exact recs_one HX.out.1 HX.out.2.1
        have hm2F : Moved (fun j => j = gi ∨ j = gt ∨ B ≤ j) k1 k2 := Moved.of_below hbk2
        refine hK.out _ _ (HeldM.of hm2F) (fun _ => ?_)
        clear hK K
        try simp only [Act.put]
        try simp only [List.setIfInBounds_toArray]
        try simp only [List.set_cons_zero, List.set_cons_succ]
        refine heldM_grow (w1 := k2) hm2F ?_
        clear hHeld
        have hHeld : HeldM (fun j => j = gi ∨ j = gt ∨ B ≤ j) k2 k2 := HeldM.refl _ _
        obtain ⟨g9, hg9⟩ : ∃ g, g = k1.heap.size := ⟨_, rfl⟩
        rw [← hg9] at hX2 ⊢
        clear hk2 hg9
        have hT2 := hT1.under hbk2 hT1.lt
        have hR2 := hR1.under hbk2 hR1.lt
        have ho2 := ho1.below hbk2
        have hBk2 : B ≤ k2.heap.size := Nat.le_trans (Nat.le_trans HB.out.2 hm1.size) hbk2.size
        refine wpAnyH_ready (rs := [5]) (by kernel_rfl) (by simp) ?_
        refine AllReadyH.cons rfl (fun K hK => ?_) AllReadyH.nil
        refine step_append_recs (R := spRec) (by rfl) (.tmp 14) (.tmp 17) 22 rfl 54 Try.underlying22 info_spend rfl (by decide) B _ L0 (by first | rfl | simp [Act.eval]) ho2 (some ⟨g9, 0, none⟩) 1 1 [X] (by first | rfl | simp [Act.eval]) hX2 (fun e => by cases e) (by have := HX.out.2.2; have := HS1.out.2.2; omega) hBk2 ?_
        intro va k3 ho3 hg3 hl3
        obtain ⟨oa', oq', rfl, _⟩ := ho3.shape (K := k + 1) (by rw [List.length_append, HX.out.2.2]; rfl)
        have hm3 : Moved (fun j => B ≤ j) k2 k3 := Moved.of_grown hg3 (fun j e => ho2.lt j e)
        have hm3F : Moved (fun j => j = gi ∨ j = gt ∨ B ≤ j) k2 k3 := hm3.mono (fun _ e => .inr (.inr e))
        refine hK.out _ _ (HeldM.of hm3F) (fun _ => ?_)
        clear hK K
        try simp only [Act.put]
        try simp only [List.setIfInBounds_toArray]
        try simp only [List.set_cons_zero, List.set_cons_succ]
        refine heldM_grow (w1 := k3) hm3F ?_
        clear hHeld
        have hHeld : HeldM (fun j => j = gi ∨ j = gt ∨ B ≤ j) k3 k3 := HeldM.refl _ _
        have hT3 := hT2.moved hm3 (fun e => by have e2 : B ≤ gt := e; have := HN.out; omega)
        have hR3 := hR2.moved hm3 (fun e => by have e2 : B ≤ g2 := e; have := HN.out; omega)
        have cg : k3.cell? ⟨gt, 0, none⟩ = some (.slice oa k oq) := hT3.cell_at rfl
        have lg := hT3.loose 0
        refine take_at (v := ?_) 6 19 rfl rfl (by kernel_rfl) (by kernel_rfl) (by kernel_rfl) (fun _ _ _ h => h) hHeld (Or.inl ⟨by rfl, ?_⟩) rfl ?_
        rotate_left
        · intro wq hSw
          go_simp
          try with_reducible rfl
        try simp only [List.set_cons_zero, List.set_cons_succ]
        refine wpAnyH_ready (rs := [7]) (by kernel_rfl) (by simp) ?_
        refine AllReadyH.cons rfl (fun K hK => ?_) AllReadyH.nil
        go_simp
        obtain ⟨k4, hk4⟩ : ∃ x, x = k3.setCell ⟨gt, 0, none⟩ (.slice oa' (k + 1) oq') := ⟨_, rfl⟩
        rw [← hk4]
        have hm4 : Moved (fun j => j = gt) k3 k4 := by rw [hk4]; exact Moved.put (F := fun j => j = gt) (Moved.refl _ _) (.inl rfl) _ _
        have hT4 : Has k4 gt 25 #[.slice oa' (k + 1) oq', .slice none 0 0, .bool false] := by rw [hk4]; exact hT3.put 0 (.slice oa' (k + 1) oq')
        refine hK.out _ _ (HeldM.of (hm4.mono (fun _ e => .inr (.inl e)))) (fun _ => ?_)
        clear hK K cg lg hk4 hHeld
        refine wpAnyH_done (by kernel_rfl) ?_ _
        have hm24 : Moved (fun j => j = gt ∨ B ≤ j) k2 k4 := (hm3.mono (fun _ e => .inr e)).trans hm4 (fun _ e => .inl (.inl e))
        have hI4 := (hI1.below hbk2).moved hm24 (fun e => by have := HN.out; rcases e with e | e <;> omega) (fun j hj e => by have := HN.out; have := HN.out.2.2.2.2 j hj; rcases e with e | e <;> omega)
        have hR4 := hR3.moved hm4 (fun e => by have e2 : g2 = gt := e; have := HN.out; omega)
        have ho4 := ho3.moved hm4 (fun j hj e => by have e2 : j = gt := e; have := ho3.lt j hj; have := HN.out; omega)
        have hm04 : Moved (fun j => j = gi ∨ j = gt ∨ B ≤ j) ws k4 := (hm1F.trans (Moved.of_below (F := fun _ => False) hbk2) (fun _ e => e.elim)).trans hm24 (fun j e => .inl (.inr e))
        have hb4 := HB.out.1.trans (hm04.below (fun j e => by have := HN.out; rcases e with e | e | e <;> omega) HB.out.1.size)
        have hBr4 := Nat.le_trans HB.out.2 hm04.size
        rw [← HNX.out.2] at ho4
        rw [← HNX.out.1] at hI4
        clear hm1 hm1F hT1 hR1 ho1 hbk2 hX2 hm2F hT2 hR2 ho2 hBk2 ho3 hg3 hl3 hm3 hm3F hT3 hR3 hm4 hm24 hm04 hI1
        have hk9 : NK ≤ 8 := HS1.out.2.2
        go_wp2
        go_roundw
        case rel => exact ⟨k + 1, oa', oq', by omega, by go_num, hI4, hT4, ho4, hR4, hb4, hBr4⟩
        case measure => (simp [intOf]; try omega)
      · go_simp
        go_at_call 31; refine HRC.out.mono ?_; rintro e k1 ⟨rfl, hI1, hm1⟩
        have hm1F : Moved (fun j => j = gi ∨ j = gt ∨ B ≤ j) ws k1 := hm1.mono (fun _ e => .inl e)
        refine hK.out _ _ (HeldM.of hm1F) (fun _ => ?_)
        clear hK K
        try simp only [Act.put, List.setIfInBounds_toArray, List.set_cons_zero, List.set_cons_succ]
        refine heldM_grow (w1 := k1) hm1F ?_
        clear hHeld
        have hHeld : HeldM (fun j => j = gi ∨ j = gt ∨ B ≤ j) k1 k1 := HeldM.refl _ _
        have hT1 := HT.out.moved hm1 (fun e => by have e2 : gt = gi := e; have := HN.out; omega)
        have hR1 := HR.out.moved hm1 (fun e => by have e2 : g2 = gi := e; have := HN.out; omega)
        have ho1 := HO.out.moved hm1 (fun j hj e => by have e2 : j = gi := e; have := HO.out.lt j hj; have := HN.out; omega)
        refine wpAnyH_ready (rs := [1, 4]) (by kernel_rfl) (by simp) ?_
        refine AllReadyH.cons rfl (fun K hK => ?_) (AllReadyH.cons rfl (fun K hK => ?_) AllReadyH.nil)
        · have cg : k1.cell? ⟨gt, 0, none⟩ = some (.slice oa k oq) := hT1.cell_at rfl
          go_simp
          refine hK.out _ _ hHeld (fun _ => ?_)
          clear hK K cg
          try simp only [Act.put, List.setIfInBounds_toArray, List.set_cons_zero, List.set_cons_succ]
          refine wpAnyH_ready (rs := [4]) (by kernel_rfl) (by simp) ?_
          refine AllReadyH.cons rfl (fun K hK => ?_) AllReadyH.nil
          refine step_build_row (by rfl) (.tmp 16) 22 rfl 54 Try.underlying22 info_spend (by decide) (by decide) cs HSZ.out (by first | rfl | simp [Act.eval]) ?_
          obtain ⟨k2, hk2⟩ : ∃ x, x = k1.alloc (.cells cs 54) := ⟨_, rfl⟩
          rw [← hk2]
          have hbk2 : Below k1.heap.size k1 k2 := by rw [hk2]; exact (Below.refl _ _).alloc (Nat.le_refl _) _
          have hX2 : Recs spRec k2 (some ⟨k1.heap.size, 0, none⟩) 1 [X] := by rw [hk2]; exact recs_one HX.out.1 HX.out.2.1
          have hm2F : Moved (fun j => j = gi ∨ j = gt ∨ B ≤ j) k1 k2 := Moved.of_below hbk2
          refine hK.out _ _ (HeldM.of hm2F) (fun _ => ?_)
          clear hK K
          try simp only [Act.put]
          try simp only [List.setIfInBounds_toArray]
          try simp only [List.set_cons_zero, List.set_cons_succ]
          refine heldM_grow (w1 := k2) hm2F ?_
          clear hHeld
          have hHeld : HeldM (fun j => j = gi ∨ j = gt ∨ B ≤ j) k2 k2 := HeldM.refl _ _
          obtain ⟨g9, hg9⟩ : ∃ g, g = k1.heap.size := ⟨_, rfl⟩
          rw [← hg9] at hX2 ⊢
          clear hk2 hg9
          have hT2 := hT1.under hbk2 hT1.lt
          have hR2 := hR1.under hbk2 hR1.lt
          have ho2 := ho1.below hbk2
          have hBk2 : B ≤ k2.heap.size := Nat.le_trans (Nat.le_trans HB.out.2 hm1.size) hbk2.size
          refine wpAnyH_ready (rs := [5]) (by kernel_rfl) (by simp) ?_
          refine AllReadyH.cons rfl (fun K hK => ?_) AllReadyH.nil
          refine step_append_recs (R := spRec) (by rfl) (.tmp 14) (.tmp 17) 22 rfl 54 Try.underlying22 info_spend rfl (by decide) B _ L0 (by first | rfl | simp [Act.eval]) ho2 (some ⟨g9, 0, none⟩) 1 1 [X] (by first | rfl | simp [Act.eval]) hX2 (fun e => by cases e) (by have := HX.out.2.2; have := HS1.out.2.2; omega) hBk2 ?_
          intro va k3 ho3 hg3 hl3
          obtain ⟨oa', oq', rfl, _⟩ := ho3.shape (K := k + 1) (by rw [List.length_append, HX.out.2.2]; rfl)
          have hm3 : Moved (fun j => B ≤ j) k2 k3 := Moved.of_grown hg3 (fun j e => ho2.lt j e)
          have hm3F : Moved (fun j => j = gi ∨ j = gt ∨ B ≤ j) k2 k3 := hm3.mono (fun _ e => .inr (.inr e))
          refine hK.out _ _ (HeldM.of hm3F) (fun _ => ?_)
          clear hK K
          try simp only [Act.put]
          try simp only [List.setIfInBounds_toArray]
          try simp only [List.set_cons_zero, List.set_cons_succ]
          refine heldM_grow (w1 := k3) hm3F ?_
          clear hHeld
          have hHeld : HeldM (fun j => j = gi ∨ j = gt ∨ B ≤ j) k3 k3 := HeldM.refl _ _
          have hT3 := hT2.moved hm3 (fun e => by have e2 : B ≤ gt := e; have := HN.out; omega)
          have hR3 := hR2.moved hm3 (fun e => by have e2 : B ≤ g2 := e; have := HN.out; omega)
          have cg : k3.cell? ⟨gt, 0, none⟩ = some (.slice oa k oq) := hT3.cell_at rfl
          have lg := hT3.loose 0
          refine take_at (v := ?_) 6 19 rfl rfl (by kernel_rfl) (by kernel_rfl) (by kernel_rfl) (fun _ _ _ h => h) hHeld (Or.inl ⟨by rfl, ?_⟩) rfl ?_
          rotate_left
          · intro wq hSw
            go_simp
            try with_reducible rfl
          try simp only [List.set_cons_zero, List.set_cons_succ]
          refine wpAnyH_ready (rs := [7]) (by kernel_rfl) (by simp) ?_
          refine AllReadyH.cons rfl (fun K hK => ?_) AllReadyH.nil
          go_simp
          obtain ⟨k4, hk4⟩ : ∃ x, x = k3.setCell ⟨gt, 0, none⟩ (.slice oa' (k + 1) oq') := ⟨_, rfl⟩
          rw [← hk4]
          have hm4 : Moved (fun j => j = gt) k3 k4 := by rw [hk4]; exact Moved.put (F := fun j => j = gt) (Moved.refl _ _) (.inl rfl) _ _
          have hT4 : Has k4 gt 25 #[.slice oa' (k + 1) oq', .slice none 0 0, .bool false] := by rw [hk4]; exact hT3.put 0 (.slice oa' (k + 1) oq')
          refine hK.out _ _ (HeldM.of (hm4.mono (fun _ e => .inr (.inl e)))) (fun _ => ?_)
          clear hK K cg lg hk4 hHeld
          refine wpAnyH_done (by kernel_rfl) ?_ _
          have hm24 : Moved (fun j => j = gt ∨ B ≤ j) k2 k4 := (hm3.mono (fun _ e => .inr e)).trans hm4 (fun _ e => .inl (.inl e))
          have hI4 := (hI1.below hbk2).moved hm24 (fun e => by have := HN.out; rcases e with e | e <;> omega) (fun j hj e => by have := HN.out; have := HN.out.2.2.2.2 j hj; rcases e with e | e <;> omega)
          have hR4 := hR3.moved hm4 (fun e => by have e2 : g2 = gt := e; have := HN.out; omega)
          have ho4 := ho3.moved hm4 (fun j hj e => by have e2 : j = gt := e; have := ho3.lt j hj; have := HN.out; omega)
          have hm04 : Moved (fun j => j = gi ∨ j = gt ∨ B ≤ j) ws k4 := (hm1F.trans (Moved.of_below (F := fun _ => False) hbk2) (fun _ e => e.elim)).trans hm24 (fun j e => .inl (.inr e))
          have hb4 := HB.out.1.trans (hm04.below (fun j e => by have := HN.out; rcases e with e | e | e <;> omega) HB.out.1.size)
          have hBr4 := Nat.le_trans HB.out.2 hm04.size
          rw [← HNX.out.2] at ho4
          rw [← HNX.out.1] at hI4
          clear hm1 hm1F hT1 hR1 ho1 hbk2 hX2 hm2F hT2 hR2 ho2 hBk2 ho3 hg3 hl3 hm3 hm3F hT3 hR3 hm4 hm24 hm04 hI1
          have hk9 : NK ≤ 8 := HS1.out.2.2
          go_wp2
          go_roundw
          case rel => exact ⟨k + 1, oa', oq', by omega, by go_num, hI4, hT4, ho4, hR4, hb4, hBr4⟩
          case measure => (simp [intOf]; try omega)
        · refine step_build_row (by rfl) (.tmp 16) 22 rfl 54 Try.underlying22 info_spend (by decide) (by decide) cs HSZ.out (by first | rfl | simp [Act.eval]) ?_
          obtain ⟨k2, hk2⟩ : ∃ x, x = k1.alloc (.cells cs 54) := ⟨_, rfl⟩
          rw [← hk2]
          have hbk2 : Below k1.heap.size k1 k2 := by rw [hk2]; exact (Below.refl _ _).alloc (Nat.le_refl _) _
          have hX2 : Recs spRec k2 (some ⟨k1.heap.size, 0, none⟩) 1 [X] := by rw [hk2]; exact recs_one HX.out.1 HX.out.2.1
          have hm2F : Moved (fun j => j = gi ∨ j = gt ∨ B ≤ j) k1 k2 := Moved.of_below hbk2
          refine hK.out _ _ (HeldM.of hm2F) (fun _ => ?_)
          clear hK K
          try simp only [Act.put]
          try simp only [List.setIfInBounds_toArray]
          try simp only [List.set_cons_zero, List.set_cons_succ]
          refine heldM_grow (w1 := k2) hm2F ?_
          clear hHeld
          have hHeld : HeldM (fun j => j = gi ∨ j = gt ∨ B ≤ j) k2 k2 := HeldM.refl _ _
          obtain ⟨g9, hg9⟩ : ∃ g, g = k1.heap.size := ⟨_, rfl⟩
          rw [← hg9] at hX2 ⊢
          clear hk2 hg9
          have hT2 := hT1.under hbk2 hT1.lt
          have hR2 := hR1.under hbk2 hR1.lt
          have ho2 := ho1.below hbk2
          refine wpAnyH_ready (rs := [1]) (by kernel_rfl) (by simp) ?_
          refine AllReadyH.cons rfl (fun K hK => ?_) AllReadyH.nil
          have cg : k2.cell? ⟨gt, 0, none⟩ = some (.slice oa k oq) := hT2.cell_at rfl
          go_simp
          refine hK.out _ _ hHeld (fun _ => ?_)
          clear hK K cg
          try simp only [Act.put, List.setIfInBounds_toArray, List.set_cons_zero, List.set_cons_succ]
          have hBk2 : B ≤ k2.heap.size := Nat.le_trans (Nat.le_trans HB.out.2 hm1.size) hbk2.size
          refine wpAnyH_ready (rs := [5]) (by kernel_rfl) (by simp) ?_
          refine AllReadyH.cons rfl (fun K hK => ?_) AllReadyH.nil
          refine step_append_recs (R := spRec) (by rfl) (.tmp 14) (.tmp 17) 22 rfl 54 Try.underlying22 info_spend rfl (by decide) B _ L0 (by first | rfl | simp [Act.eval]) ho2 (some ⟨g9, 0, none⟩) 1 1 [X] (by first | rfl | simp [Act.eval]) hX2 (fun e => by cases e) (by have := HX.out.2.2; have := HS1.out.2.2; omega) hBk2 ?_
          intro va k3 ho3 hg3 hl3
          obtain ⟨oa', oq', rfl, _⟩ := ho3.shape (K := k + 1) (by rw [List.length_append, HX.out.2.2]; rfl)
          have hm3 : Moved (fun j => B ≤ j) k2 k3 := Moved.of_grown hg3 (fun j e => ho2.lt j e)
          have hm3F : Moved (fun j => j = gi ∨ j = gt ∨ B ≤ j) k2 k3 := hm3.mono (fun _ e => .inr (.inr e))
          refine hK.out _ _ (HeldM.of hm3F) (fun _ => ?_)
          clear hK K
          try simp only [Act.put]
          try simp only [List.setIfInBounds_toArray]
          try simp only [List.set_cons_zero, List.set_cons_succ]
          refine heldM_grow (w1 := k3) hm3F ?_
          clear hHeld
          have hHeld : HeldM (fun j => j = gi ∨ j = gt ∨ B ≤ j) k3 k3 := HeldM.refl _ _
          have hT3 := hT2.moved hm3 (fun e => by have e2 : B ≤ gt := e; have := HN.out; omega)
          have hR3 := hR2.moved hm3 (fun e => by have e2 : B ≤ g2 := e; have := HN.out; omega)
          have cg : k3.cell? ⟨gt, 0, none⟩ = some (.slice oa k oq) := hT3.cell_at rfl
          have lg := hT3.loose 0
          refine take_at (v := ?_) 6 19 rfl rfl (by kernel_rfl) (by kernel_rfl) (by kernel_rfl) (fun _ _ _ h => h) hHeld (Or.inl ⟨by rfl, ?_⟩) rfl ?_
          rotate_left
          · intro wq hSw
            go_simp
            try with_reducible rfl
          try simp only [List.set_cons_zero, List.set_cons_succ]
          refine wpAnyH_ready (rs := [7]) (by kernel_rfl) (by simp) ?_
          refine AllReadyH.cons rfl (fun K hK => ?_) AllReadyH.nil
          go_simp
          obtain ⟨k4, hk4⟩ : ∃ x, x = k3.setCell ⟨gt, 0, none⟩ (.slice oa' (k + 1) oq') := ⟨_, rfl⟩
          rw [← hk4]
          have hm4 : Moved (fun j => j = gt) k3 k4 := by rw [hk4]; exact Moved.put (F := fun j => j = gt) (Moved.refl _ _) (.inl rfl) _ _
          have hT4 : Has k4 gt 25 #[.slice oa' (k + 1) oq', .slice none 0 0, .bool false] := by rw [hk4]; exact hT3.put 0 (.slice oa' (k + 1) oq')
          refine hK.out _ _ (HeldM.of (hm4.mono (fun _ e => .inr (.inl e)))) (fun _ => ?_)
          clear hK K cg lg hk4 hHeld
          refine wpAnyH_done (by kernel_rfl) ?_ _
          have hm24 : Moved (fun j => j = gt ∨ B ≤ j) k2 k4 := (hm3.mono (fun _ e => .inr e)).trans hm4 (fun _ e => .inl (.inl e))
          have hI4 := (hI1.below hbk2).moved hm24 (fun e => by have := HN.out; rcases e with e | e <;> omega) (fun j hj e => by have := HN.out; have := HN.out.2.2.2.2 j hj; rcases e with e | e <;> omega)
          have hR4 := hR3.moved hm4 (fun e => by have e2 : g2 = gt := e; have := HN.out; omega)
          have ho4 := ho3.moved hm4 (fun j hj e => by have e2 : j = gt := e; have := ho3.lt j hj; have := HN.out; omega)
          have hm04 : Moved (fun j => j = gi ∨ j = gt ∨ B ≤ j) ws k4 := (hm1F.trans (Moved.of_below (F := fun _ => False) hbk2) (fun _ e => e.elim)).trans hm24 (fun j e => .inl (.inr e))
          have hb4 := HB.out.1.trans (hm04.below (fun j e => by have := HN.out; rcases e with e | e | e <;> omega) HB.out.1.size)
          have hBr4 := Nat.le_trans HB.out.2 hm04.size
          rw [← HNX.out.2] at ho4
          rw [← HNX.out.1] at hI4
          clear hm1 hm1F hT1 hR1 ho1 hbk2 hX2 hm2F hT2 hR2 ho2 hBk2 ho3 hg3 hl3 hm3 hm3F hT3 hR3 hm4 hm24 hm04 hI1
          have hk9 : NK ≤ 8 := HS1.out.2.2
          go_wp2
          go_roundw
          case rel => exact ⟨k + 1, oa', oq', by omega, by go_num, hI4, hT4, ho4, hR4, hb4, hBr4⟩
          case measure => (simp [intOf]; try omega)
    · have hki : ¬ (k : Int) < (NK : Int) := by omega
      obtain rfl : NK = k := by omega
      clear hk hlt
      obtain ⟨sa, hsa⟩ : ∃ x, x = oa := ⟨_, rfl⟩
      obtain ⟨sq, hsq⟩ : ∃ x, x = oq := ⟨_, rfl⟩
      subst hsa hsq
      obtain ⟨LS, hLS⟩ : ∃ x, x = (Tx.rdSps s1 true NK).2.1 := ⟨_, rfl⟩
      obtain ⟨s2, hs2⟩ : ∃ x, x = (Tx.rdSps s1 true NK).1 := ⟨_, rfl⟩
      obtain ⟨okA, hokA⟩ : ∃ x, x = (Tx.rdSps s1 true NK).2.2 := ⟨_, rfl⟩
      rw [← hLS] at ho
      rw [← hs2] at hI
      have HA := Lib.hid (show LS = (Tx.rdA l).2.1 ∧ s2 = (Tx.rdA l).1 ∧ okA = (Tx.rdA l).2.2 ∧ LS.length = NK from ⟨by rw [hLS, HS1.out.1, HS1.out.2.1]; rfl, by rw [hs2, HS1.out.1, HS1.out.2.1]; rfl, by rw [hokA, HS1.out.1, HS1.out.2.1]; rfl, by rw [hLS]; exact (Tx.sps_flag s1 true NK).2.2⟩)
      clear hLS hs2 hokA
      obtain ⟨pb, hpb⟩ : ∃ x, x = Pk.rdCount s2 8 := ⟨_, rfl⟩
      have HPpb := Lib.hid hpb
      clear hpb
      have HCT := Lib.hid (inCount_any gi r s2 8 (by omega) wr hI)
      clear hI
      rw [← HPpb.out] at HCT
      have hk08 := Tx.rdCount_le s2 8 (by omega)
      rw [← HPpb.out] at hk08
      obtain ⟨k08, k88⟩ := hk08
      obtain ⟨s4, hs4⟩ : ∃ s, s = pb.1 := ⟨_, rfl⟩
      obtain ⟨M, hM⟩ : ∃ M : Nat, pb.2 = M := ⟨pb.2.toNat, by omega⟩
      have HS4 := Lib.hid (show s4 = (Pk.rdCount (Tx.rdA l).1 8).1 ∧ M = (Pk.rdCount (Tx.rdA l).1 8).2.toNat from ⟨by rw [hs4, HPpb.out, HA.out.2.1], by rw [← HA.out.2.1, ← HPpb.out, hM]; rfl⟩)
      have HM8 := Lib.hid (show M ≤ 8 by omega)
      replace HCT := Lib.hid (show Calls Try.prog 30 #[.pointer (some ⟨gi, 0, none⟩), .int .i64 8] wr (fun e w' => e = .returned (.int .i64 (M : Int)) ∧ InS w' gi r s4 ∧ Moved (inF gi) wr w') from HCT.out.mono (fun e w' h => by rw [← hM, hs4]; exact h))
      clear hM hs4 k08 k88 HPpb
      skip
      go_wp2_with (go_at_call 30; refine HCT.out.mono ?_; rintro e w6 ⟨rfl, hI, hm4⟩)
      replace hT := hT.moved hm4 (fun e => by have e2 : gt = gi := e; have := HN.out; omega)
      replace ho := ho.moved hm4 (fun k hk e => by have e2 : k = gi := e; have := ho.lt k hk; have := HN.out; omega)
      replace hR := hR.moved hm4 (fun e => by have e2 : g2 = gi := e; have := HN.out; omega)
      replace hb := hb.trans (hm4.below (fun k e => by have e2 : k = gi := e; have := HN.out; omega) hb.size)
      replace hBr := Nat.le_trans hBr hm4.size
      have hoS := ho
      clear ho
      have ho : OwnR coRec 56 B w6 (.slice none 0 0) [] := OwnR.nil _ _ _ _
      clear hm4 HCT
      go_loopw [23] (fun kv wr => ∃ (k : Nat) (oa : Option Addr) (oq : Nat), k ≤ M ∧ kv = .int .i64 k ∧ InS wr gi r (Tx.rdCos s4 okA k).1 ∧ Has wr gt 25 #[.slice sa NK sq, .slice oa k oq, .bool false] ∧ OwnR coRec 56 B wr (.slice oa k oq) (Tx.rdCos s4 okA k).2.1 ∧ OwnR spRec 54 B wr (.slice sa NK sq) LS ∧ Has wr g2 25 zTx ∧ Below w.heap.size w wr ∧ B ≤ wr.heap.size) (fun kv _ => M - (intOf kv).toNat)
      case atStart => exact ⟨0, none, 0, Nat.zero_le _, rfl, hI, hT, ho, hoS, hR, hb, hBr⟩
      case round =>
        clear hI hT ho hoS hR hb hBr
        obtain ⟨k, oa, oq, hk, rfl, hI, hT, ho, hoS, hR, hb, hBr⟩ := hrel
        by_cases hlt : k < M
        · have hki : (k : Int) < (M : Int) := by omega
          have hk0 : (0 : Int) ≤ (k : Int) := by omega
          go_upto_region 9 with fail
          obtain ⟨s, hs⟩ : ∃ s, s = (Tx.rdCos s4 okA k).1 := ⟨_, rfl⟩
          obtain ⟨L0, hL0⟩ : ∃ s, s = (Tx.rdCos s4 okA k).2.1 := ⟨_, rfl⟩
          rw [← hs] at hI
          rw [← hL0] at ho
          obtain ⟨X, hX⟩ : ∃ X, X = (Tx.rdCo s).2.1 := ⟨_, rfl⟩
          obtain ⟨s', hs'⟩ : ∃ x, x = (Tx.rdCo s).1 := ⟨_, rfl⟩
          obtain ⟨cs, hcs⟩ : ∃ cs : Array Value, cs = (coCells X).toArray := ⟨_, rfl⟩
          have HNX := Lib.hid (show (Tx.rdCos s4 okA (k + 1)).1 = s' ∧ (Tx.rdCos s4 okA (k + 1)).2.1 = L0 ++ [X] from ⟨by rw [hs', hs]; rfl, by rw [hX, hL0, hs]; rfl⟩)
          have hokX : coRec.ok X := (Tx.cos_flag s4 okA (k + 1)).2.1 X (by rw [HNX.out.2]; exact List.mem_append_right _ (List.mem_singleton.2 rfl))
          have HX := Lib.hid (show coRec.ok X ∧ cs = (coRec.cells X).toArray ∧ L0.length = k from ⟨hokX, hcs, by rw [hL0]; exact (Tx.cos_flag s4 okA k).2.2⟩)
          have HSZ := Lib.hid (show cs.size = 2 by rw [hcs, List.size_toArray]; exact rfl)
          obtain ⟨ws, hws⟩ : ∃ x, x = wr.drew := ⟨_, rfl⟩
          have hbs : Below wr.heap.size wr ws := by rw [hws]; exact (Below.refl _ _).drew
          replace hI := hI.below hbs
          replace hT := hT.under hbs hT.lt
          replace hR := hR.under hbs hR.lt
          replace hb := hb.trans (hbs.mono hb.size)
          replace hBr := Nat.le_trans hBr hbs.size
          replace ho := ho.below hbs
          replace hoS := hoS.below hbs
          have HRC := Lib.hid (show Calls Try.prog 32 #[.pointer (some ⟨gi, 0, none⟩)] ws (fun e w' => e = .returned (.agg cs) ∧ InS w' gi r s' ∧ Moved (inF gi) ws w') from (readCoin_any gi r s ws hI).mono (fun e w' h => by rw [hcs, hX, hs']; exact h))
          have HT := Lib.hid hT
          have HR := Lib.hid hR
          have HO := Lib.hid ho
          have HB := Lib.hid (And.intro hb hBr)
          have HOS := Lib.hid hoS
          clear hoS
          clear hs hL0 hX hs' hcs hokX hI hT hR ho hb hBr hbs
          refine wp_region_held_drew (S := HeldM (fun j => j = gi ∨ j = gt ∨ B ≤ j) ws) (by kernel_rfl) (by rw [hws]; exact HeldM.refl _ _) (fun hHeld => ?_)
          rw [← hws] at hHeld ⊢
          clear hws
          refine take_at (v := ?_) 0 25 rfl rfl (by kernel_rfl) (by kernel_rfl) (by kernel_rfl) (fun _ _ _ h => h) hHeld (Or.inl ⟨by rfl, ?_⟩) rfl ?_
          rotate_left
          · intro wq hSw
            go_simp
            try with_reducible rfl
          simp only [List.set_cons_zero, List.set_cons_succ]
          refine take_at (v := ?_) 2 27 rfl rfl (by kernel_rfl) (by kernel_rfl) (by kernel_rfl) (fun _ _ _ h => h) hHeld (Or.inl ⟨by rfl, ?_⟩) rfl ?_
          rotate_left
          · intro wq hSw
            go_simp
            try with_reducible rfl
          simp only [List.set_cons_zero, List.set_cons_succ]
          refine wpAnyH_ready (rs := [1, 3]) (by kernel_rfl) (by simp) ?_
          refine AllReadyH.cons rfl (fun K hK => ?_) (AllReadyH.cons rfl (fun K hK => ?_) AllReadyH.nil)
          · have cg : ws.cell? ⟨gt, 1, none⟩ = some (.slice oa k oq) := HT.out.cell_at rfl
            go_simp
            refine hK.out _ _ hHeld (fun _ => ?_)
            clear hK K cg
            try simp only [Act.put, List.setIfInBounds_toArray, List.set_cons_zero, List.set_cons_succ]
            refine wpAnyH_ready (rs := [3]) (by kernel_rfl) (by simp) ?_
            refine AllReadyH.cons rfl (fun K hK => ?_) AllReadyH.nil
            go_simp
            go_at_call 32; refine HRC.out.mono ?_; rintro e k1 ⟨rfl, hI1, hm1⟩
            have hm1F : Moved (fun j => j = gi ∨ j = gt ∨ B ≤ j) ws k1 := hm1.mono (fun _ e => .inl e)
            refine hK.out _ _ (HeldM.of hm1F) (fun _ => ?_)
            clear hK K
            try simp only [Act.put, List.setIfInBounds_toArray, List.set_cons_zero, List.set_cons_succ]
            refine heldM_grow (w1 := k1) hm1F ?_
            clear hHeld
            have hHeld : HeldM (fun j => j = gi ∨ j = gt ∨ B ≤ j) k1 k1 := HeldM.refl _ _
            have hT1 := HT.out.moved hm1 (fun e => by have e2 : gt = gi := e; have := HN.out; omega)
            have hR1 := HR.out.moved hm1 (fun e => by have e2 : g2 = gi := e; have := HN.out; omega)
            have ho1 := HO.out.moved hm1 (fun j hj e => by have e2 : j = gi := e; have := HO.out.lt j hj; have := HN.out; omega)
            have hoS1 := HOS.out.moved hm1 (fun j hj e => by have e2 : j = gi := e; have := HOS.out.lt j hj; have := HN.out; omega)
            refine wpAnyH_ready (rs := [4]) (by kernel_rfl) (by simp) ?_
            refine AllReadyH.cons rfl (fun K hK => ?_) AllReadyH.nil
            refine step_build_row (by rfl) (.tmp 28) 23 rfl 56 Try.underlying23 info_coin (by decide) (by decide) cs HSZ.out (by first | rfl | simp [Act.eval]) ?_
            obtain ⟨k2, hk2⟩ : ∃ x, x = k1.alloc (.cells cs 56) := ⟨_, rfl⟩
            rw [← hk2]
            have hbk2 : Below k1.heap.size k1 k2 := by rw [hk2]; exact (Below.refl _ _).alloc (Nat.le_refl _) _
            have hX2 : Recs coRec k2 (some ⟨k1.heap.size, 0, none⟩) 1 [X] := by rw [hk2]; exact recs_one HX.out.1 HX.out.2.1
            have hm2F : Moved (fun j => j = gi ∨ j = gt ∨ B ≤ j) k1 k2 := Moved.of_below hbk2
            refine hK.out _ _ (HeldM.of hm2F) (fun _ => ?_)
            clear hK K
            try simp only [Act.put]
            try simp only [List.setIfInBounds_toArray]
            try simp only [List.set_cons_zero, List.set_cons_succ]
            refine heldM_grow (w1 := k2) hm2F ?_
            clear hHeld
            have hHeld : HeldM (fun j => j = gi ∨ j = gt ∨ B ≤ j) k2 k2 := HeldM.refl _ _
            obtain ⟨g9, hg9⟩ : ∃ g, g = k1.heap.size := ⟨_, rfl⟩
            rw [← hg9] at hX2 ⊢
            clear hk2 hg9
            have hT2 := hT1.under hbk2 hT1.lt
            have hR2 := hR1.under hbk2 hR1.lt
            have ho2 := ho1.below hbk2
            have hoS2 := hoS1.below hbk2
            have hBk2 : B ≤ k2.heap.size := Nat.le_trans (Nat.le_trans HB.out.2 hm1.size) hbk2.size
            refine wpAnyH_ready (rs := [5]) (by kernel_rfl) (by simp) ?_
            refine AllReadyH.cons rfl (fun K hK => ?_) AllReadyH.nil
            refine step_append_recs (R := coRec) (by rfl) (.tmp 26) (.tmp 29) 23 rfl 56 Try.underlying23 info_coin rfl (by decide) B _ L0 (by first | rfl | simp [Act.eval]) ho2 (some ⟨g9, 0, none⟩) 1 1 [X] (by first | rfl | simp [Act.eval]) hX2 (fun e => by cases e) (by have := HX.out.2.2; have := HS1.out.2.2; have := HM8.out; omega) hBk2 ?_
            intro va k3 ho3 hg3 hl3
            obtain ⟨oa', oq', rfl, _⟩ := ho3.shape (K := k + 1) (by rw [List.length_append, HX.out.2.2]; rfl)
            have hm3 : Moved (fun j => B ≤ j) k2 k3 := Moved.of_grown hg3 (fun j e => ho2.lt j e)
            have hm3F : Moved (fun j => j = gi ∨ j = gt ∨ B ≤ j) k2 k3 := hm3.mono (fun _ e => .inr (.inr e))
            refine hK.out _ _ (HeldM.of hm3F) (fun _ => ?_)
            clear hK K
            try simp only [Act.put]
            try simp only [List.setIfInBounds_toArray]
            try simp only [List.set_cons_zero, List.set_cons_succ]
            refine heldM_grow (w1 := k3) hm3F ?_
            clear hHeld
            have hHeld : HeldM (fun j => j = gi ∨ j = gt ∨ B ≤ j) k3 k3 := HeldM.refl _ _
            have hT3 := hT2.moved hm3 (fun e => by have e2 : B ≤ gt := e; have := HN.out; omega)
            have hR3 := hR2.moved hm3 (fun e => by have e2 : B ≤ g2 := e; have := HN.out; omega)
            have hoS3 : OwnR spRec 54 B k3 (.slice sa NK sq) LS := hoS2.moved (Moved.of_grown (F := fun j => (Value.slice oa k oq).ownBlock = some j) hg3 (fun _ e => e)) (fun j hj e => own_ne (by decide) hoS2 ho2 hj e)
            have cg : k3.cell? ⟨gt, 1, none⟩ = some (.slice oa k oq) := hT3.cell_at rfl
            have lg := hT3.loose 1
            refine take_at (v := ?_) 6 31 rfl rfl (by kernel_rfl) (by kernel_rfl) (by kernel_rfl) (fun _ _ _ h => h) hHeld (Or.inl ⟨by rfl, ?_⟩) rfl ?_
            rotate_left
            · intro wq hSw
              go_simp
              try with_reducible rfl
            try simp only [List.set_cons_zero, List.set_cons_succ]
            refine wpAnyH_ready (rs := [7]) (by kernel_rfl) (by simp) ?_
            refine AllReadyH.cons rfl (fun K hK => ?_) AllReadyH.nil
            go_simp
            obtain ⟨k4, hk4⟩ : ∃ x, x = k3.setCell ⟨gt, 1, none⟩ (.slice oa' (k + 1) oq') := ⟨_, rfl⟩
            rw [← hk4]
            have hm4 : Moved (fun j => j = gt) k3 k4 := by rw [hk4]; exact Moved.put (F := fun j => j = gt) (Moved.refl _ _) (.inl rfl) _ _
            have hT4 : Has k4 gt 25 #[.slice sa NK sq, .slice oa' (k + 1) oq', .bool false] := by rw [hk4]; exact hT3.put 1 (.slice oa' (k + 1) oq')
            refine hK.out _ _ (HeldM.of (hm4.mono (fun _ e => .inr (.inl e)))) (fun _ => ?_)
            clear hK K cg lg hk4 hHeld
            refine wpAnyH_done (by kernel_rfl) ?_ _
            have hm24 : Moved (fun j => j = gt ∨ B ≤ j) k2 k4 := (hm3.mono (fun _ e => .inr e)).trans hm4 (fun _ e => .inl (.inl e))
            have hI4 := (hI1.below hbk2).moved hm24 (fun e => by have := HN.out; rcases e with e | e <;> omega) (fun j hj e => by have := HN.out; have := HN.out.2.2.2.2 j hj; rcases e with e | e <;> omega)
            have hR4 := hR3.moved hm4 (fun e => by have e2 : g2 = gt := e; have := HN.out; omega)
            have ho4 := ho3.moved hm4 (fun j hj e => by have e2 : j = gt := e; have := ho3.lt j hj; have := HN.out; omega)
            have hoS4 := hoS3.moved hm4 (fun j hj e => by have e2 : j = gt := e; have := hoS3.lt j hj; have := HN.out; omega)
            have hm04 : Moved (fun j => j = gi ∨ j = gt ∨ B ≤ j) ws k4 := (hm1F.trans (Moved.of_below (F := fun _ => False) hbk2) (fun _ e => e.elim)).trans hm24 (fun j e => .inl (.inr e))
            have hb4 := HB.out.1.trans (hm04.below (fun j e => by have := HN.out; rcases e with e | e | e <;> omega) HB.out.1.size)
            have hBr4 := Nat.le_trans HB.out.2 hm04.size
            rw [← HNX.out.2] at ho4
            rw [← HNX.out.1] at hI4
            clear hm1 hm1F hT1 hR1 ho1 hbk2 hX2 hm2F hT2 hR2 ho2 hBk2 ho3 hg3 hl3 hm3 hm3F hT3 hR3 hm4 hm24 hm04 hI1 hoS1 hoS2 hoS3
            have hk9 : M ≤ 8 := HM8.out
            go_wp2
            go_roundw
            case rel => exact ⟨k + 1, oa', oq', by omega, by go_num, hI4, hT4, ho4, hoS4, hR4, hb4, hBr4⟩
            case measure => (simp [intOf]; try omega)
          · go_simp
            go_at_call 32; refine HRC.out.mono ?_; rintro e k1 ⟨rfl, hI1, hm1⟩
            have hm1F : Moved (fun j => j = gi ∨ j = gt ∨ B ≤ j) ws k1 := hm1.mono (fun _ e => .inl e)
            refine hK.out _ _ (HeldM.of hm1F) (fun _ => ?_)
            clear hK K
            try simp only [Act.put, List.setIfInBounds_toArray, List.set_cons_zero, List.set_cons_succ]
            refine heldM_grow (w1 := k1) hm1F ?_
            clear hHeld
            have hHeld : HeldM (fun j => j = gi ∨ j = gt ∨ B ≤ j) k1 k1 := HeldM.refl _ _
            have hT1 := HT.out.moved hm1 (fun e => by have e2 : gt = gi := e; have := HN.out; omega)
            have hR1 := HR.out.moved hm1 (fun e => by have e2 : g2 = gi := e; have := HN.out; omega)
            have ho1 := HO.out.moved hm1 (fun j hj e => by have e2 : j = gi := e; have := HO.out.lt j hj; have := HN.out; omega)
            have hoS1 := HOS.out.moved hm1 (fun j hj e => by have e2 : j = gi := e; have := HOS.out.lt j hj; have := HN.out; omega)
            refine wpAnyH_ready (rs := [1, 4]) (by kernel_rfl) (by simp) ?_
            refine AllReadyH.cons rfl (fun K hK => ?_) (AllReadyH.cons rfl (fun K hK => ?_) AllReadyH.nil)
            · have cg : k1.cell? ⟨gt, 1, none⟩ = some (.slice oa k oq) := hT1.cell_at rfl
              go_simp
              refine hK.out _ _ hHeld (fun _ => ?_)
              clear hK K cg
              try simp only [Act.put, List.setIfInBounds_toArray, List.set_cons_zero, List.set_cons_succ]
              refine wpAnyH_ready (rs := [4]) (by kernel_rfl) (by simp) ?_
              refine AllReadyH.cons rfl (fun K hK => ?_) AllReadyH.nil
              refine step_build_row (by rfl) (.tmp 28) 23 rfl 56 Try.underlying23 info_coin (by decide) (by decide) cs HSZ.out (by first | rfl | simp [Act.eval]) ?_
              obtain ⟨k2, hk2⟩ : ∃ x, x = k1.alloc (.cells cs 56) := ⟨_, rfl⟩
              rw [← hk2]
              have hbk2 : Below k1.heap.size k1 k2 := by rw [hk2]; exact (Below.refl _ _).alloc (Nat.le_refl _) _
              have hX2 : Recs coRec k2 (some ⟨k1.heap.size, 0, none⟩) 1 [X] := by rw [hk2]; exact recs_one HX.out.1 HX.out.2.1
              have hm2F : Moved (fun j => j = gi ∨ j = gt ∨ B ≤ j) k1 k2 := Moved.of_below hbk2
              refine hK.out _ _ (HeldM.of hm2F) (fun _ => ?_)
              clear hK K
              try simp only [Act.put]
              try simp only [List.setIfInBounds_toArray]
              try simp only [List.set_cons_zero, List.set_cons_succ]
              refine heldM_grow (w1 := k2) hm2F ?_
              clear hHeld
              have hHeld : HeldM (fun j => j = gi ∨ j = gt ∨ B ≤ j) k2 k2 := HeldM.refl _ _
              obtain ⟨g9, hg9⟩ : ∃ g, g = k1.heap.size := ⟨_, rfl⟩
              rw [← hg9] at hX2 ⊢
              clear hk2 hg9
              have hT2 := hT1.under hbk2 hT1.lt
              have hR2 := hR1.under hbk2 hR1.lt
              have ho2 := ho1.below hbk2
              have hoS2 := hoS1.below hbk2
              have hBk2 : B ≤ k2.heap.size := Nat.le_trans (Nat.le_trans HB.out.2 hm1.size) hbk2.size
              refine wpAnyH_ready (rs := [5]) (by kernel_rfl) (by simp) ?_
              refine AllReadyH.cons rfl (fun K hK => ?_) AllReadyH.nil
              refine step_append_recs (R := coRec) (by rfl) (.tmp 26) (.tmp 29) 23 rfl 56 Try.underlying23 info_coin rfl (by decide) B _ L0 (by first | rfl | simp [Act.eval]) ho2 (some ⟨g9, 0, none⟩) 1 1 [X] (by first | rfl | simp [Act.eval]) hX2 (fun e => by cases e) (by have := HX.out.2.2; have := HS1.out.2.2; have := HM8.out; omega) hBk2 ?_
              intro va k3 ho3 hg3 hl3
              obtain ⟨oa', oq', rfl, _⟩ := ho3.shape (K := k + 1) (by rw [List.length_append, HX.out.2.2]; rfl)
              have hm3 : Moved (fun j => B ≤ j) k2 k3 := Moved.of_grown hg3 (fun j e => ho2.lt j e)
              have hm3F : Moved (fun j => j = gi ∨ j = gt ∨ B ≤ j) k2 k3 := hm3.mono (fun _ e => .inr (.inr e))
              refine hK.out _ _ (HeldM.of hm3F) (fun _ => ?_)
              clear hK K
              try simp only [Act.put]
              try simp only [List.setIfInBounds_toArray]
              try simp only [List.set_cons_zero, List.set_cons_succ]
              refine heldM_grow (w1 := k3) hm3F ?_
              clear hHeld
              have hHeld : HeldM (fun j => j = gi ∨ j = gt ∨ B ≤ j) k3 k3 := HeldM.refl _ _
              have hT3 := hT2.moved hm3 (fun e => by have e2 : B ≤ gt := e; have := HN.out; omega)
              have hR3 := hR2.moved hm3 (fun e => by have e2 : B ≤ g2 := e; have := HN.out; omega)
              have hoS3 : OwnR spRec 54 B k3 (.slice sa NK sq) LS := hoS2.moved (Moved.of_grown (F := fun j => (Value.slice oa k oq).ownBlock = some j) hg3 (fun _ e => e)) (fun j hj e => own_ne (by decide) hoS2 ho2 hj e)
              have cg : k3.cell? ⟨gt, 1, none⟩ = some (.slice oa k oq) := hT3.cell_at rfl
              have lg := hT3.loose 1
              refine take_at (v := ?_) 6 31 rfl rfl (by kernel_rfl) (by kernel_rfl) (by kernel_rfl) (fun _ _ _ h => h) hHeld (Or.inl ⟨by rfl, ?_⟩) rfl ?_
              rotate_left
              · intro wq hSw
                go_simp
                try with_reducible rfl
              try simp only [List.set_cons_zero, List.set_cons_succ]
              refine wpAnyH_ready (rs := [7]) (by kernel_rfl) (by simp) ?_
              refine AllReadyH.cons rfl (fun K hK => ?_) AllReadyH.nil
              go_simp
              obtain ⟨k4, hk4⟩ : ∃ x, x = k3.setCell ⟨gt, 1, none⟩ (.slice oa' (k + 1) oq') := ⟨_, rfl⟩
              rw [← hk4]
              have hm4 : Moved (fun j => j = gt) k3 k4 := by rw [hk4]; exact Moved.put (F := fun j => j = gt) (Moved.refl _ _) (.inl rfl) _ _
              have hT4 : Has k4 gt 25 #[.slice sa NK sq, .slice oa' (k + 1) oq', .bool false] := by rw [hk4]; exact hT3.put 1 (.slice oa' (k + 1) oq')
              refine hK.out _ _ (HeldM.of (hm4.mono (fun _ e => .inr (.inl e)))) (fun _ => ?_)
              clear hK K cg lg hk4 hHeld
              refine wpAnyH_done (by kernel_rfl) ?_ _
              have hm24 : Moved (fun j => j = gt ∨ B ≤ j) k2 k4 := (hm3.mono (fun _ e => .inr e)).trans hm4 (fun _ e => .inl (.inl e))
              have hI4 := (hI1.below hbk2).moved hm24 (fun e => by have := HN.out; rcases e with e | e <;> omega) (fun j hj e => by have := HN.out; have := HN.out.2.2.2.2 j hj; rcases e with e | e <;> omega)
              have hR4 := hR3.moved hm4 (fun e => by have e2 : g2 = gt := e; have := HN.out; omega)
              have ho4 := ho3.moved hm4 (fun j hj e => by have e2 : j = gt := e; have := ho3.lt j hj; have := HN.out; omega)
              have hoS4 := hoS3.moved hm4 (fun j hj e => by have e2 : j = gt := e; have := hoS3.lt j hj; have := HN.out; omega)
              have hm04 : Moved (fun j => j = gi ∨ j = gt ∨ B ≤ j) ws k4 := (hm1F.trans (Moved.of_below (F := fun _ => False) hbk2) (fun _ e => e.elim)).trans hm24 (fun j e => .inl (.inr e))
              have hb4 := HB.out.1.trans (hm04.below (fun j e => by have := HN.out; rcases e with e | e | e <;> omega) HB.out.1.size)
              have hBr4 := Nat.le_trans HB.out.2 hm04.size
              rw [← HNX.out.2] at ho4
              rw [← HNX.out.1] at hI4
              clear hm1 hm1F hT1 hR1 ho1 hbk2 hX2 hm2F hT2 hR2 ho2 hBk2 ho3 hg3 hl3 hm3 hm3F hT3 hR3 hm4 hm24 hm04 hI1 hoS1 hoS2 hoS3
              have hk9 : M ≤ 8 := HM8.out
              go_wp2
              go_roundw
              case rel => exact ⟨k + 1, oa', oq', by omega, by go_num, hI4, hT4, ho4, hoS4, hR4, hb4, hBr4⟩
              case measure => (simp [intOf]; try omega)
            · refine step_build_row (by rfl) (.tmp 28) 23 rfl 56 Try.underlying23 info_coin (by decide) (by decide) cs HSZ.out (by first | rfl | simp [Act.eval]) ?_
              obtain ⟨k2, hk2⟩ : ∃ x, x = k1.alloc (.cells cs 56) := ⟨_, rfl⟩
              rw [← hk2]
              have hbk2 : Below k1.heap.size k1 k2 := by rw [hk2]; exact (Below.refl _ _).alloc (Nat.le_refl _) _
              have hX2 : Recs coRec k2 (some ⟨k1.heap.size, 0, none⟩) 1 [X] := by rw [hk2]; exact recs_one HX.out.1 HX.out.2.1
              have hm2F : Moved (fun j => j = gi ∨ j = gt ∨ B ≤ j) k1 k2 := Moved.of_below hbk2
              refine hK.out _ _ (HeldM.of hm2F) (fun _ => ?_)
              clear hK K
              try simp only [Act.put]
              try simp only [List.setIfInBounds_toArray]
              try simp only [List.set_cons_zero, List.set_cons_succ]
              refine heldM_grow (w1 := k2) hm2F ?_
              clear hHeld
              have hHeld : HeldM (fun j => j = gi ∨ j = gt ∨ B ≤ j) k2 k2 := HeldM.refl _ _
              obtain ⟨g9, hg9⟩ : ∃ g, g = k1.heap.size := ⟨_, rfl⟩
              rw [← hg9] at hX2 ⊢
              clear hk2 hg9
              have hT2 := hT1.under hbk2 hT1.lt
              have hR2 := hR1.under hbk2 hR1.lt
              have ho2 := ho1.below hbk2
              have hoS2 := hoS1.below hbk2
              refine wpAnyH_ready (rs := [1]) (by kernel_rfl) (by simp) ?_
              refine AllReadyH.cons rfl (fun K hK => ?_) AllReadyH.nil
              have cg : k2.cell? ⟨gt, 1, none⟩ = some (.slice oa k oq) := hT2.cell_at rfl
              go_simp
              refine hK.out _ _ hHeld (fun _ => ?_)
              clear hK K cg
              try simp only [Act.put, List.setIfInBounds_toArray, List.set_cons_zero, List.set_cons_succ]
              have hBk2 : B ≤ k2.heap.size := Nat.le_trans (Nat.le_trans HB.out.2 hm1.size) hbk2.size
              refine wpAnyH_ready (rs := [5]) (by kernel_rfl) (by simp) ?_
              refine AllReadyH.cons rfl (fun K hK => ?_) AllReadyH.nil
              refine step_append_recs (R := coRec) (by rfl) (.tmp 26) (.tmp 29) 23 rfl 56 Try.underlying23 info_coin rfl (by decide) B _ L0 (by first | rfl | simp [Act.eval]) ho2 (some ⟨g9, 0, none⟩) 1 1 [X] (by first | rfl | simp [Act.eval]) hX2 (fun e => by cases e) (by have := HX.out.2.2; have := HS1.out.2.2; have := HM8.out; omega) hBk2 ?_
              intro va k3 ho3 hg3 hl3
              obtain ⟨oa', oq', rfl, _⟩ := ho3.shape (K := k + 1) (by rw [List.length_append, HX.out.2.2]; rfl)
              have hm3 : Moved (fun j => B ≤ j) k2 k3 := Moved.of_grown hg3 (fun j e => ho2.lt j e)
              have hm3F : Moved (fun j => j = gi ∨ j = gt ∨ B ≤ j) k2 k3 := hm3.mono (fun _ e => .inr (.inr e))
              refine hK.out _ _ (HeldM.of hm3F) (fun _ => ?_)
              clear hK K
              try simp only [Act.put]
              try simp only [List.setIfInBounds_toArray]
              try simp only [List.set_cons_zero, List.set_cons_succ]
              refine heldM_grow (w1 := k3) hm3F ?_
              clear hHeld
              have hHeld : HeldM (fun j => j = gi ∨ j = gt ∨ B ≤ j) k3 k3 := HeldM.refl _ _
              have hT3 := hT2.moved hm3 (fun e => by have e2 : B ≤ gt := e; have := HN.out; omega)
              have hR3 := hR2.moved hm3 (fun e => by have e2 : B ≤ g2 := e; have := HN.out; omega)
              have hoS3 : OwnR spRec 54 B k3 (.slice sa NK sq) LS := hoS2.moved (Moved.of_grown (F := fun j => (Value.slice oa k oq).ownBlock = some j) hg3 (fun _ e => e)) (fun j hj e => own_ne (by decide) hoS2 ho2 hj e)
              have cg : k3.cell? ⟨gt, 1, none⟩ = some (.slice oa k oq) := hT3.cell_at rfl
              have lg := hT3.loose 1
              refine take_at (v := ?_) 6 31 rfl rfl (by kernel_rfl) (by kernel_rfl) (by kernel_rfl) (fun _ _ _ h => h) hHeld (Or.inl ⟨by rfl, ?_⟩) rfl ?_
              rotate_left
              · intro wq hSw
                go_simp
                try with_reducible rfl
              try simp only [List.set_cons_zero, List.set_cons_succ]
              refine wpAnyH_ready (rs := [7]) (by kernel_rfl) (by simp) ?_
              refine AllReadyH.cons rfl (fun K hK => ?_) AllReadyH.nil
              go_simp
              obtain ⟨k4, hk4⟩ : ∃ x, x = k3.setCell ⟨gt, 1, none⟩ (.slice oa' (k + 1) oq') := ⟨_, rfl⟩
              rw [← hk4]
              have hm4 : Moved (fun j => j = gt) k3 k4 := by rw [hk4]; exact Moved.put (F := fun j => j = gt) (Moved.refl _ _) (.inl rfl) _ _
              have hT4 : Has k4 gt 25 #[.slice sa NK sq, .slice oa' (k + 1) oq', .bool false] := by rw [hk4]; exact hT3.put 1 (.slice oa' (k + 1) oq')
              refine hK.out _ _ (HeldM.of (hm4.mono (fun _ e => .inr (.inl e)))) (fun _ => ?_)
              clear hK K cg lg hk4 hHeld
              refine wpAnyH_done (by kernel_rfl) ?_ _
              have hm24 : Moved (fun j => j = gt ∨ B ≤ j) k2 k4 := (hm3.mono (fun _ e => .inr e)).trans hm4 (fun _ e => .inl (.inl e))
              have hI4 := (hI1.below hbk2).moved hm24 (fun e => by have := HN.out; rcases e with e | e <;> omega) (fun j hj e => by have := HN.out; have := HN.out.2.2.2.2 j hj; rcases e with e | e <;> omega)
              have hR4 := hR3.moved hm4 (fun e => by have e2 : g2 = gt := e; have := HN.out; omega)
              have ho4 := ho3.moved hm4 (fun j hj e => by have e2 : j = gt := e; have := ho3.lt j hj; have := HN.out; omega)
              have hoS4 := hoS3.moved hm4 (fun j hj e => by have e2 : j = gt := e; have := hoS3.lt j hj; have := HN.out; omega)
              have hm04 : Moved (fun j => j = gi ∨ j = gt ∨ B ≤ j) ws k4 := (hm1F.trans (Moved.of_below (F := fun _ => False) hbk2) (fun _ e => e.elim)).trans hm24 (fun j e => .inl (.inr e))
              have hb4 := HB.out.1.trans (hm04.below (fun j e => by have := HN.out; rcases e with e | e | e <;> omega) HB.out.1.size)
              have hBr4 := Nat.le_trans HB.out.2 hm04.size
              rw [← HNX.out.2] at ho4
              rw [← HNX.out.1] at hI4
              clear hm1 hm1F hT1 hR1 ho1 hbk2 hX2 hm2F hT2 hR2 ho2 hBk2 ho3 hg3 hl3 hm3 hm3F hT3 hR3 hm4 hm24 hm04 hI1 hoS1 hoS2 hoS3
              have hk9 : M ≤ 8 := HM8.out
              go_wp2
              go_roundw
              case rel => exact ⟨k + 1, oa', oq', by omega, by go_num, hI4, hT4, ho4, hoS4, hR4, hb4, hBr4⟩
              case measure => (simp [intOf]; try omega)
        · have hki : ¬ (k : Int) < (M : Int) := by omega
          obtain rfl : k = M := by omega
          clear hk hlt
          obtain ⟨LC, hLC⟩ : ∃ x, x = (Tx.rdCos s4 okA k).2.1 := ⟨_, rfl⟩
          obtain ⟨s5, hs5⟩ : ∃ x, x = (Tx.rdCos s4 okA k).1 := ⟨_, rfl⟩
          rw [← hLC] at ho
          rw [← hs5] at hI
          have HB2 := Lib.hid (show LC = (Tx.rdB l).2.1 ∧ s5 = (Tx.rdB l).1 ∧ LC.length = k from ⟨by rw [hLC, HS4.out.1, HS4.out.2, HA.out.2.2.1]; rfl, by rw [hs5, HS4.out.1, HS4.out.2, HA.out.2.2.1]; rfl, by rw [hLC]; exact (Tx.cos_flag s4 okA k).2.2⟩)
          clear hLC hs5
          obtain ⟨pf, hpf⟩ : ∃ x, x = Pk.rdNum s5 1 := ⟨_, rfl⟩
          have HPpf := Lib.hid hpf
          clear hpf
          have HF := Lib.hid (show pf = Tx.rdF l by rw [HPpf.out, HB2.out.2.1]; rfl)
          have HV := Lib.hid (show Tx.rdOk l ↔ ((∀ x, x ∈ LS → ¬ Tx.offN x) ∧ (∀ x, x ∈ LC → ¬ Tx.offV x) ∧ pf.2.toNat ≤ 1 ∧ Pk.atEnd pf.1 = true) by rw [Tx.ok_iff, HA.out.1, HB2.out.1, HF.out])
          obtain ⟨fb, hfb⟩ : ∃ b : Bool, b = decide (pf.2 = 1#64) := ⟨_, rfl⟩
          have HT := Lib.hid (show Tx.rdT l = ⟨LS, LC, fb⟩ by rw [Tx.rdT, hfb, HA.out.1, HB2.out.1, HF.out])
          obtain ⟨y, hy⟩ : ∃ y : Int, y = nb64 pf.2 := ⟨_, rfl⟩
          have hyf : (y == 1) = fb := by
            rw [hfb, hy, Bool.eq_iff_iff, beq_iff_eq, decide_eq_true_iff]
            constructor
            · intro e
              apply BitVec.eq_of_toNat_eq
              have e2 : (pf.2.toNat : Int) = 1 := e
              show pf.2.toNat = 1
              omega
            · intro e
              rw [e]
              rfl
          have HY := Lib.hid (show y = (pf.2.toNat : Int) from hy)
          obtain ⟨s6, hs6⟩ : ∃ x, x = pf.1 := ⟨_, rfl⟩
          have HNM := Lib.hid (show Calls Try.prog 33 #[.pointer (some ⟨gi, 0, none⟩), .int .i64 1] wr (fun e w' => e = .returned (.int .u64 y) ∧ InS w' gi r s6 ∧ Moved (inF gi) wr w') from (inNum_any gi r s5 1 wr hI).mono (fun e w' h => by rw [hy, hs6, HPpf.out]; exact h))
          rw [← hs6] at HV
          clear hfb hy hs6 hI HPpf
          go_upto_region 12 with (go_at_call 33; refine HNM.out.mono ?_; rintro e w8 ⟨rfl, hI, hm8⟩)
          replace hT := hT.moved hm8 (fun e => by have e2 : gt = gi := e; have := HN.out; omega)
          replace ho := ho.moved hm8 (fun k hk e => by have e2 : k = gi := e; have := ho.lt k hk; have := HN.out; omega)
          replace hoS := hoS.moved hm8 (fun k hk e => by have e2 : k = gi := e; have := hoS.lt k hk; have := HN.out; omega)
          replace hR := hR.moved hm8 (fun e => by have e2 : g2 = gi := e; have := HN.out; omega)
          replace hb := hb.trans (hm8.below (fun k e => by have e2 : k = gi := e; have := HN.out; omega) hb.size)
          replace hBr := Nat.le_trans hBr hm8.size
          clear hm8 HNM
          have cg : w8.cell? ⟨gt, 2, none⟩ = some (.bool false) := hT.cell_at rfl
          have lg := hT.loose 2
          go_upto_region 13 with fail
          clear cg lg
          obtain ⟨w9, hw9⟩ : ∃ x, x = w8.setCell ⟨gt, 2, none⟩ (.bool fb) := ⟨_, rfl⟩
          rw [← hw9]
          have hm9 : Moved (fun j => j = gt) w8 w9 := by rw [hw9]; exact Moved.put (F := fun j => j = gt) (Moved.refl _ _) (.inl rfl) _ _
          replace hT : Has w9 gt 25 #[.slice sa NK sq, .slice oa k oq, .bool fb] := by rw [hw9]; exact hT.put 2 (.bool fb)
          replace hI := hI.moved hm9 (fun e => by have e2 : gi = gt := e; have := HN.out; omega) (fun j hj e => by have e2 : j = gt := e; have := HN.out.2.2.2.2 j hj; have := HN.out; omega)
          replace hR := hR.moved hm9 (fun e => by have e2 : g2 = gt := e; have := HN.out; omega)
          replace ho := ho.moved hm9 (fun j hj e => by have e2 : j = gt := e; have := ho.lt j hj; have := HN.out; omega)
          replace hoS := hoS.moved hm9 (fun j hj e => by have e2 : j = gt := e; have := hoS.lt j hj; have := HN.out; omega)
          replace hb := hb.trans (hm9.below (fun j e => by have e2 : j = gt := e; have := HN.out; omega) hb.size)
          clear hw9 hm9 hyf
          have hS9 := (hoS.recs).1
          have hC9 := (ho.recs).1
          have d0 : w9.cell? ⟨gt, 0, none⟩ = some (.slice sa NK sq) := hT.cell_at rfl
          obtain ⟨ae, hae⟩ : ∃ b : Bool, Pk.atEnd s6 = b := ⟨_, rfl⟩
          have HAE := Lib.hid hae
          clear hae
          cases ae
          · go_upto_region 14 with (go_at_call 34; refine (inEnd_no gi r s6 w9 hI HAE.out).mono ?_; rintro e wq ⟨rfl, rfl⟩)
            have HE := Lib.hid (show ¬ Tx.rdOk l from fun h => by have h9 := (HV.out.1 h).2.2.2; rw [HAE.out] at h9; cases h9)
            have hRZ := hR.moved (Moved.refl (fun _ => False) w9) (fun e => e)
            go_wp2_with (refine wpList_store_mid rfl 25 (.tmp 2) (.tmp 55) rfl g2 0 zTx rfl rfl (hRZ.there 0 3 (Nat.le_refl _)) (by kernel_rfl) (vRec.all_one ⟨none, 0, 0, none, 0, 0, ⟨[], [], false⟩⟩) ?_)
            obtain ⟨wZ, hwZ⟩ : ∃ x, x = w9.setCells g2 0 [.slice none 0 0, .slice none 0 0, .bool false] := ⟨_, rfl⟩
            have hE : Has wZ g2 25 zTx := by rw [hwZ]; exact hRZ.whole_cs (cs2 := zTx) rfl
            rw [← hwZ]
            refine bodyPost_ret (results_cell_slot rfl _ _ g2 rfl _ _ (hE.load_var Try.underlying25 rfl (by kernel_rfl)) rfl) rfl ⟨none, 0, 0, none, 0, 0, ?_, ?_, ?_⟩
            · rw [if_neg HE.out, Tx.rdV, if_neg HE.out]
              rfl
            · rw [Tx.rdV, if_neg HE.out]
              exact ⟨OwnR.nil _ _ _ _, OwnR.nil _ _ _ _⟩
            · rw [hwZ]
              exact below_setAll (by have := HN.out; omega) _ 0 (hb)
          · by_cases hy1 : 1 < y
            · go_upto_region 14 with (go_at_call 34; refine (inEnd_yes gi r s6 w9 hI HAE.out).mono ?_; rintro e wq ⟨rfl, rfl⟩)
              have HE := Lib.hid (show ¬ Tx.rdOk l from fun h => by have h9 := (HV.out.1 h).2.2.1; have := HY.out; omega)
              have hRZ := hR.moved (Moved.refl (fun _ => False) w9) (fun e => e)
              go_wp2_with (refine wpList_store_mid rfl 25 (.tmp 2) (.tmp 55) rfl g2 0 zTx rfl rfl (hRZ.there 0 3 (Nat.le_refl _)) (by kernel_rfl) (vRec.all_one ⟨none, 0, 0, none, 0, 0, ⟨[], [], false⟩⟩) ?_)
              obtain ⟨wZ, hwZ⟩ : ∃ x, x = w9.setCells g2 0 [.slice none 0 0, .slice none 0 0, .bool false] := ⟨_, rfl⟩
              have hE : Has wZ g2 25 zTx := by rw [hwZ]; exact hRZ.whole_cs (cs2 := zTx) rfl
              rw [← hwZ]
              refine bodyPost_ret (results_cell_slot rfl _ _ g2 rfl _ _ (hE.load_var Try.underlying25 rfl (by kernel_rfl)) rfl) rfl ⟨none, 0, 0, none, 0, 0, ?_, ?_, ?_⟩
              · rw [if_neg HE.out, Tx.rdV, if_neg HE.out]
                rfl
              · rw [Tx.rdV, if_neg HE.out]
                exact ⟨OwnR.nil _ _ _ _, OwnR.nil _ _ _ _⟩
              · rw [hwZ]
                exact below_setAll (by have := HN.out; omega) _ 0 (hb)
            · obtain ⟨v1, hv1⟩ : ∃ v : Bool, v = true ↔ ∃ s, s ∈ LS ∧ (Tx.offN s) := ⟨decide (∃ s, s ∈ LS ∧ (Tx.offN s)), by simp⟩
              have HV1 := Lib.hid hv1
              clear hv1
              cases v1
              · obtain ⟨v2, hv2⟩ : ∃ v : Bool, v = true ↔ ∃ s, s ∈ LC ∧ (Tx.offV s) := ⟨decide (∃ s, s ∈ LC ∧ (Tx.offV s)), by simp⟩
                have HV2 := Lib.hid hv2
                clear hv2
                cases v2
                · have HG := Lib.hid (show Tx.rdOk l from HV.out.2 ⟨fun x hx hp => Bool.false_ne_true (HV1.out.2 ⟨x, hx, hp⟩), fun x hx hp => Bool.false_ne_true (HV2.out.2 ⟨x, hx, hp⟩), by have := HY.out; omega, HAE.out⟩)
                  go_upto_region 15 with (first
                    | (go_at_call 38; refine (has_read2 oa k oq LC wA (hC9.below hbA) _ HV2.out).mono ?_; rintro e wB ⟨rfl, hbB⟩)
                    | (go_at_call 35; refine (has_read1 sa NK sq LS w9 hS9 _ HV1.out).mono ?_; rintro e wA ⟨rfl, hbA⟩; have hTA := hT.under hbA hT.lt; have cA : wA.cell? ⟨gt, 1, none⟩ = some (.slice oa k oq) := hTA.cell_at rfl)
                    | (go_at_call 34; refine (inEnd_yes gi r s6 w9 hI HAE.out).mono ?_; rintro e wq ⟨rfl, rfl⟩))
                  have hB9 := hbA.trans (hbB.mono hbA.size)
                  have hTZ := hT.under hB9 hT.lt
                  have hRZ := hR.under hB9 hR.lt
                  have lT := hTZ.load_agg (P := Try.prog) (t := 25) Try.underlying25 rfl (by kernel_rfl)
                  go_wp2_with (first
                    | (refine wpList_store_mid rfl 25 (.tmp 2) (.tmp 57) rfl g2 0 #[.slice sa NK sq, .slice oa k oq, .bool fb] rfl rfl (hRZ.there 0 3 (Nat.le_refl _)) (by kernel_rfl) (vRec.all_one ⟨sa, NK, sq, oa, k, oq, ⟨[], [], fb⟩⟩) ?_)
                    | (refine wpList_load_run rfl 25 (.tmp 5) rfl _ _ rfl lT ?_))
                  obtain ⟨wZ, hwZ⟩ : ∃ x, x = wB.setCells g2 0 [.slice sa NK sq, .slice oa k oq, .bool fb] := ⟨_, rfl⟩
                  have hE : Has wZ g2 25 #[.slice sa NK sq, .slice oa k oq, .bool fb] := by rw [hwZ]; exact hRZ.whole_cs (cs2 := #[.slice sa NK sq, .slice oa k oq, .bool fb]) rfl
                  have hmZ : Moved (fun j => j = g2) wB wZ := by rw [hwZ]; exact Moved.putAll (F := fun j => j = g2) (.inl rfl) _ 0 (Moved.refl _ _)
                  have hZS := (hoS.below hB9).moved hmZ (fun j hj e => by have e2 : j = g2 := e; have := hoS.lt j hj; have := HN.out; omega)
                  have hZC := (ho.below hB9).moved hmZ (fun j hj e => by have e2 : j = g2 := e; have := ho.lt j hj; have := HN.out; omega)
                  have hlo : w.heap.size ≤ B := by have := HN.out; omega
                  rw [← hwZ]
                  refine bodyPost_ret (results_cell_slot rfl _ _ g2 rfl _ _ (hE.load_var Try.underlying25 rfl (by kernel_rfl)) rfl) rfl ⟨sa, NK, sq, oa, k, oq, ?_, ?_, ?_⟩
                  · rw [if_pos HG.out, Tx.rdV, if_pos HG.out, HT.out]
                    rfl
                  · rw [Tx.rdV, if_pos HG.out, HT.out]
                    exact ⟨hZS.low hlo, hZC.low hlo⟩
                  · rw [hwZ]
                    exact below_setAll (by have := HN.out; omega) _ 0 (hb.trans (hB9.mono hb.size))
                · have HP2 := Lib.hid (HV2.out.1 rfl)
                  clear HV2
                  go_upto_region 14 with (first
                    | (go_at_call 38; refine (has_read2 oa k oq LC wA (hC9.below hbA) _ ⟨fun _ => HP2.out, fun _ => rfl⟩).mono ?_; rintro e wB ⟨rfl, hbB⟩)
                    | (go_at_call 35; refine (has_read1 sa NK sq LS w9 hS9 _ HV1.out).mono ?_; rintro e wA ⟨rfl, hbA⟩; have hTA := hT.under hbA hT.lt; have cA : wA.cell? ⟨gt, 1, none⟩ = some (.slice oa k oq) := hTA.cell_at rfl)
                    | (go_at_call 34; refine (inEnd_yes gi r s6 w9 hI HAE.out).mono ?_; rintro e wq ⟨rfl, rfl⟩))
                  have HE := Lib.hid (show ¬ Tx.rdOk l from fun h => by obtain ⟨x, hx, hp⟩ := HP2.out; exact (HV.out.1 h).2.1 x hx hp)
                  have hRZ := hR.under (hbA.trans (hbB.mono hbA.size)) hR.lt
                  go_wp2_with (refine wpList_store_mid rfl 25 (.tmp 2) (.tmp 55) rfl g2 0 zTx rfl rfl (hRZ.there 0 3 (Nat.le_refl _)) (by kernel_rfl) (vRec.all_one ⟨none, 0, 0, none, 0, 0, ⟨[], [], false⟩⟩) ?_)
                  obtain ⟨wZ, hwZ⟩ : ∃ x, x = wB.setCells g2 0 [.slice none 0 0, .slice none 0 0, .bool false] := ⟨_, rfl⟩
                  have hE : Has wZ g2 25 zTx := by rw [hwZ]; exact hRZ.whole_cs (cs2 := zTx) rfl
                  rw [← hwZ]
                  refine bodyPost_ret (results_cell_slot rfl _ _ g2 rfl _ _ (hE.load_var Try.underlying25 rfl (by kernel_rfl)) rfl) rfl ⟨none, 0, 0, none, 0, 0, ?_, ?_, ?_⟩
                  · rw [if_neg HE.out, Tx.rdV, if_neg HE.out]
                    rfl
                  · rw [Tx.rdV, if_neg HE.out]
                    exact ⟨OwnR.nil _ _ _ _, OwnR.nil _ _ _ _⟩
                  · rw [hwZ]
                    exact below_setAll (by have := HN.out; omega) _ 0 (hb.trans ((hbA.trans (hbB.mono hbA.size)).mono hb.size))
              · have HP1 := Lib.hid (HV1.out.1 rfl)
                clear HV1
                go_upto_region 14 with (first
                  | (go_at_call 35; refine (has_read1 sa NK sq LS w9 hS9 _ ⟨fun _ => HP1.out, fun _ => rfl⟩).mono ?_; rintro e wA ⟨rfl, hbA⟩; have hTA := hT.under hbA hT.lt; have cA : wA.cell? ⟨gt, 1, none⟩ = some (.slice oa k oq) := hTA.cell_at rfl)
                  | (go_at_call 34; refine (inEnd_yes gi r s6 w9 hI HAE.out).mono ?_; rintro e wq ⟨rfl, rfl⟩))
                have HE := Lib.hid (show ¬ Tx.rdOk l from fun h => by obtain ⟨x, hx, hp⟩ := HP1.out; exact (HV.out.1 h).1 x hx hp)
                have hRZ := hR.under hbA hR.lt
                go_wp2_with (refine wpList_store_mid rfl 25 (.tmp 2) (.tmp 55) rfl g2 0 zTx rfl rfl (hRZ.there 0 3 (Nat.le_refl _)) (by kernel_rfl) (vRec.all_one ⟨none, 0, 0, none, 0, 0, ⟨[], [], false⟩⟩) ?_)
                obtain ⟨wZ, hwZ⟩ : ∃ x, x = wA.setCells g2 0 [.slice none 0 0, .slice none 0 0, .bool false] := ⟨_, rfl⟩
                have hE : Has wZ g2 25 zTx := by rw [hwZ]; exact hRZ.whole_cs (cs2 := zTx) rfl
                rw [← hwZ]
                refine bodyPost_ret (results_cell_slot rfl _ _ g2 rfl _ _ (hE.load_var Try.underlying25 rfl (by kernel_rfl)) rfl) rfl ⟨none, 0, 0, none, 0, 0, ?_, ?_, ?_⟩
                · rw [if_neg HE.out, Tx.rdV, if_neg HE.out]
                  rfl
                · rw [Tx.rdV, if_neg HE.out]
                  exact ⟨OwnR.nil _ _ _ _, OwnR.nil _ _ _ _⟩
                · rw [hwZ]
                  exact below_setAll (by have := HN.out; omega) _ 0 (hb.trans (hbA.mono hb.size))
end Go.Proofs.Ytpbijcchdjppmaa
