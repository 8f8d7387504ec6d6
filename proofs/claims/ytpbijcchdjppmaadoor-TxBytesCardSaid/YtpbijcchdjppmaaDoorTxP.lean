/- transactions read off bytes: pure; what is put is read, what is read is put -/
import Derived.Test.YtpbijcchdjppmaaDoorTxK
import Derived.Test.YtpbijcchdjppmaaDoorPkB1
namespace Go.Proofs.YtpbijcchdjppmaaDoor.Tx
open Go.Proofs.YtpbijcchdjppmaaDoor
/-- a spend, a coin off a reader; is it as it must be? -/
def rdSp (s : Pk.Rd) : Pk.Rd × Sp × Bool :=
  let h := Pk.rdHash s
  let n := Pk.rdNum h.1 4
  let k := Pk.rdText n.1 32
  let e := Pk.rdNum k.1 8
  (e.1, ⟨h.2, n.2.toNat, k.2, e.2⟩, decide (n.2.toNat < 8))
def rdCo (s : Pk.Rd) : Pk.Rd × Co × Bool :=
  let v := Pk.rdNum s 8
  let l := Pk.rdNum v.1 8
  (l.1, ⟨v.2.toInt, l.2⟩, decide (Am.Good v.2.toInt))
def rdSps (s : Pk.Rd) (ok : Bool) : Nat → Pk.Rd × List Sp × Bool
  | 0 => (s, [], ok)
  | k + 1 => ((rdSp (rdSps s ok k).1).1, (rdSps s ok k).2.1 ++ [(rdSp (rdSps s ok k).1).2.1], (rdSps s ok k).2.2 && (rdSp (rdSps s ok k).1).2.2)
def rdCos (s : Pk.Rd) (ok : Bool) : Nat → Pk.Rd × List Co × Bool
  | 0 => (s, [], ok)
  | k + 1 => ((rdCo (rdCos s ok k).1).1, (rdCos s ok k).2.1 ++ [(rdCo (rdCos s ok k).1).2.1], (rdCos s ok k).2.2 && (rdCo (rdCos s ok k).1).2.2)
/-- what is read of the spends, of the coins behind them, of the last byte -/
def rdA (B : List (BitVec 8)) : Pk.Rd × List Sp × Bool := rdSps (Pk.rdCount (some B) 8).1 true (Pk.rdCount (some B) 8).2.toNat
def rdB (B : List (BitVec 8)) : Pk.Rd × List Co × Bool := rdCos (Pk.rdCount (rdA B).1 8).1 (rdA B).2.2 (Pk.rdCount (rdA B).1 8).2.toNat
def rdF (B : List (BitVec 8)) : Pk.Rd × BitVec 64 := Pk.rdNum (rdB B).1 1
/-- whose bytes these are -/
def rdOk (B : List (BitVec 8)) : Prop := (rdB B).2.2 = true ∧ (rdF B).2.toNat ≤ 1 ∧ Pk.atEnd (rdF B).1 = true
instance (B : List (BitVec 8)) : Decidable (rdOk B) := inferInstanceAs (Decidable (_ ∧ _))
def rdT (B : List (BitVec 8)) : T := ⟨(rdA B).2.1, (rdB B).2.1, decide ((rdF B).2 = 1#64)⟩
def zT : T := ⟨[], [], false⟩
def read (B : List (BitVec 8)) : Option T := if rdOk B then some (rdT B) else none
theorem rdNum_none (z : Int) : Pk.rdNum none z = (none, 0) := rfl
theorem rdText_none (z : Int) : Pk.rdText none z = (none, []) := by
  have : (Pk.rdCount none z).1 = none := by
    unfold Pk.rdCount Pk.rdMore
    rw [rdNum_none]
    rfl
  unfold Pk.rdText
  rw [this]
theorem rdSp_none : (rdSp none).1 = none := by
  unfold rdSp
  show (Pk.rdNum (Pk.rdText (Pk.rdNum (Pk.rdHash none).1 4).1 32).1 8).1 = none
  rw [show (Pk.rdHash none).1 = none from rfl, rdNum_none, rdText_none, rdNum_none]
theorem rdCo_none : (rdCo none).1 = none := rfl
/-- a spend that may be put and read again -/
def SpGood (s : Sp) : Prop := s.h.length = 32 ∧ 0 ≤ s.n ∧ s.n ≤ 7 ∧ s.key.length ≤ 32
theorem low_all (x : BitVec 64) : (x <<< (64 - 8 * 8)) >>> (64 - 8 * 8) = x := by simp
theorem rdSp_enc (s : Sp) (hs : SpGood s) (r : List (BitVec 8)) : rdSp (some (encSp true s ++ r)) = (some r, s, true) := by
  obtain ⟨h1, h2, h3, h4⟩ := hs
  have e : encSp true s ++ r = s.h ++ (Pk.le (BitVec.ofInt 64 s.n) 4 ++ (Pk.text s.key ++ (Pk.le s.sl 8 ++ r))) := by simp [encSp]
  have q2 := Pk.rd_le (BitVec.ofInt 64 s.n) 4 (by unfold Pk.okSize; omega) (Pk.text s.key ++ (Pk.le s.sl 8 ++ r))
  have q4 := Pk.rd_le s.sl 8 (by unfold Pk.okSize; omega) r
  rw [low_all] at q4
  obtain ⟨m, hm⟩ := Int.eq_ofNat_of_zero_le h2
  have q5 := Pk.low_nat m 4 (by omega) (by have : m ≤ 7 := by omega
                                           omega)
  rw [← hm] at q5
  have q3 : Pk.rdText (some (Pk.text s.key ++ (Pk.le s.sl 8 ++ r))) 32 = (some (Pk.le s.sl 8 ++ r), s.key) := by
    have hc := Pk.rd_count s.key.length 32 (by omega) (by omega) (s.key ++ (Pk.le s.sl 8 ++ r))
    have e2 : Pk.text s.key ++ (Pk.le s.sl 8 ++ r) = Pk.count s.key.length ++ (s.key ++ (Pk.le s.sl 8 ++ r)) := by simp [Pk.text]
    unfold Pk.rdText
    rw [e2, hc]
    simp
    omega
  rw [e]
  unfold rdSp
  rw [Pk.rd_hash _ _ h1]
  show ((Pk.rdNum (Pk.rdText (Pk.rdNum _ 4).1 32).1 8).1, (⟨_, _, _, _⟩ : Sp), _) = _
  rw [show ((4 : Int)) = ((4 : Nat) : Int) from rfl, q2, q3, show ((8 : Int)) = ((8 : Nat) : Int) from rfl, q4]
  rw [q5]
  cases s
  simp only [Prod.mk.injEq, Sp.mk.injEq, true_and, and_true]
  constructor
  · simpa using hm.symm
  · simp only [decide_eq_true_eq]
    omega
theorem rdCo_enc (c : Co) (hc : CoOk c) (hg : Am.Good c.v) (r : List (BitVec 8)) : rdCo (some (encCo c ++ r)) = (some r, c, true) := by
  have e : encCo c ++ r = Pk.le (BitVec.ofInt 64 c.v) 8 ++ (Pk.le c.lock 8 ++ r) := by simp [encCo]
  have q1 := Pk.rd_le (BitVec.ofInt 64 c.v) 8 (by unfold Pk.okSize; omega) (Pk.le c.lock 8 ++ r)
  have q2 := Pk.rd_le c.lock 8 (by unfold Pk.okSize; omega) r
  rw [low_all] at q1 q2
  have q3 : (BitVec.ofInt 64 c.v).toInt = c.v := by
    rw [BitVec.toInt_ofInt]
    have h1 := hc.1
    have h2 := hc.2
    rw [Int.bmod_eq_of_le] <;> omega
  rw [e]
  unfold rdCo
  rw [show ((8 : Int)) = ((8 : Nat) : Int) from rfl, q1]
  show ((Pk.rdNum _ _).1, (⟨_, _⟩ : Co), _) = _
  rw [q2, q3]
  cases c
  simp only [Prod.mk.injEq, true_and]
  exact decide_eq_true hg
theorem rdSps_enc (L : List Sp) (hL : ∀ s, s ∈ L → SpGood s) (r : List (BitVec 8)) (ok : Bool) : ∀ k, k ≤ L.length → rdSps (some (L.flatMap (encSp true) ++ r)) ok k = (some ((L.drop k).flatMap (encSp true) ++ r), L.take k, ok)
  | 0, _ => rfl
  | k + 1, hk => by
    have ih := rdSps_enc L hL r ok k (by omega)
    have hd : L.drop k = L[k] :: L.drop (k + 1) := List.drop_eq_getElem_cons (by omega)
    have hs := rdSp_enc L[k] (hL _ (List.getElem_mem _)) ((L.drop (k + 1)).flatMap (encSp true) ++ r)
    show ((rdSp (rdSps _ ok k).1).1, (rdSps _ ok k).2.1 ++ [(rdSp (rdSps _ ok k).1).2.1], (rdSps _ ok k).2.2 && (rdSp (rdSps _ ok k).1).2.2) = _
    rw [ih]
    have e : (L.drop k).flatMap (encSp true) ++ r = encSp true L[k] ++ ((L.drop (k + 1)).flatMap (encSp true) ++ r) := by rw [hd, List.flatMap_cons, List.append_assoc]
    rw [e]
    rw [hs]
    simp only [Bool.and_true, Prod.mk.injEq, true_and, and_true]
    rw [List.take_succ_eq_append_getElem]
theorem rdCos_enc (L : List Co) (hL : ∀ c, c ∈ L → CoOk c ∧ Am.Good c.v) (r : List (BitVec 8)) (ok : Bool) : ∀ k, k ≤ L.length → rdCos (some (L.flatMap encCo ++ r)) ok k = (some ((L.drop k).flatMap encCo ++ r), L.take k, ok)
  | 0, _ => rfl
  | k + 1, hk => by
    have ih := rdCos_enc L hL r ok k (by omega)
    have hd : L.drop k = L[k] :: L.drop (k + 1) := List.drop_eq_getElem_cons (by omega)
    have hs := rdCo_enc L[k] (hL _ (List.getElem_mem _)).1 (hL _ (List.getElem_mem _)).2 ((L.drop (k + 1)).flatMap encCo ++ r)
    show ((rdCo (rdCos _ ok k).1).1, (rdCos _ ok k).2.1 ++ [(rdCo (rdCos _ ok k).1).2.1], (rdCos _ ok k).2.2 && (rdCo (rdCos _ ok k).1).2.2) = _
    rw [ih]
    have e : (L.drop k).flatMap encCo ++ r = encCo L[k] ++ ((L.drop (k + 1)).flatMap encCo ++ r) := by rw [hd, List.flatMap_cons, List.append_assoc]
    rw [e]
    rw [hs]
    simp only [Bool.and_true, Prod.mk.injEq, true_and, and_true]
    rw [List.take_succ_eq_append_getElem]
/-- what is put is read -/
theorem read_enc (t : T) (hn : t.sp.length ≤ 8) (hm : t.co.length ≤ 8) (hsp : ∀ s, s ∈ t.sp → SpGood s) (hco : ∀ c, c ∈ t.co → CoOk c ∧ Am.Good c.v) : rdOk (enc true t) ∧ rdT (enc true t) = t := by
  have e : enc true t = Pk.count t.sp.length ++ (t.sp.flatMap (encSp true) ++ (Pk.count t.co.length ++ (t.co.flatMap encCo ++ [if t.firm = true then 1#8 else 0#8]))) := by simp [enc]
  have c1 := Pk.rd_count t.sp.length 8 (by omega) (by omega) (t.sp.flatMap (encSp true) ++ (Pk.count t.co.length ++ (t.co.flatMap encCo ++ [if t.firm = true then 1#8 else 0#8])))
  have hA : rdA (enc true t) = (some (Pk.count t.co.length ++ (t.co.flatMap encCo ++ [if t.firm = true then 1#8 else 0#8])), t.sp, true) := by
    unfold rdA
    rw [e, c1]
    show rdSps _ true (t.sp.length : Int).toNat = _
    rw [Int.toNat_natCast, rdSps_enc t.sp hsp _ true t.sp.length (Nat.le_refl _)]
    simp
  have c2 := Pk.rd_count t.co.length 8 (by omega) (by omega) (t.co.flatMap encCo ++ [if t.firm = true then 1#8 else 0#8])
  have hB : rdB (enc true t) = (some [if t.firm = true then 1#8 else 0#8], t.co, true) := by
    unfold rdB
    rw [hA]
    show rdCos (Pk.rdCount (some _) 8).1 true (Pk.rdCount (some _) 8).2.toNat = _
    rw [c2]
    show rdCos _ true (t.co.length : Int).toNat = _
    rw [Int.toNat_natCast, rdCos_enc t.co hco _ true t.co.length (Nat.le_refl _)]
    simp
  have hF : rdF (enc true t) = (some [], (if t.firm = true then 1#8 else 0#8 : BitVec 8).setWidth 64) := by
    unfold rdF
    rw [hB]
    exact Pk.first_byte _ []
  refine ⟨⟨by rw [hB], by rw [hF]; cases t.firm <;> decide, by rw [hF]; rfl⟩, ?_⟩
  unfold rdT
  rw [hA, hB, hF]
  obtain ⟨sp, co, firm⟩ := t
  cases firm <;> rfl
/-! what is read is put -/
theorem rdNum_again {s : Pk.Rd} {K : Nat} {C : List (BitVec 8)} (hK : Pk.okSize K) (h : (Pk.rdNum s K).1 = some C) : ∃ B, s = some B ∧ Pk.le (Pk.rdNum s K).2 K ++ C = B := by
  cases s with
  | none => cases h
  | some B =>
    have := Pk.num_again B K C h
    unfold Pk.num at this
    rw [if_pos hK, Int.toNat_natCast] at this
    exact ⟨B, rfl, this⟩
theorem rdText_again {s : Pk.Rd} {z : Int} {C : List (BitVec 8)} (h : (Pk.rdText s z).1 = some C) : ∃ B, s = some B ∧ Pk.text (Pk.rdText s z).2 ++ C = B := by
  cases s with
  | none => rw [rdText_none] at h; cases h
  | some B => exact ⟨B, rfl, Pk.text_again B z C h⟩
theorem rdCount_le (s : Pk.Rd) (most : Int) (h0 : 0 ≤ most) : 0 ≤ (Pk.rdCount s most).2 ∧ (Pk.rdCount s most).2 ≤ most := by
  simp only [Pk.rdCount]
  generalize Pk.rdMore (Pk.rdNum s 1) = p
  obtain ⟨x, y⟩ := p
  cases x with
  | none => exact ⟨Int.le_refl _, h0⟩
  | some B =>
    simp only
    split
    · rename_i h
      exact ⟨by show (0 : Int) ≤ (y.toNat : Int); omega, h.2.1⟩
    · exact ⟨Int.le_refl _, h0⟩
theorem rdText_len (s : Pk.Rd) : (Pk.rdText s 32).2.length ≤ 32 := by
  have hc : (Pk.rdCount s 32).2 ≤ 32 := (rdCount_le s 32 (by omega)).2
  unfold Pk.rdText
  split
  · simp
  · split
    · simp only [List.length_take]
      omega
    · simp
theorem rdHash_len (s : Pk.Rd) : (Pk.rdHash s).2.length = 32 := by
  unfold Pk.rdHash
  cases s with
  | none => simp
  | some B =>
    simp only
    split
    · simp only [List.length_take]
      omega
    · simp
theorem rdHash_again {s : Pk.Rd} {C : List (BitVec 8)} (h : (Pk.rdHash s).1 = some C) : ∃ B, s = some B ∧ (Pk.rdHash s).2 ++ C = B := by
  cases s with
  | none => cases h
  | some B => exact ⟨B, rfl, Pk.hash_again B C h⟩
theorem rdSp_again {s : Pk.Rd} {C : List (BitVec 8)} (h : (rdSp s).1 = some C) : (∃ B, s = some B ∧ encSp true (rdSp s).2.1 ++ C = B) ∧ ((rdSp s).2.2 = true → SpGood (rdSp s).2.1) := by
  unfold rdSp at h ⊢
  simp only at h ⊢
  obtain ⟨B4, h4, e4⟩ := rdNum_again (K := 8) (by unfold Pk.okSize; omega) h
  obtain ⟨B3, h3, e3⟩ := rdText_again h4
  obtain ⟨B2, h2, e2⟩ := rdNum_again (K := 4) (by unfold Pk.okSize; omega) h3
  obtain ⟨B1, h1, e1⟩ := rdHash_again h2
  refine ⟨⟨B1, h1, ?_⟩, fun hg => ⟨rdHash_len s, by show (0 : Int) ≤ ((Pk.rdNum (Pk.rdHash s).1 4).2.toNat : Int); omega, by have := of_decide_eq_true hg; show ((Pk.rdNum (Pk.rdHash s).1 4).2.toNat : Int) ≤ 7; omega, rdText_len _⟩⟩
  rw [← e1, ← e2, ← e3, ← e4]
  unfold encSp
  simp only [if_true, Pk.ofInt_toNat, List.append_assoc]
  rfl
theorem rdCo_again {s : Pk.Rd} {C : List (BitVec 8)} (h : (rdCo s).1 = some C) : (∃ B, s = some B ∧ encCo (rdCo s).2.1 ++ C = B) ∧ CoOk (rdCo s).2.1 ∧ ((rdCo s).2.2 = true → Am.Good (rdCo s).2.1.v) := by
  unfold rdCo at h ⊢
  simp only at h ⊢
  obtain ⟨B2, h2, e2⟩ := rdNum_again (K := 8) (by unfold Pk.okSize; omega) h
  obtain ⟨B1, h1, e1⟩ := rdNum_again (K := 8) (by unfold Pk.okSize; omega) h2
  refine ⟨⟨B1, h1, ?_⟩, ?_, fun hg => of_decide_eq_true hg⟩
  · rw [← e1, ← e2]
    unfold encCo
    simp only [BitVec.ofInt_toInt, List.append_assoc]
    rfl
  · have l1 := BitVec.le_toInt (x := (Pk.rdNum s 8).2)
    have l2 := BitVec.toInt_lt (x := (Pk.rdNum s 8).2)
    exact ⟨by show -9223372036854775808 ≤ (Pk.rdNum s 8).2.toInt; omega, by show (Pk.rdNum s 8).2.toInt < 9223372036854775808; omega⟩
theorem rdSps_again (s : Pk.Rd) (ok : Bool) : ∀ (k : Nat) (C : List (BitVec 8)), (rdSps s ok k).1 = some C → (∃ B, s = some B ∧ (rdSps s ok k).2.1.flatMap (encSp true) ++ C = B) ∧ (rdSps s ok k).2.1.length = k ∧ ((rdSps s ok k).2.2 = true → ok = true ∧ ∀ u, u ∈ (rdSps s ok k).2.1 → SpGood u)
  | 0, C, h => ⟨⟨C, h, rfl⟩, rfl, fun e => ⟨e, fun u hu => by cases hu⟩⟩
  | k + 1, C, h => by
    have h' : (rdSp (rdSps s ok k).1).1 = some C := h
    obtain ⟨⟨B1, h1, e1⟩, g1⟩ := rdSp_again h'
    obtain ⟨⟨B0, h0, e0⟩, l0, g0⟩ := rdSps_again s ok k B1 h1
    show (∃ B, s = some B ∧ ((rdSps s ok k).2.1 ++ [(rdSp (rdSps s ok k).1).2.1]).flatMap (encSp true) ++ C = B) ∧ ((rdSps s ok k).2.1 ++ [(rdSp (rdSps s ok k).1).2.1]).length = k + 1 ∧ (((rdSps s ok k).2.2 && (rdSp (rdSps s ok k).1).2.2) = true → ok = true ∧ ∀ u, u ∈ (rdSps s ok k).2.1 ++ [(rdSp (rdSps s ok k).1).2.1] → SpGood u)
    refine ⟨⟨B0, h0, ?_⟩, by rw [List.length_append, l0]; rfl, fun hg => ?_⟩
    · rw [← e0, ← e1]
      simp
    · rw [Bool.and_eq_true] at hg
      refine ⟨(g0 hg.1).1, fun u hu => ?_⟩
      rcases List.mem_append.1 hu with h | h
      · exact (g0 hg.1).2 u h
      · rw [List.mem_singleton.1 h]
        exact g1 hg.2
theorem rdCos_again (s : Pk.Rd) (ok : Bool) : ∀ (k : Nat) (C : List (BitVec 8)), (rdCos s ok k).1 = some C → (∃ B, s = some B ∧ (rdCos s ok k).2.1.flatMap encCo ++ C = B) ∧ (rdCos s ok k).2.1.length = k ∧ ((rdCos s ok k).2.2 = true → ok = true ∧ ∀ u, u ∈ (rdCos s ok k).2.1 → CoOk u ∧ Am.Good u.v)
  | 0, C, h => ⟨⟨C, h, rfl⟩, rfl, fun e => ⟨e, fun u hu => by cases hu⟩⟩
  | k + 1, C, h => by
    have h' : (rdCo (rdCos s ok k).1).1 = some C := h
    obtain ⟨⟨B1, h1, e1⟩, k1, g1⟩ := rdCo_again h'
    obtain ⟨⟨B0, h0, e0⟩, l0, g0⟩ := rdCos_again s ok k B1 h1
    show (∃ B, s = some B ∧ ((rdCos s ok k).2.1 ++ [(rdCo (rdCos s ok k).1).2.1]).flatMap encCo ++ C = B) ∧ ((rdCos s ok k).2.1 ++ [(rdCo (rdCos s ok k).1).2.1]).length = k + 1 ∧ (((rdCos s ok k).2.2 && (rdCo (rdCos s ok k).1).2.2) = true → ok = true ∧ ∀ u, u ∈ (rdCos s ok k).2.1 ++ [(rdCo (rdCos s ok k).1).2.1] → CoOk u ∧ Am.Good u.v)
    refine ⟨⟨B0, h0, ?_⟩, by rw [List.length_append, l0]; rfl, fun hg => ?_⟩
    · rw [← e0, ← e1]
      simp
    · rw [Bool.and_eq_true] at hg
      refine ⟨(g0 hg.1).1, fun u hu => ?_⟩
      rcases List.mem_append.1 hu with h | h
      · exact (g0 hg.1).2 u h
      · rw [List.mem_singleton.1 h]
        exact ⟨k1, g1 hg.2⟩
theorem rdCount_again {s : Pk.Rd} {C : List (BitVec 8)} (h : (Pk.rdCount s 8).1 = some C) : (∃ B, s = some B ∧ Pk.count (Pk.rdCount s 8).2 ++ C = B) ∧ 0 ≤ (Pk.rdCount s 8).2 ∧ (Pk.rdCount s 8).2 ≤ 8 := by
  have hc := rdCount_le s 8 (by omega)
  refine ⟨?_, hc⟩
  cases s with
  | none =>
    exfalso
    unfold Pk.rdCount Pk.rdMore at h
    rw [rdNum_none] at h
    cases h
  | some B => exact ⟨B, rfl, Pk.count_again B 8 C h⟩
/-- what is read whole is put as it was; and is as it must be -/
theorem enc_read (B : List (BitVec 8)) (h : rdOk B) : enc true (rdT B) = B ∧ (rdT B).sp.length ≤ 8 ∧ (rdT B).co.length ≤ 8 ∧ (∀ s, s ∈ (rdT B).sp → SpGood s) ∧ (∀ c, c ∈ (rdT B).co → CoOk c ∧ Am.Good c.v) := by
  obtain ⟨hok, hle, hend⟩ := h
  have hF : (rdF B).1 = some [] := by
    unfold Pk.atEnd at hend
    split at hend
    · assumption
    · cases hend
  obtain ⟨C3, h3, e3⟩ := rdNum_again (s := (rdB B).1) (K := 1) (by unfold Pk.okSize; omega) hF
  obtain ⟨⟨C2, h2, e2⟩, l2, g2⟩ := rdCos_again _ _ _ C3 h3
  obtain ⟨⟨C1, h1, e1⟩, k1, k2⟩ := rdCount_again h2
  obtain ⟨⟨C0, h0, e0⟩, l0, g0⟩ := rdSps_again _ _ _ C1 h1
  obtain ⟨⟨D, hD, eD⟩, j1, j2⟩ := rdCount_again h0
  obtain rfl : B = D := by injection hD
  have hg2 := g2 hok
  have hg0 := g0 hg2.1
  refine ⟨?_, by show (rdA B).2.1.length ≤ 8; unfold rdA; rw [l0]; omega, by show (rdB B).2.1.length ≤ 8; unfold rdB; rw [l2]; omega, hg0.2, hg2.2⟩
  have eb : Pk.le (rdF B).2 1 = [if decide ((rdF B).2 = 1#64) = true then 1#8 else 0#8] := by
    have hx : (rdF B).2 = 0#64 ∨ (rdF B).2 = 1#64 := by
      rcases Nat.lt_or_ge (rdF B).2.toNat 1 with q | q
      · left; apply BitVec.eq_of_toNat_eq; simp; omega
      · right; apply BitVec.eq_of_toNat_eq; simp; omega
    rcases hx with q | q <;> rw [q] <;> decide
  have n1 : (((rdA B).2.1.length : Nat) : Int) = (Pk.rdCount (some B) 8).2 := by show (((rdSps _ _ _).2.1.length : Nat) : Int) = _; rw [l0]; omega
  have n2 : (((rdB B).2.1.length : Nat) : Int) = (Pk.rdCount (rdA B).1 8).2 := by show (((rdCos _ _ _).2.1.length : Nat) : Int) = _; rw [l2]; omega
  show Pk.count ((rdA B).2.1.length : Nat) ++ (rdA B).2.1.flatMap (encSp true) ++ Pk.count ((rdB B).2.1.length : Nat) ++ (rdB B).2.1.flatMap encCo ++ [if decide ((rdF B).2 = 1#64) = true then 1#8 else 0#8] = B
  rw [n1, n2, ← eb]
  have e3' : Pk.le (rdF B).2 1 = C3 := by rw [← e3, List.append_nil]; rfl
  rw [e3', List.append_assoc, List.append_assoc, List.append_assoc]
  show _ ++ ((rdSps _ _ _).2.1.flatMap (encSp true) ++ (_ ++ ((rdCos _ _ _).2.1.flatMap encCo ++ C3))) = B
  rw [e2, e1, e0, eD]
end Go.Proofs.YtpbijcchdjppmaaDoor.Tx
