/- counts as the package reads them; what was put is read, what was read is put again. Nothing of the program. -/
import Derived.Test.YtcedecljbgailaaDoorPkE
namespace Go.Proofs.YtcedecljbgailaaDoor.Pk
open Go.Proofs.YtcedecljbgailaaDoor
theorem count_len (n : Nat) : (count n).length = if n ≤ 252 then 1 else if n ≤ 65535 then 3 else if n ≤ 4294967295 then 5 else 9 := by
  unfold count
  rw [if_neg (by omega)]
  by_cases h1 : n ≤ 252
  · rw [if_pos (by omega), if_pos h1, le_len]
  · rw [if_neg (by omega), if_neg h1]
    by_cases h2 : n ≤ 65535
    · rw [if_pos (by omega), if_pos h2, List.length_append, le_len]; rfl
    · rw [if_neg (by omega), if_neg h2]
      by_cases h3 : n ≤ 4294967295
      · rw [if_pos (by omega), if_pos h3, List.length_append, le_len]; rfl
      · rw [if_neg (by omega), if_neg h3, List.length_append, le_len]; rfl
theorem shl_or (x : BitVec 64) (y : BitVec 8) : 256#64 * x + y.setWidth 64 = x <<< 8 ||| y.setWidth 64 := by
  rw [show 256#64 * x = x <<< 8 by
    apply BitVec.eq_of_toNat_eq
    rw [BitVec.toNat_mul, BitVec.toNat_shiftLeft, Nat.shiftLeft_eq, Nat.mul_comm]
    rfl]
  refine BitVec.add_eq_or_of_and_eq_zero _ _ ?_
  apply BitVec.eq_of_getLsbD_eq
  intro i hi
  rw [BitVec.getLsbD_and, BitVec.getLsbD_shiftLeft, BitVec.getLsbD_setWidth, BitVec.getLsbD_zero]
  by_cases h : i < 8
  · simp [h]
  · rw [BitVec.getLsbD_of_ge y i (by omega)]
    simp
theorem leV_bit (B : List (BitVec 8)) : ∀ (k i m : Nat), m < 64 → (leV B i k).getLsbD m = (decide (m < 8 * k) && (cb B (i + m / 8)).getLsbD (m % 8))
  | 0, i, m, _ => by simp [leV]
  | k + 1, i, m, hm => by
    show (256#64 * leV B (i + 1) k + (cb B i).setWidth 64).getLsbD m = _
    rw [shl_or, BitVec.getLsbD_or, BitVec.getLsbD_shiftLeft, BitVec.getLsbD_setWidth]
    by_cases h : m < 8
    · have e1 : m / 8 = 0 := by omega
      have e2 : m % 8 = m := by omega
      rw [e1, e2]
      simp [h, hm, show m < 8 * (k + 1) by omega]
    · rw [leV_bit B k (i + 1) (m - 8) (by omega), BitVec.getLsbD_of_ge (cb B i) m (by omega)]
      have e1 : i + 1 + (m - 8) / 8 = i + m / 8 := by omega
      have e2 : (m - 8) % 8 = m % 8 := by omega
      rw [e1, e2]
      by_cases h2 : m < 8 * (k + 1)
      · simp [h, hm, h2, show m - 8 < 8 * k by omega]
      · simp [h2, show ¬ m - 8 < 8 * k by omega]
theorem leV_lt (B : List (BitVec 8)) : ∀ (k i : Nat), (leV B i k).toNat < 256 ^ k
  | 0, _ => by simp [leV]
  | k + 1, i => by
    have h := leV_lt B k (i + 1)
    have hb := (cb B i).isLt
    show (256#64 * leV B (i + 1) k + (cb B i).setWidth 64).toNat < _
    rw [BitVec.toNat_add, BitVec.toNat_mul, BitVec.toNat_setWidth, show (256#64).toNat = 256 from rfl, Nat.pow_succ]
    rw [Nat.mod_add_mod]
    refine Nat.lt_of_le_of_lt (Nat.mod_le _ _) ?_
    have h3 : (cb B i).toNat % 2 ^ 64 = (cb B i).toNat := Nat.mod_eq_of_lt (by omega)
    rw [h3]
    omega
theorem le_cb (x : BitVec 64) (K j : Nat) (h : j < K) (r : List (BitVec 8)) : cb (le x K ++ r) j = (x >>> (8 * j)).setWidth 8 := by
  unfold cb
  rw [List.getD_eq_getElem?_getD, List.getElem?_append_left (by rw [le_len]; exact h)]
  unfold le
  rw [List.getElem?_map, List.getElem?_range h]
  rfl
/-- what was put is read: a number -/
theorem leV_le (x : BitVec 64) (K : Nat) (hK : K ≤ 8) (r : List (BitVec 8)) : leV (le x K ++ r) 0 K = (x <<< (64 - 8 * K)) >>> (64 - 8 * K) := by
  apply BitVec.eq_of_getLsbD_eq
  intro m hm
  rw [leV_bit _ _ _ _ hm, BitVec.getLsbD_ushiftRight, BitVec.getLsbD_shiftLeft, Nat.zero_add]
  by_cases h : m < 8 * K
  · rw [le_cb x K (m / 8) (by omega) r, BitVec.getLsbD_setWidth, BitVec.getLsbD_ushiftRight, show 8 * (m / 8) + m % 8 = m by omega]
    simp [h, show 64 - 8 * K + m < 64 by omega, show m % 8 < 8 by omega]
  · simp [h, show ¬ 64 - 8 * K + m < 64 by omega]
theorem leV_byte (B : List (BitVec 8)) (K j : Nat) (hK : K ≤ 8) (hj : j < K) : ((leV B 0 K) >>> (8 * j)).setWidth 8 = cb B j := by
  apply BitVec.eq_of_getLsbD_eq
  intro m hm
  rw [BitVec.getLsbD_setWidth, BitVec.getLsbD_ushiftRight, leV_bit _ _ _ _ (by omega), Nat.zero_add, show (8 * j + m) / 8 = j by omega, show (8 * j + m) % 8 = m by omega]
  simp [hm, show 8 * j + m < 8 * K by omega]
/-- what was read is put again: a number -/
theorem le_leV (B : List (BitVec 8)) (K : Nat) (hK : K ≤ 8) (hB : K ≤ B.length) : le (leV B 0 K) K = B.take K := by
  apply List.ext_getElem?
  intro j
  unfold le
  rw [List.getElem?_map, List.getElem?_take]
  by_cases h : j < K
  · rw [List.getElem?_range h, if_pos h, Option.map_some, leV_byte B K j hK h, cb, List.getD_eq_getElem?_getD, List.getElem?_eq_getElem (by omega)]
    rfl
  · rw [if_neg h, List.getElem?_eq_none (by simp; omega)]
    rfl
/-! counts, as the package reads them -/
def above (s : Rd) (o : Nat) (z : Int) : Rd × BitVec 64 := if (rdNum s z).2.toNat ≤ o then (none, 0) else rdNum s z
def cdMore (p : Rd × BitVec 64) : Rd × BitVec 64 := if p.2 = 253#64 then above p.1 252 2 else if p.2 = 254#64 then above p.1 65535 4 else if p.2 = 255#64 then above p.1 4294967295 8 else p
def cdCount (s : Rd) (most : Int) : Rd × Int := if most < 0 ∨ most < (cdMore (rdNum s 1)).2.toNat then (none, 0) else ((cdMore (rdNum s 1)).1, (cdMore (rdNum s 1)).2.toNat)
theorem above_none (o : Nat) (z : Int) : above none o z = (none, 0) := by
  unfold above
  rw [if_pos (by show (0#64).toNat ≤ o; simp)]
/-- a count's bytes behind the first -/
theorem more_eq (most : Int) (b : BitVec 8) (r : List (BitVec 8)) (o K : Nat) (hok : okSize K) (hK : K = 2 ∧ o = 252 ∨ K = 4 ∧ o = 65535 ∨ K = 8 ∧ o = 4294967295) :
    (if most < 0 ∨ most < (above (some r) o K).2.toNat then ((none, 0) : Rd × Int) else ((above (some r) o K).1, ((above (some r) o K).2.toNat : Int))) =
      match (rdNum (some r) K).1 with
      | none => (none, 0)
      | some B => if 0 ≤ most ∧ ((rdNum (some r) K).2.toNat : Int) ≤ most ∧ (count (rdNum (some r) K).2.toNat).length + B.length = (left (some (b :: r))).length then (some B, ((rdNum (some r) K).2.toNat : Int)) else (none, 0) := by
  by_cases hr : K ≤ r.length
  · have e : rdNum (some r) K = (some (r.drop K), leV r 0 K) := by
      show (if okSize K ∧ (K : Int) ≤ r.length then _ else _) = _
      rw [if_pos ⟨hok, by omega⟩]
      rfl
    have hv := leV_lt r K 0
    unfold above
    rw [e]
    dsimp only
    generalize leV r 0 K = v at hv
    have hl : (r.drop K).length = r.length - K := List.length_drop
    have hb : (left (some (b :: r))).length = r.length + 1 := rfl
    rw [hb, hl]
    have hcl := count_len v.toNat
    by_cases h1 : v.toNat ≤ o
    · rw [if_pos h1]
      have hn : ¬ (0 ≤ most ∧ (v.toNat : Int) ≤ most ∧ (count v.toNat).length + (r.length - K) = r.length + 1) := by
        rintro ⟨_, _, h⟩
        rw [hcl] at h
        rcases hK with ⟨rfl, rfl⟩ | ⟨rfl, rfl⟩ | ⟨rfl, rfl⟩
        · rw [if_pos h1] at h; omega
        · by_cases h2 : v.toNat ≤ 252
          · rw [if_pos h2] at h; omega
          · rw [if_neg h2, if_pos h1] at h; omega
        · by_cases h2 : v.toNat ≤ 252
          · rw [if_pos h2] at h; omega
          · rw [if_neg h2] at h
            by_cases h3 : v.toNat ≤ 65535
            · rw [if_pos h3] at h; omega
            · rw [if_neg h3, if_pos h1] at h; omega
      dsimp only
      rw [if_neg hn]
      split
      · rfl
      · rfl
    · rw [if_neg h1]
      dsimp only
      have hlen : (count v.toNat).length + (r.length - K) = r.length + 1 := by
        rw [hcl]
        rcases hK with ⟨rfl, rfl⟩ | ⟨rfl, rfl⟩ | ⟨rfl, rfl⟩
        · rw [if_neg h1, if_pos (by omega)]; omega
        · rw [if_neg (by omega), if_neg h1, if_pos (by omega)]; omega
        · rw [if_neg (by omega), if_neg (by omega), if_neg h1]; omega
      have hn : (0 ≤ most ∧ (v.toNat : Int) ≤ most ∧ (count v.toNat).length + (r.length - K) = r.length + 1) ↔ ¬ (most < 0 ∨ most < (v.toNat : Int)) := by omega
      by_cases h2 : most < 0 ∨ most < (v.toNat : Int)
      · rw [if_pos h2, if_neg (fun h => hn.1 h h2)]
      · rw [if_neg h2, if_pos (hn.2 h2)]
  · have e : rdNum (some r) K = (none, 0) := by
      show (if okSize K ∧ (K : Int) ≤ r.length then _ else _) = _
      rw [if_neg (by omega)]
    have e2 : above (some r) o K = (none, 0) := by
      unfold above
      rw [e, if_pos (by show (0#64).toNat ≤ o; simp)]
    rw [e, e2]
    dsimp only
    split
    · rfl
    · rfl
theorem cdCount_eq (s : Rd) (most : Int) : cdCount s most = rdCount s most := by
  have h00 : ∀ (t : Rd), (if most < 0 ∨ most < ((0#64).toNat : Int) then ((none, 0) : Rd × Int) else (none, ((0#64).toNat : Int))) = (none, 0) := fun _ => by
    split
    · rfl
    · rfl
  cases s with
  | none => exact h00 none
  | some B =>
    cases B with
    | nil => exact h00 none
    | cons b r =>
      have e : rdNum (some (b :: r)) 1 = (some r, b.setWidth 64) := by
        show (if okSize 1 ∧ (1 : Int) ≤ ((b :: r).length : Nat) then _ else _) = _
        rw [if_pos ⟨.inl rfl, by simp; omega⟩]
        show (some r, 256#64 * 0#64 + (cb (b :: r) 0).setWidth 64) = _
        simp [cb]
      have hb : (b.setWidth 64).toNat = b.toNat := by
        rw [BitVec.toNat_setWidth]
        have := b.isLt
        omega
      have hlt := b.isLt
      unfold cdCount rdCount
      dsimp only
      rw [e]
      unfold cdMore rdMore
      dsimp only
      by_cases h3 : b.setWidth 64 = 253#64
      · have h3n : b.toNat = 253 := by rw [← hb, h3]; rfl
        rw [if_pos h3, h3, if_pos (show 253 ≤ (253#64).toNat from by decide)]
        exact more_eq most b r 252 2 (.inr (.inl rfl)) (.inl ⟨rfl, rfl⟩)
      · rw [if_neg h3]
        have n3 : b.toNat ≠ 253 := fun h => h3 (BitVec.eq_of_toNat_eq (by rw [hb, h]; rfl))
        by_cases h4 : b.setWidth 64 = 254#64
        · have h4n : b.toNat = 254 := by rw [← hb, h4]; rfl
          rw [if_pos h4, h4, if_pos (show 253 ≤ (254#64).toNat from by decide)]
          exact more_eq most b r 65535 4 (.inr (.inr (.inl rfl))) (.inr (.inl ⟨rfl, rfl⟩))
        · rw [if_neg h4]
          have n4 : b.toNat ≠ 254 := fun h => h4 (BitVec.eq_of_toNat_eq (by rw [hb, h]; rfl))
          by_cases h5 : b.setWidth 64 = 255#64
          · have h5n : b.toNat = 255 := by rw [← hb, h5]; rfl
            rw [if_pos h5, h5, if_pos (show 253 ≤ (255#64).toNat from by decide)]
            exact more_eq most b r 4294967295 8 (.inr (.inr (.inr rfl))) (.inr (.inr ⟨rfl, rfl⟩))
          · rw [if_neg h5]
            have n5 : b.toNat ≠ 255 := fun h => h5 (BitVec.eq_of_toNat_eq (by rw [hb, h]; rfl))
            have hq : ¬ 253 ≤ (b.setWidth 64).toNat := by rw [hb]; omega
            rw [if_neg hq]
            dsimp only
            rw [hb]
            have hcl : (count b.toNat).length = 1 := by rw [count_len, if_pos (show b.toNat ≤ 252 by omega)]
            have hbl : (left (some (b :: r))).length = r.length + 1 := rfl
            rw [hbl, hcl]
            by_cases h2 : most < 0 ∨ most < (b.toNat : Int)
            · rw [if_pos h2, if_neg (by omega)]
            · rw [if_neg h2, if_pos ⟨by omega, by omega, by omega⟩]
end Go.Proofs.YtcedecljbgailaaDoor.Pk
