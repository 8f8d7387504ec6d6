/- What the polynomials' laws compare. -/
import Derived.Test.YtlackhjlnoefcaaPoL
namespace Go.Proofs.Ytlackhjlnoefcaa
open Go Go.RowKit
/-- two slices of words, as a slice -/
def two {α : Type} (x y : α) (i : Nat) : α := if i = 0 then x else y
theorem rows_two (w : World) (a b : Option Addr) (n c m d : Nat) (la lb : List (BitVec 32)) (ha : Words32 w a n la) (hb : Words32 w b m lb) (hac : n ≤ c) (hbd : m ≤ d) (t : TypeId) :
    WRows (w.alloc (.cells #[.slice a n c, .slice b m d] t)) (some ⟨w.heap.size, 0, none⟩) 2 (two a b) (two n m) (two c d) (two la lb) := by
  refine ⟨by omega, fun i hi => ?_⟩
  rcases i with _ | _ | i
  · exact ⟨⟨_, rfl, by rw [Addr.add_mid, (Has.fresh w t _).cell]; rfl⟩, ha.past _, hac⟩
  · exact ⟨⟨_, rfl, by rw [Addr.add_mid, (Has.fresh w t _).cell]; rfl⟩, hb.past _, hbd⟩
  · omega
theorem rows_one (w : World) (a : Option Addr) (n c : Nat) (la : List (BitVec 32)) (ha : Words32 w a n la) (hac : n ≤ c) (t : TypeId) :
    WRows (w.alloc (.cells #[.slice a n c] t)) (some ⟨w.heap.size, 0, none⟩) 1 (fun _ => a) (fun _ => n) (fun _ => c) (fun _ => la) := by
  refine ⟨by omega, fun i hi => ?_⟩
  obtain rfl : i = 0 := by omega
  exact ⟨⟨_, rfl, by rw [Addr.add_mid, (Has.fresh w t _).cell]; rfl⟩, ha.past _, hac⟩
theorem long_two (n m : Nat) : decide (24 < n ∨ 24 < m) = true ↔ ∃ i, i < 2 ∧ 24 < two n m i := by
  rw [decide_eq_true_eq]
  constructor
  · rintro (h | h)
    · exact ⟨0, by omega, h⟩
    · exact ⟨1, by omega, h⟩
  · rintro ⟨i, hi, h⟩
    rcases i with _ | _ | i
    · exact .inl h
    · exact .inr h
    · omega
theorem long_one (n : Nat) : decide (24 < n) = true ↔ ∃ i, i < 1 ∧ 24 < (fun _ => n) i := by
  rw [decide_eq_true_eq]
  exact ⟨fun h => ⟨0, by omega, h⟩, fun ⟨_, _, h⟩ => h⟩
theorem two_le {n m B : Nat} (hn : n ≤ B) (hm : m ≤ B) : ∀ i, i < 2 → two n m i ≤ B := fun i _ => by
  unfold two
  split <;> assumption
theorem long_yes {n m : Nat} (h : 24 < n ∨ 24 < m) : true = true ↔ ∃ i, i < 2 ∧ 24 < two n m i := ⟨fun _ => (long_two n m).1 (decide_eq_true h), fun _ => rfl⟩
theorem long_no {n m : Nat} (hn : n ≤ 24) (hm : m ≤ 24) : false = true ↔ ∃ i, i < 2 ∧ 24 < two n m i := ⟨fun h => (Bool.false_ne_true h).elim, fun h => by
  have := of_decide_eq_true ((long_two n m).2 h)
  omega⟩
theorem long_yes1 {n : Nat} (h : 24 < n) : true = true ↔ ∃ i, i < 1 ∧ 24 < (fun _ => n) i := ⟨fun _ => (long_one n).1 (decide_eq_true h), fun _ => rfl⟩
theorem long_no1 {n : Nat} (hn : n ≤ 24) : false = true ↔ ∃ i, i < 1 ∧ 24 < (fun _ => n) i := ⟨fun h => (Bool.false_ne_true h).elim, fun h => by
  have := of_decide_eq_true ((long_one n).2 h)
  omega⟩
namespace Po
def addL (a b : List E) : List E := trim (mk (longF (two a b) 2) (sumF (two a b) 2))
theorem addL_norm (a b : List E) : Norm (addL a b) (addF (cf a) (cf b)) := by
  have hs : sumF (two a b) 2 = addF (cf a) (cf b) := by
    show addF (addF (fun _ => 0) (cf a)) (cf b) = _
    rw [zero_addF]
  have h := Norm.trim (mk (longF (two a b) 2) (sumF (two a b) 2))
  refine ⟨h.1, h.2.trans ((cf_mk_all (fun i hi => by
    rw [hs]
    show cf a i ^^^ cf b i = 0
    have h0 := len1_longF (two a b) 2 0 (by omega)
    have h1 := len1_longF (two a b) 2 1 (by omega)
    have e0 : two a b 0 = a := rfl
    have e1 : two a b 1 = b := rfl
    rw [e0] at h0
    rw [e1] at h1
    rw [cf_len1 a (by omega), cf_len1 b (by omega)]; rfl)).trans hs)⟩
theorem mulR_norm (a b : List E) : Norm (mulR a b) (mulL a (cf b)) := ⟨trim_self (mulR_len a b), cf_mulR a b⟩
theorem scale_norm (a : List E) (x : E) : Norm (mulR a [x]) (sclF x (cf a)) := ⟨trim_self (mulR_len _ _), by rw [cf_mulR, mulL_comm, mulL_single]⟩
def derL (a : List E) : List E := trim (mk a.length (dvK (cf a) a.length))
theorem derL_norm (a : List E) : Norm (derL a) (dvF (cf a)) := by
  have hd : dvK (cf a) a.length = dvF (cf a) := by
    funext i
    unfold dvK dvF
    by_cases h : i % 2 = 0
    · rw [if_pos h]
      by_cases h2 : i + 1 < a.length
      · rw [if_pos ⟨h, h2⟩]
      · rw [if_neg (by omega), cf_ge (by omega)]
    · rw [if_neg (by omega), if_neg h]
  have h := Norm.trim (mk a.length (dvK (cf a) a.length))
  exact ⟨h.1, h.2.trans ((cf_mk_all (fun i hi => by rw [dvK, if_neg (by omega)])).trans hd)⟩
theorem sqL_cf (a : List E) : cf (sqL a) = mulL a (cf a) := by
  have aux : ∀ (p : List E) (i : Nat), mulL p (cf p) i = if i % 2 = 0 then Gf.square (cf p (i / 2)) else 0 := by
    intro p
    induction p with
    | nil =>
      intro i
      rw [cf_nil]
      show (0 : E) = if i % 2 = 0 then Gf.square 0 else 0
      rw [show Gf.square (0 : E) = 0 from Gf.lin_square.zero]
      split <;> rfl
    | cons a p ih =>
      intro i
      have hc : cf (a :: p) = addF (sclF a oneF) (X (cf p)) := by
        funext j
        cases j with
        | zero => show cf (a :: p) 0 = Gf.mul a 1 ^^^ 0; rw [cf_zero, Gf.mul_one, xz]
        | succ j => show cf (a :: p) (j + 1) = Gf.mul a 0 ^^^ cf p j; rw [cf_cons, Gf.mul_zero, zx]
      have e : mulL (a :: p) (cf (a :: p)) = addF (sclF (Gf.mul a a) oneF) (X (X (mulL p (cf p)))) := by
        rw [mulL, hc, mulL_add, mulL_scl, mulL_oneF, mulL_X, sclF_add, X_add, X_scl]
        have e1 : sclF a (sclF a oneF) = sclF (Gf.mul a a) oneF := by funext j; exact (Gf.mul_assoc _ _ _).symm
        rw [e1, addF_assoc, ← addF_assoc (sclF a (X (cf p))), addF_self, zero_addF]
      rw [e]
      rcases i with _ | _ | i
      · show Gf.mul (Gf.mul a a) 1 ^^^ 0 = Gf.square a
        rw [Gf.mul_one, xz, Gf.square_eq]
      · show Gf.mul (Gf.mul a a) 0 ^^^ 0 = 0
        rw [Gf.mul_zero]; rfl
      · show Gf.mul (Gf.mul a a) 0 ^^^ mulL p (cf p) i = _
        rw [Gf.mul_zero, zx, ih i, show (i + 1 + 1) % 2 = i % 2 from by omega, show (i + 1 + 1) / 2 = i / 2 + 1 from by omega, cf_cons]
  funext i
  rw [aux a i, sqL, cf_mk]
  unfold sqF
  by_cases h : i % 2 = 0
  · rw [if_pos h]
    by_cases h2 : i / 2 < len1 a
    · rw [if_pos (by omega), if_pos ⟨h, h2⟩]
    · rw [if_neg (by omega), cf_len1 a (by omega), show Gf.square (0 : E) = 0 from Gf.lin_square.zero]
  · rw [if_neg h]
    split
    · rw [if_neg (fun hh => h hh.1)]
    · rfl
theorem qr_congr {a a' b : List E} (h : cf a = cf a') (hb : len1 b ≠ 0) : qr a b = qr a' b := by
  have h1 := qr_spec a hb
  have h2 : IsDiv a' b (qr a b).1 (qr a b).2 := ⟨h1.tq, h1.tr, by rw [← h]; exact h1.eq, h1.lt⟩
  exact h2.qr.symm
end Po
end Go.Proofs.Ytlackhjlnoefcaa
