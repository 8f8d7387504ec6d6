/- Divisors of polynomials; polynomials of roots. Nothing of the program. -/
import Derived.Test.YtlackhjlnoefcaaPoE
namespace Go.Proofs.Ytlackhjlnoefcaa.Po
open Go.Proofs.Ytlackhjlnoefcaa
theorem IsDiv.ex_len {a b : List E} (hb : len1 b ≠ 0) : ∀ (k : Nat) (R Q : Nat → E), k ≤ len1 a → DivInv a b k R Q → ∃ q r, IsDiv a b q r ∧ q.length ≤ len1 a
  | k, R, Q, hk, h => by
    by_cases hlt : k < len1 b
    · exact ⟨_, _, h.done hlt hk, by rw [mk_length]; omega⟩
    · cases k with
      | zero => omega
      | succ k => exact IsDiv.ex_len hb k _ _ (by omega) (h.step hb (by omega) (by omega))
theorem qr_len (a : List E) {b : List E} (hb : len1 b ≠ 0) : (qr a b).1.length ≤ len1 a ∧ (qr a b).2.length < len1 b := by
  obtain ⟨q, r, h, hl⟩ := IsDiv.ex_len (a := a) hb (len1 a) _ _ (Nat.le_refl _) (DivInv.start a b)
  rw [h.qr]
  have h1 := trim_length r
  rw [h.tr] at h1
  have := h.lt
  exact ⟨hl, by show r.length < len1 b; omega⟩
theorem qr_back (a : List E) {b : List E} (hb : len1 b ≠ 0) : addL (mulR (qr a b).1 b) (qr a b).2 = trim a := by
  have h := qr_spec a hb
  have h1 := addL_norm (mulR (qr a b).1 b) (qr a b).2
  rw [cf_mulR, mulL_comm, ← h.eq] at h1
  exact h1.unique (Norm.trim a)

/-- c divides a -/
def Dv (c a : List E) : Prop := ∃ u, cf a = mulL c (cf u)
theorem mk_of {F : Nat → E} {n : Nat} (h : ∀ i, n ≤ i → F i = 0) : ∃ l, cf l = F := ⟨mk n F, cf_mk_all h⟩
theorem lmul (p q : List E) : ∃ l, cf l = mulL p (cf q) := ⟨mulR p q, cf_mulR p q⟩
theorem lscl (c : E) (q : List E) : ∃ l, cf l = sclF c (cf q) := by
  obtain ⟨l, h⟩ := lmul [c] q
  exact ⟨l, by rw [h, mulL_single]⟩
theorem Dv.add {c a b s : List E} (ha : Dv c a) (hb : Dv c b) (hs : cf s = addF (cf a) (cf b)) : Dv c s := by
  obtain ⟨u, hu⟩ := ha
  obtain ⟨v, hv⟩ := hb
  obtain ⟨t, ht⟩ := sumL u v
  exact ⟨t, by rw [hs, ht, hu, hv, mulL_add]⟩
theorem Dv.mul {c a s : List E} (ha : Dv c a) (q : List E) (hs : cf s = mulL q (cf a)) : Dv c s := by
  obtain ⟨u, hu⟩ := ha
  obtain ⟨t, ht⟩ := lmul q u
  exact ⟨t, by rw [hs, ht, hu, mulL_swap]⟩
theorem Dv.scl {c a s : List E} (ha : Dv c a) (x : E) (hs : cf s = sclF x (cf a)) : Dv c s := ha.mul [x] (by rw [hs, mulL_single])
theorem Dv.congr {c a b : List E} (ha : Dv c a) (h : cf a = cf b) : Dv c b := by
  obtain ⟨u, hu⟩ := ha
  exact ⟨u, by rw [← h, hu]⟩
theorem Dv.zero {c a : List E} (h : len1 a = 0) : Dv c a := ⟨[], by rw [(len1_zero_iff a).1 h, cf_nil, mulL_zero]⟩
theorem Dv.refl (c : List E) : Dv c c := ⟨[1], by rw [cf_one, mulL_oneF]⟩
/-- what divides leaves no rest -/
theorem Dv.rest {c a : List E} (h : Dv c a) (hc : len1 c ≠ 0) : (qr a c).2 = [] := by
  obtain ⟨u, hu⟩ := h
  have h1 : IsDiv a c (trim u) [] := ⟨trim_trim u, rfl, by rw [cf_trim, cf_nil, addF_zero]; exact hu, by
    have : len1 ([] : List E) = 0 := rfl
    omega⟩
  rw [h1.qr]
theorem monic_len {a : List E} (h : len1 a ≠ 0) : len1 (monic a) = len1 a ∧ cf (monic a) (len1 a - 1) = 1 := by
  have hm := (monic_norm h).2
  have h1 : cf (monic a) (len1 a - 1) = 1 := by
    rw [hm]
    show Gf.mul (Gf.inv (cf a (len1 a - 1))) (cf a (len1 a - 1)) = 1
    rw [Gf.mul_comm, Gf.mul_inv (len1_ne h)]
  refine ⟨len1_eq (fun i hi => ?_) (fun _ => ?_), h1⟩
  · rw [hm]
    show Gf.mul _ (cf a i) = 0
    rw [cf_len1 a hi, Gf.mul_zero]
  · rw [h1]
    decide
theorem Gcd.main {a b g : List E} (h : Gcd a b g) : ((len1 a = 0 ∧ len1 b = 0) → g = []) ∧ (¬ (len1 a = 0 ∧ len1 b = 0) → len1 g ≠ 0 ∧ cf g (len1 g - 1) = 1 ∧ len1 g = g.length ∧ Dv g a ∧ Dv g b ∧ ∀ c, Dv c a → Dv c b → Dv c g) := by
  induction h with
  | @base a b hb =>
    constructor
    · rintro ⟨ha, _⟩
      rw [monic, if_pos ha]
    · intro hn
      have ha : len1 a ≠ 0 := fun e => hn ⟨e, hb⟩
      obtain ⟨h1, h2⟩ := monic_len ha
      have hm := (monic_norm ha).2
      refine ⟨by omega, by rw [h1]; exact h2, ?_, ⟨[cf a (len1 a - 1)], ?_⟩, Dv.zero hb, fun c hc _ => hc.scl _ hm⟩
      · have := (monic_norm ha).len1
        exact this
      · rw [mulL_comm, mulL_single, hm]
        funext i
        show cf a i = Gf.mul (cf a (len1 a - 1)) (Gf.mul (Gf.inv (cf a (len1 a - 1))) (cf a i))
        rw [← Gf.mul_assoc, Gf.mul_inv (len1_ne ha), Gf.one_mul]
  | @step a b g hb hg ih =>
    refine ⟨fun h => absurd h.2 hb, fun _ => ?_⟩
    obtain ⟨h1, h2, h3, h4, h5, h6⟩ := ih.2 (fun h => hb h.1)
    have hs := qr_spec a hb
    refine ⟨h1, h2, h3, ?_, h4, fun c hca hcb => h6 c hcb ?_⟩
    · obtain ⟨t, ht⟩ := lmul (qr a b).1 b
      exact Dv.add (h4.mul (qr a b).1 ht) h5 (by rw [ht, mulL_comm]; exact hs.eq)
    · obtain ⟨t, ht⟩ := lmul (qr a b).1 b
      refine Dv.add hca (hcb.mul (qr a b).1 ht) ?_
      rw [ht, mulL_comm, hs.eq, addF_comm (mulL b _), addF_assoc, addF_self, addF_zero]

/-! ### the polynomial of roots -/
def cnt (l : List E) (y : E) : Nat := (l.filter (· == y)).length
theorem cnt_snoc (l : List E) (r y : E) : cnt (l ++ [r]) y = cnt l y + (if r = y then 1 else 0) := by
  unfold cnt
  rw [List.filter_append, List.length_append]
  congr 1
  by_cases h : r = y
  · subst h; simp
  · simp [h]
theorem ev_lin (r y : E) : ev [r, 1] y = r ^^^ y := by
  show r ^^^ Gf.mul y ((1 : E) ^^^ Gf.mul y 0) = r ^^^ y
  rw [Gf.mul_zero, xz, Gf.mul_one]
theorem fromL_snoc (l : List E) (r : E) : fromL (l ++ [r]) = mulR (fromL l) [r, 1] := by
  rw [fromL, List.foldl_append]
  rfl
theorem mulL_lin (r : E) (f : Nat → E) : mulL [r, 1] f = addF (sclF r f) (X f) := by
  rw [mulL, mulL_single, sclF_one]
theorem dvF_lin (r : E) (f : Nat → E) : dvF (addF (sclF r f) (X f)) = addF (addF (sclF r (dvF f)) (X (dvF f))) f := by
  funext i
  show (if i % 2 = 0 then Gf.mul r (f (i + 1)) ^^^ f i else 0) = (Gf.mul r (dvF f i) ^^^ X (dvF f) i) ^^^ f i
  cases i with
  | zero =>
    show Gf.mul r (f 1) ^^^ f 0 = (Gf.mul r (f 1) ^^^ 0) ^^^ f 0
    rw [xz]
  | succ i =>
    show (if (i + 1) % 2 = 0 then Gf.mul r (f (i + 1 + 1)) ^^^ f (i + 1) else 0) = (Gf.mul r (if (i + 1) % 2 = 0 then f (i + 1 + 1) else 0) ^^^ (if i % 2 = 0 then f (i + 1) else 0)) ^^^ f (i + 1)
    by_cases h : i % 2 = 0
    · rw [if_neg (by omega), if_neg (by omega), if_pos h, Gf.mul_zero, zx]
      exact BitVec.xor_self.symm
    · rw [if_pos (by omega), if_pos (by omega), if_neg h, xz]
theorem ev_der (l : List E) (r y : E) : ev (derL (fromL (l ++ [r]))) y = Gf.mul (r ^^^ y) (ev (derL (fromL l)) y) ^^^ ev (fromL l) y := by
  obtain ⟨t, ht⟩ := lmul [r, 1] (derL (fromL l))
  have h1 : cf (derL (fromL (l ++ [r]))) = addF (cf t) (cf (fromL l)) := by
    rw [(derL_norm _).2, fromL_snoc, cf_mulR, mulL_comm, mulL_lin, dvF_lin, ht, mulL_lin, (derL_norm _).2]
  rw [ev_add h1, ev_mul ht, ev_lin]
theorem ev_from (l : List E) (r y : E) : ev (fromL (l ++ [r])) y = Gf.mul (r ^^^ y) (ev (fromL l) y) := by
  rw [fromL_snoc, ev_mul (p := [r, 1]) (q := fromL l) (by rw [cf_mulR, mulL_comm]), ev_lin]
theorem mul_eq_zero {a b : E} : Gf.mul a b = 0 ↔ a = 0 ∨ b = 0 := by
  constructor
  · exact Gf.no_divisors
  · rintro (h | h)
    · rw [h, Gf.zero_mul]
    · rw [h, Gf.mul_zero]
theorem roots_aux (y : E) : ∀ (k : Nat) (l : List E), l.length = k → (ev (fromL l) y = 0 ↔ 0 < cnt l y) ∧ (0 < cnt l y → (ev (derL (fromL l)) y = 0 ↔ 1 < cnt l y))
  | 0, l, hl => by
    obtain rfl := List.length_eq_zero_iff.1 hl
    have h1 : ev (fromL []) y = 1 := by
      show (1 : E) ^^^ Gf.mul y 0 = 1
      rw [Gf.mul_zero, xz]
    have hc : cnt [] y = 0 := rfl
    rw [h1, hc]
    exact ⟨⟨fun h => absurd h (by decide), fun h => absurd h (by omega)⟩, fun h => absurd h (by omega)⟩
  | k + 1, l, hl => by
    obtain ⟨m, r, rfl⟩ : ∃ m r, l = m ++ [r] := ⟨l.dropLast, l.getLast (by intro e; subst e; cases hl), (List.dropLast_concat_getLast _).symm⟩
    obtain ⟨h1, h2⟩ := roots_aux y k m (by simpa using hl)
    rw [cnt_snoc, ev_from, ev_der, mul_eq_zero, xor_eq_zero, h1]
    by_cases h : r = y
    · subst h
      rw [if_pos rfl, BitVec.xor_self, show Gf.mul (0#32) (ev (derL (fromL m)) r) = 0 from Gf.zero_mul _, zx, h1]
      exact ⟨⟨fun _ => by omega, fun _ => .inl rfl⟩, fun _ => ⟨fun h => by omega, fun h => by omega⟩⟩
    · rw [if_neg h, Nat.add_zero]
      refine ⟨⟨fun hh => hh.resolve_left h, .inr⟩, fun hc => ?_⟩
      rw [h1.2 hc, xz, mul_eq_zero, xor_eq_zero, ← h2 hc]
      exact ⟨fun hh => hh.resolve_left h, .inr⟩
theorem roots_ev (l : List E) (y : E) : ev (fromL l) y = 0 ↔ 0 < cnt l y := (roots_aux y _ l rfl).1
theorem roots_der (l : List E) (y : E) (h : 0 < cnt l y) : ev (derL (fromL l)) y = 0 ↔ 1 < cnt l y := (roots_aux y _ l rfl).2 h
theorem fromL_all (l : List E) : (fromL l).length = l.length + 1 ∧ len1 (fromL l) = l.length + 1 := by
  have := fromL_len l l.length (Nat.le_refl _)
  rwa [List.take_length] at this
theorem fromL_lead : ∀ (k : Nat) (l : List E), l.length = k → cf (fromL l) k = 1
  | 0, l, hl => by
    obtain rfl := List.length_eq_zero_iff.1 hl
    rfl
  | k + 1, l, hl => by
    obtain ⟨m, r, rfl⟩ : ∃ m r, l = m ++ [r] := ⟨l.dropLast, l.getLast (by intro e; subst e; cases hl), (List.dropLast_concat_getLast _).symm⟩
    have h1 := fromL_lead k m (by simpa using hl)
    have h2 := (fromL_all m).2
    have h3 : m.length = k := by simpa using hl
    rw [fromL_snoc, cf_mulR, mulL_comm, mulL_lin]
    show Gf.mul r (cf (fromL m) (k + 1)) ^^^ cf (fromL m) k = 1
    rw [cf_len1 (fromL m) (by omega), Gf.mul_zero, zx, h1]
end Go.Proofs.Ytlackhjlnoefcaa.Po
