/- Division of polynomials. Nothing of the program. -/
import Derived.Test.YtlackhjlnoefcaaPoW2
namespace Go.Proofs.Ytlackhjlnoefcaa.Po
open Go.Proofs.Ytlackhjlnoefcaa
theorem mulL_Xn (p : List E) (k : Nat) (f : Nat → E) : mulL p (Xn k f) = Xn k (mulL p f) := by
  induction k with
  | zero => rw [Xn_zero, Xn_zero]
  | succ k ih => rw [Xn_succ, Xn_succ, mulL_X, ih]
theorem mulL_mono (p : List E) (k : Nat) (c : E) : mulL p (Xn k (sclF c oneF)) = Xn k (sclF c (cf p)) := by
  rw [mulL_Xn, mulL_scl, mulL_oneF]
theorem mulL_cong' {p q : List E} (h : cf p = cf q) (f : Nat → E) (n : Nat) (hf : ∀ i, n ≤ i → f i = 0) : mulL p f = mulL q f := by
  have : f = cf (mk n f) := by
    funext i
    rw [cf_mk]
    split
    · rfl
    · exact hf i (by omega)
  rw [this]
  exact mulL_congr h _
theorem mono_at (k : Nat) (c : E) (j : Nat) : Xn k (sclF c oneF) j = if j = k then c else 0 := by
  unfold Xn sclF oneF
  by_cases h : k ≤ j
  · rw [if_pos h]
    by_cases h2 : j = k
    · subst h2
      rw [Nat.sub_self, if_pos rfl, if_pos rfl, Gf.mul_one]
    · rw [if_neg (by omega), if_neg h2, Gf.mul_zero]
  · rw [if_neg h, if_neg (by omega)]

/-- a = q b + r, both trimmed, r below b -/
structure IsDiv (a b q r : List E) : Prop where
  tq : trim q = q
  tr : trim r = r
  eq : cf a = addF (mulL b (cf q)) (cf r)
  lt : len1 r < len1 b
theorem addF_cancel {f g h k : Nat → E} (e : addF f g = addF h k) : addF f h = addF g k := by
  funext i
  have := congrFun e i
  show f i ^^^ h i = g i ^^^ k i
  have h1 : f i ^^^ g i = h i ^^^ k i := this
  have h2 : (f i ^^^ h i) ^^^ (g i ^^^ k i) = 0 := by rw [xor_swap, h1]; exact BitVec.xor_self
  exact xor_eq_zero.1 h2
theorem sumL (p q : List E) : ∃ s, cf s = addF (cf p) (cf q) := by
  refine ⟨mk (max p.length q.length) (addF (cf p) (cf q)), ?_⟩
  funext i
  rw [cf_mk]
  split
  · rfl
  · show 0 = cf p i ^^^ cf q i
    rw [cf_ge (by omega), cf_ge (by omega)]; rfl
theorem mulL_trim (b : List E) (f : Nat → E) (n : Nat) (hf : ∀ i, n ≤ i → f i = 0) : mulL (trim b) f = mulL b f := mulL_cong' (cf_trim b) f n hf
/-- the product's last coefficient, wherever the lists end -/
theorem lead (p q : List E) (hp : len1 p ≠ 0) (hq : len1 q ≠ 0) : mulL p (cf q) (len1 p - 1 + (len1 q - 1)) = Gf.mul (cf p (len1 p - 1)) (cf q (len1 q - 1)) ∧ mulL p (cf q) (len1 p - 1 + (len1 q - 1)) ≠ 0 := by
  have hne : trim p ≠ [] := fun e => hp (trim_eq_nil.1 e)
  have h := mulL_lead (trim p) (cf q) (len1 q - 1) (fun i hi => cf_len1 q (by omega)) hne
  rw [trim_length, cf_trim, mulL_trim p _ (len1 q) (fun i hi => cf_len1 q hi)] at h
  refine ⟨h, ?_⟩
  rw [h]
  intro h0
  rcases Gf.no_divisors h0 with h1 | h1
  · exact len1_ne hp h1
  · exact len1_ne hq h1
theorem beyond (p q : List E) (i : Nat) (hi : len1 p + len1 q ≤ i + 1) : mulL p (cf q) i = 0 := by
  rw [← mulL_trim p (cf q) (len1 q) (fun i hi => cf_len1 q hi)]
  exact mulL_ge _ _ (len1 q) (fun i hi => cf_len1 q hi) i (by rw [trim_length]; exact hi)
theorem IsDiv.unique {a b q r q' r' : List E} (h : IsDiv a b q r) (h' : IsDiv a b q' r') : q = q' ∧ r = r' := by
  have e := addF_cancel (h.eq.symm.trans h'.eq)
  rw [← mulL_add] at e
  obtain ⟨s, hs⟩ := sumL q q'
  rw [← hs] at e
  have hs0 : len1 s = 0 := by
    by_cases h0 : len1 s = 0
    · exact h0
    · exfalso
      have hb : len1 b ≠ 0 := by have := h.lt; omega
      apply (lead b s hb h0).2
      rw [e]
      show cf r _ ^^^ cf r' _ = 0
      have h1 := h.lt
      have h2 := h'.lt
      rw [cf_len1 r (by omega), cf_len1 r' (by omega)]; rfl
  have hz := (len1_zero_iff s).1 hs0
  rw [hz, mulL_zero] at e
  constructor
  · rw [← h.tq, ← h'.tq]
    apply trim_congr
    funext i
    have := congrFun hs i
    rw [hz] at this
    exact xor_eq_zero.1 this.symm
  · rw [← h.tr, ← h'.tr]
    apply trim_congr
    funext i
    exact xor_eq_zero.1 (congrFun e i).symm
open Classical in
noncomputable def qr (a b : List E) : List E × List E := if h : ∃ p : List E × List E, IsDiv a b p.1 p.2 then h.choose else ([], trim a)
theorem IsDiv.qr {a b q r : List E} (h : IsDiv a b q r) : Po.qr a b = (q, r) := by
  have he : ∃ p : List E × List E, IsDiv a b p.1 p.2 := ⟨(q, r), h⟩
  unfold Po.qr
  rw [dif_pos he]
  have := he.choose_spec.unique h
  exact Prod.ext this.1 this.2

/-- the division's state, k places to go: what has been taken -/
structure DivInv (la lb : List E) (k : Nat) (R Q : Nat → E) : Prop where
  eq : cf la = addF (mulL lb Q) R
  hi : ∀ i, k ≤ i → R i = 0
  lo : ∀ j, j + len1 lb ≤ k → Q j = 0
  up : ∀ j, len1 la < j + len1 lb → Q j = 0
theorem DivInv.start (la lb : List E) : DivInv la lb (len1 la) (cf la) (fun _ => 0) :=
  ⟨by rw [mulL_zero, zero_addF], fun i hi => cf_len1 la hi, fun _ _ => rfl, fun _ _ => rfl⟩
def setF (Q : Nat → E) (j : Nat) (x : E) : Nat → E := fun i => if i = j then x else Q i
theorem DivInv.step {la lb : List E} {k : Nat} {R Q : Nat → E} (h : DivInv la lb (k + 1) R Q) (hb : len1 lb ≠ 0) (hk : len1 lb ≤ k + 1) (hka : k < len1 la) :
    DivInv la lb k (amF R (k + 1 - len1 lb) (Gf.mul (R k) (Gf.inv (cf lb (len1 lb - 1)))) (trim lb) (len1 lb)) (setF Q (k + 1 - len1 lb) (Gf.mul (R k) (Gf.inv (cf lb (len1 lb - 1))))) := by
  obtain ⟨m, hm⟩ : ∃ m, m = k + 1 - len1 lb := ⟨_, rfl⟩
  obtain ⟨f, hf⟩ : ∃ f, f = Gf.mul (R k) (Gf.inv (cf lb (len1 lb - 1))) := ⟨_, rfl⟩
  rw [← hm, ← hf]
  have hQm : Q m = 0 := h.lo m (by omega)
  have hset : setF Q m f = addF Q (Xn m (sclF f oneF)) := by
    funext j
    show (if j = m then f else Q j) = Q j ^^^ Xn m (sclF f oneF) j
    rw [mono_at]
    by_cases hj : j = m
    · subst hj; rw [if_pos rfl, if_pos rfl, hQm, zx]
    · rw [if_neg hj, if_neg hj, xz]
  have ham : amF R m f (trim lb) (len1 lb) = addF R (Xn m (sclF f (cf lb))) := by
    funext j
    show (if m ≤ j ∧ j < m + len1 lb then R j ^^^ Gf.mul f (cf (trim lb) (j - m)) else R j) = R j ^^^ (if m ≤ j then Gf.mul f (cf lb (j - m)) else 0)
    rw [cf_trim]
    by_cases h1 : m ≤ j
    · rw [if_pos h1]
      by_cases h2 : j < m + len1 lb
      · rw [if_pos ⟨h1, h2⟩]
      · rw [if_neg (by omega), cf_len1 lb (by omega), Gf.mul_zero, xz]
    · rw [if_neg (by omega), if_neg h1, xz]
  refine ⟨?_, fun i hi => ?_, fun j hj => ?_, fun j hj => ?_⟩
  · rw [hset, ham, mulL_add, mulL_mono, h.eq, addF_swap, addF_self, addF_zero]
  · rw [ham]
    show R i ^^^ (if m ≤ i then Gf.mul f (cf lb (i - m)) else 0) = 0
    rw [if_pos (by omega)]
    by_cases hik : i = k
    · subst hik
      rw [show i - m = len1 lb - 1 from by omega, hf, Gf.mul_assoc, Gf.mul_comm (Gf.inv _), Gf.mul_inv (len1_ne hb), Gf.mul_one]
      exact BitVec.xor_self
    · rw [h.hi i (by omega), cf_len1 lb (by omega), Gf.mul_zero]; rfl
  · show (if j = m then f else Q j) = 0
    rw [if_neg (by omega)]
    exact h.lo j (by omega)
  · show (if j = m then f else Q j) = 0
    rw [if_neg (by omega)]
    exact h.up j hj
theorem len1_le_of {l : List E} {n : Nat} (h : ∀ i, n ≤ i → cf l i = 0) : len1 l ≤ n := by
  by_cases h0 : len1 l = 0
  · omega
  · have := len1_ne h0
    rcases Nat.lt_or_ge n (len1 l) with h1 | h1
    · exact absurd (h _ (by omega)) this
    · exact h1
theorem trim_of {l : List E} (h : l.length ≠ 0 → cf l (l.length - 1) ≠ 0) : trim l = l :=
  trim_self (len1_eq (fun _ hi => cf_ge hi) h)
theorem DivInv.done {la lb : List E} {k : Nat} {R Q : Nat → E} (h : DivInv la lb k R Q) (hk : k < len1 lb) (hka : k ≤ len1 la) : IsDiv la lb (Po.mk (len1 la + 1 - len1 lb) Q) (trim (Po.mk (len1 la) R)) := by
  have hcR : cf (Po.mk (len1 la) R) = R := by
    funext i
    rw [cf_mk]
    split
    · rfl
    · exact (h.hi i (by omega)).symm
  have hcQ : cf (Po.mk (len1 la + 1 - len1 lb) Q) = Q := by
    funext i
    rw [cf_mk]
    split
    · rfl
    · exact (h.up i (by omega)).symm
  refine ⟨?_, trim_trim _, by rw [cf_trim, hcR, hcQ]; exact h.eq, ?_⟩
  · apply trim_of
    rw [mk_length]
    intro hn hz
    rw [hcQ] at hz
    have hl : len1 (Po.mk (len1 la + 1 - len1 lb) Q) ≤ len1 la - len1 lb := len1_le_of fun i hi => by
      rw [hcQ]
      by_cases h1 : i = len1 la - len1 lb
      · rw [h1, show len1 la - len1 lb = len1 la + 1 - len1 lb - 1 from by omega]; exact hz
      · exact h.up i (by omega)
    have ha : len1 la ≠ 0 := by omega
    apply len1_ne ha
    rw [h.eq]
    show mulL lb Q (len1 la - 1) ^^^ R (len1 la - 1) = 0
    rw [← hcQ, beyond lb _ _ (by omega), h.hi _ (by omega)]; rfl
  · rw [len1_trim]
    have := len1_le_of (l := Po.mk (len1 la) R) (n := k) (fun i hi => by rw [hcR]; exact h.hi i hi)
    omega
theorem IsDiv.ex_aux {a b : List E} (hb : len1 b ≠ 0) : ∀ (k : Nat) (R Q : Nat → E), k ≤ len1 a → DivInv a b k R Q → ∃ q r, IsDiv a b q r
  | k, R, Q, hk, h => by
    by_cases hlt : k < len1 b
    · exact ⟨_, _, h.done hlt hk⟩
    · cases k with
      | zero => omega
      | succ k => exact IsDiv.ex_aux hb k _ _ (by omega) (h.step hb (by omega) (by omega))
theorem qr_spec (a : List E) {b : List E} (hb : len1 b ≠ 0) : IsDiv a b (Po.qr a b).1 (Po.qr a b).2 := by
  obtain ⟨q, r, h⟩ := IsDiv.ex_aux (a := a) hb (len1 a) _ _ (Nat.le_refl _) (DivInv.start a b)
  rw [h.qr]
  exact h
/-- divided by the last coefficient -/
def monic (a : List E) : List E := if len1 a = 0 then [] else mulR a [Gf.inv (cf a (len1 a - 1))]
/-- the common divisor, by Euclid's steps -/
inductive Gcd : List E → List E → List E → Prop
  | base {a b : List E} (h : len1 b = 0) : Gcd a b (monic a)
  | step {a b g : List E} (h : len1 b ≠ 0) (hg : Gcd b (Po.qr a b).2 g) : Gcd a b g
theorem Gcd.unique {a b g : List E} (h : Gcd a b g) : ∀ {g'}, Gcd a b g' → g = g' := by
  induction h with
  | base h =>
    intro g' h'
    cases h' with
    | base => rfl
    | step h2 _ => exact absurd h h2
  | step h hg ih =>
    intro g' h'
    cases h' with
    | base h2 => exact absurd h2 h
    | step _ h3 => exact ih h3
def fromL (l : List E) : List E := l.foldl (fun p r => mulR p [r, 1]) [1]
theorem fromL_take (l : List E) (k : Nat) (h : k < l.length) : fromL (l.take (k + 1)) = mulR (fromL (l.take k)) [cf l k, 1] := by
  rw [take_snoc h, fromL, List.foldl_append]
  rfl
theorem cf_mulR (a b : List E) : cf (mulR a b) = mulL a (cf b) := by
  unfold mulR
  by_cases h : len1 a = 0 ∨ len1 b = 0
  · rw [if_pos h, cf_nil]
    rcases h with h | h
    · have h1 := (len1_zero_iff a).1 h
      rw [mulL_comm, h1, mulL_zero]
    · rw [(len1_zero_iff b).1 h, mulL_zero]
  · rw [if_neg h]
    funext i
    rw [cf_mk, mulL_trim a (cf b) (len1 b) (fun i hi => cf_len1 b hi)]
    split
    · rfl
    · exact (beyond a b i (by omega)).symm
theorem mulR_len (a b : List E) : len1 (mulR a b) = (mulR a b).length := by
  by_cases h : len1 a = 0 ∨ len1 b = 0
  · have : mulR a b = [] := by rw [mulR, if_pos h]
    rw [this]; rfl
  · have hl : (mulR a b).length = len1 a + len1 b - 1 := by rw [mulR, if_neg h, mk_length]
    refine len1_eq (fun i hi => cf_ge hi) (fun hn => ?_)
    rw [hl, cf_mulR, show len1 a + len1 b - 1 - 1 = len1 a - 1 + (len1 b - 1) from by omega]
    exact (lead a b (by omega) (by omega)).2
theorem mulR_length {a b : List E} (ha : len1 a ≠ 0) (hb : len1 b ≠ 0) : (mulR a b).length = len1 a + len1 b - 1 := by
  rw [mulR, if_neg (by omega), mk_length]
theorem mulR_trim (a b l : List E) (h : cf l = mulL a (cf b)) : mulR a b = trim l := by
  rw [← trim_self (mulR_len a b)]
  exact trim_congr (by rw [cf_mulR, h])
theorem len1_one : len1 [(1 : E)] = 1 := len1_eq (fun i hi => cf_ge hi) (fun _ => by show cf [(1 : E)] 0 ≠ 0; rw [cf_zero]; decide)
theorem len1_lin (r : E) : len1 [r, 1] = 2 := len1_eq (fun i hi => cf_ge hi) (fun _ => by show cf [r, (1 : E)] 1 ≠ 0; rw [cf_cons, cf_zero]; decide)
theorem fromL_len (l : List E) : ∀ k, k ≤ l.length → (fromL (l.take k)).length = k + 1 ∧ len1 (fromL (l.take k)) = k + 1
  | 0, _ => ⟨rfl, len1_one⟩
  | k + 1, h => by
    obtain ⟨_, h1⟩ := fromL_len l k (by omega)
    rw [fromL_take l k (by omega)]
    have h2 := len1_lin (cf l k)
    have h3 : (mulR (fromL (l.take k)) [cf l k, 1]).length = k + 1 + 1 := by rw [mulR_length (by omega) (by omega)]; omega
    exact ⟨h3, by rw [mulR_len, h3]⟩
end Go.Proofs.Ytlackhjlnoefcaa.Po
