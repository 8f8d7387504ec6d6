/- Polynomials as lists of elements of the field. Nothing of the program. -/
import Derived.Test.YtlackhjlnoefcaaGfA
namespace Go.Proofs.Ytlackhjlnoefcaa.Po
open Go.Proofs.Ytlackhjlnoefcaa
abbrev E := BitVec 32
theorem mz (a : E) : Gf.mul a 0#32 = 0#32 := Gf.mul_zero a
theorem zm (a : E) : Gf.mul 0#32 a = 0#32 := Gf.zero_mul a
theorem mo (a : E) : Gf.mul a 1#32 = a := Gf.mul_one a
/-- the coefficient of x^i -/
def cf (l : List E) : Nat → E := fun i => l.getD i 0
theorem cf_nil : cf [] = fun _ => 0 := by funext i; simp [cf]
theorem cf_cons (a : E) (l : List E) (i : Nat) : cf (a :: l) (i + 1) = cf l i := by simp [cf]
theorem cf_zero (a : E) (l : List E) : cf (a :: l) 0 = a := by simp [cf]
theorem cf_ge {l : List E} {i : Nat} (h : l.length ≤ i) : cf l i = 0 := by simp [cf, h]
theorem cf_take (l : List E) (k i : Nat) : cf (l.take k) i = if i < k then cf l i else 0 := by
  unfold cf
  rw [List.getD_eq_getElem?_getD, List.getElem?_take]
  by_cases h : i < k
  · rw [if_pos h, if_pos h, List.getD_eq_getElem?_getD]
  · rw [if_neg h, if_neg h]; rfl
theorem list_ext {l m : List E} (h : l.length = m.length) (hc : ∀ i, i < l.length → cf l i = cf m i) : l = m := by
  apply List.ext_getElem h
  intro i h1 h2
  have := hc i h1
  unfold cf at this
  rwa [List.getD_eq_getElem?_getD, List.getD_eq_getElem?_getD, List.getElem?_eq_getElem h1, List.getElem?_eq_getElem h2] at this
/-- n coefficients -/
def mk (n : Nat) (f : Nat → E) : List E := (List.range n).map f
theorem mk_length (n : Nat) (f : Nat → E) : (mk n f).length = n := by simp [mk]
theorem cf_mk (n : Nat) (f : Nat → E) (i : Nat) : cf (mk n f) i = if i < n then f i else 0 := by
  unfold cf mk
  rw [List.getD_eq_getElem?_getD, List.getElem?_map]
  by_cases h : i < n
  · rw [List.getElem?_range h, if_pos h]; rfl
  · rw [List.getElem?_eq_none (by simp; omega), if_neg h]; rfl
theorem mk_cf (l : List E) : mk l.length (cf l) = l := list_ext (mk_length _ _) fun i hi => by
  rw [cf_mk, if_pos (by rwa [mk_length] at hi)]
theorem mk_congr {n : Nat} {f g : Nat → E} (h : ∀ i, i < n → f i = g i) : mk n f = mk n g := List.map_congr_left fun i hi => h i (List.mem_range.1 hi)

/-- the largest place up to k behind which, up to k, all is 0 -/
def top (f : Nat → E) : Nat → Nat
  | 0 => 0
  | k + 1 => if f k = 0 then top f k else k + 1
theorem top_le (f : Nat → E) : ∀ k, top f k ≤ k
  | 0 => Nat.le_refl _
  | k + 1 => by
    unfold top
    have := top_le f k
    split <;> omega
theorem top_zero (f : Nat → E) : ∀ k i, top f k ≤ i → i < k → f i = 0
  | 0, i, _, h => by omega
  | k + 1, i, h, hi => by
    unfold top at h
    by_cases hz : f k = 0
    · rw [if_pos hz] at h
      rcases Nat.lt_or_ge i k with hlt | hge
      · exact top_zero f k i h hlt
      · obtain rfl : i = k := by omega
        exact hz
    · rw [if_neg hz] at h
      omega
theorem top_ne (f : Nat → E) : ∀ k, top f k ≠ 0 → f (top f k - 1) ≠ 0
  | 0, h => absurd rfl h
  | k + 1, h => by
    unfold top at h ⊢
    by_cases hz : f k = 0
    · rw [if_pos hz] at h ⊢
      exact top_ne f k h
    · rw [if_neg hz]
      simpa using hz
/-- the number of coefficients up to the last that isn't 0 -/
def len1 (l : List E) : Nat := top (cf l) l.length
def trim (l : List E) : List E := l.take (len1 l)
theorem len1_le (l : List E) : len1 l ≤ l.length := top_le _ _
theorem trim_length (l : List E) : (trim l).length = len1 l := by
  have := len1_le l
  simp [trim]; omega
theorem cf_len1 (l : List E) {i : Nat} (h : len1 l ≤ i) : cf l i = 0 := by
  rcases Nat.lt_or_ge i l.length with hlt | hge
  · exact top_zero _ _ _ h hlt
  · exact cf_ge hge
theorem len1_ne {l : List E} (h : len1 l ≠ 0) : cf l (len1 l - 1) ≠ 0 := top_ne _ _ h
theorem cf_trim (l : List E) : cf (trim l) = cf l := by
  funext i
  rw [trim, cf_take]
  split
  · rfl
  · exact (cf_len1 l (by omega)).symm
theorem len1_eq {l : List E} {n : Nat} (h0 : ∀ i, n ≤ i → cf l i = 0) (hn : n ≠ 0 → cf l (n - 1) ≠ 0) : len1 l = n := by
  rcases Nat.lt_trichotomy (len1 l) n with h | h | h
  · exact absurd (cf_len1 l (i := n - 1) (by omega)) (hn (by omega))
  · exact h
  · exact absurd (h0 (len1 l - 1) (by omega)) (len1_ne (by omega))
theorem len1_congr {l m : List E} (h : cf l = cf m) : len1 l = len1 m :=
  len1_eq (fun i hi => by rw [h]; exact cf_len1 m hi) (fun hn => by rw [h]; exact len1_ne hn)
theorem trim_congr {l m : List E} (h : cf l = cf m) : trim l = trim m :=
  list_ext (by rw [trim_length, trim_length, len1_congr h]) fun i _ => by rw [cf_trim, cf_trim, h]
theorem trim_self {l : List E} (h : len1 l = l.length) : trim l = l := by rw [trim, h, List.take_length]
theorem len1_trim (l : List E) : len1 (trim l) = len1 l := len1_congr (cf_trim l)
theorem trim_trim (l : List E) : trim (trim l) = trim l := trim_congr (cf_trim l)
theorem trim_eq_mk (l : List E) : trim l = mk (len1 l) (cf l) := list_ext (by rw [trim_length, mk_length]) fun i hi => by
  rw [trim_length] at hi
  rw [cf_trim, cf_mk, if_pos hi]
theorem trim_mk {n : Nat} {f : Nat → E} {l : List E} (h : ∀ i, cf l i = f i) (hn : ∀ i, n ≤ i → f i = 0) : trim (mk n f) = trim l := by
  apply trim_congr
  funext i
  rw [cf_mk, h]
  split
  · rfl
  · exact (hn i (by omega)).symm
theorem trim_eq_nil {l : List E} : trim l = [] ↔ len1 l = 0 := by
  rw [← List.length_eq_zero_iff, trim_length]
theorem len1_zero_iff (l : List E) : len1 l = 0 ↔ cf l = fun _ => 0 := by
  constructor
  · intro h
    funext i
    exact cf_len1 l (by omega)
  · intro h
    exact len1_eq (fun i _ => by rw [h]) (fun hn => absurd rfl hn)

/-! ### sums and products of coefficient functions -/
theorem xor_swap (a b c d : E) : (a ^^^ b) ^^^ (c ^^^ d) = (a ^^^ c) ^^^ (b ^^^ d) := by
  rw [BitVec.xor_assoc, BitVec.xor_assoc, ← BitVec.xor_assoc b, ← BitVec.xor_assoc c, BitVec.xor_comm b]
theorem xor_eq_zero {a b : E} : a ^^^ b = 0 ↔ a = b := by
  constructor
  · intro h
    have : a ^^^ b ^^^ b = 0#32 ^^^ b := by rw [h]; rfl
    rwa [Gf.xor_self_cancel, BitVec.zero_xor] at this
  · rintro rfl
    exact BitVec.xor_self
theorem zx (a : E) : (0 : E) ^^^ a = a := BitVec.zero_xor
theorem xz (a : E) : a ^^^ (0 : E) = a := BitVec.xor_zero
def addF (f g : Nat → E) : Nat → E := fun i => f i ^^^ g i
def sclF (c : E) (f : Nat → E) : Nat → E := fun i => Gf.mul c (f i)
def X (f : Nat → E) : Nat → E
  | 0 => 0
  | i + 1 => f i
def Xn (k : Nat) (f : Nat → E) : Nat → E := fun i => if k ≤ i then f (i - k) else 0
theorem X_add (f g : Nat → E) : X (addF f g) = addF (X f) (X g) := by
  funext i
  cases i <;> simp [X, addF]
theorem X_scl (c : E) (f : Nat → E) : X (sclF c f) = sclF c (X f) := by
  funext i
  cases i <;> simp [X, sclF, mz]
theorem X_zero : X (fun _ => 0) = fun _ => 0 := by
  funext i
  cases i <;> rfl
theorem Xn_zero (f : Nat → E) : Xn 0 f = f := by
  funext i; simp [Xn]
theorem Xn_succ (k : Nat) (f : Nat → E) : Xn (k + 1) f = X (Xn k f) := by
  funext i
  cases i with
  | zero => simp [Xn, X]
  | succ i =>
    show (if k + 1 ≤ i + 1 then f (i + 1 - (k + 1)) else 0) = if k ≤ i then f (i - k) else 0
    by_cases h : k ≤ i
    · rw [if_pos (by omega), if_pos h, show i + 1 - (k + 1) = i - k from by omega]
    · rw [if_neg (by omega), if_neg h]
theorem addF_zero (f : Nat → E) : addF f (fun _ => 0) = f := by funext i; simp [addF]
theorem zero_addF (f : Nat → E) : addF (fun _ => 0) f = f := by funext i; simp [addF]
theorem addF_comm (f g : Nat → E) : addF f g = addF g f := by funext i; exact BitVec.xor_comm _ _
theorem addF_assoc (f g h : Nat → E) : addF (addF f g) h = addF f (addF g h) := by funext i; exact BitVec.xor_assoc _ _ _
theorem addF_swap (f g h k : Nat → E) : addF (addF f g) (addF h k) = addF (addF f h) (addF g k) := by funext i; exact xor_swap _ _ _ _
theorem addF_self (f : Nat → E) : addF f f = fun _ => 0 := by funext i; exact BitVec.xor_self
theorem sclF_add (c : E) (f g : Nat → E) : sclF c (addF f g) = addF (sclF c f) (sclF c g) := by funext i; exact Gf.mul_xor _ _ _
theorem sclF_scl (c d : E) (f : Nat → E) : sclF c (sclF d f) = sclF d (sclF c f) := by
  funext i
  show Gf.mul c (Gf.mul d (f i)) = Gf.mul d (Gf.mul c (f i))
  rw [← Gf.mul_assoc, ← Gf.mul_assoc, Gf.mul_comm c d]
theorem sclF_zero (c : E) : sclF c (fun _ => 0) = fun _ => 0 := by funext i; exact Gf.mul_zero c
theorem zero_sclF (f : Nat → E) : sclF 0 f = fun _ => 0 := by funext i; exact Gf.zero_mul _
theorem sclF_one (f : Nat → E) : sclF 1 f = f := by funext i; exact Gf.one_mul _

/-- the product of a list and a coefficient function -/
def mulL : List E → (Nat → E) → (Nat → E)
  | [], _ => fun _ => 0
  | a :: p, f => addF (sclF a f) (X (mulL p f))
theorem mulL_add (p : List E) (f g : Nat → E) : mulL p (addF f g) = addF (mulL p f) (mulL p g) := by
  induction p with
  | nil => rw [mulL, mulL, mulL, addF_zero]
  | cons a p ih => rw [mulL, mulL, mulL, ih, sclF_add, X_add, addF_swap]
theorem mulL_scl (p : List E) (c : E) (f : Nat → E) : mulL p (sclF c f) = sclF c (mulL p f) := by
  induction p with
  | nil => rw [mulL, mulL, sclF_zero]
  | cons a p ih => rw [mulL, mulL, ih, sclF_add, X_scl, sclF_scl]
theorem mulL_X (p : List E) (f : Nat → E) : mulL p (X f) = X (mulL p f) := by
  induction p with
  | nil => rw [mulL, mulL, X_zero]
  | cons a p ih => rw [mulL, mulL, ih, X_add, X_scl]
theorem mulL_zero (p : List E) : mulL p (fun _ => 0) = fun _ => 0 := by
  induction p with
  | nil => rfl
  | cons a p ih => rw [mulL, ih, sclF_zero, X_zero, addF_zero]
theorem mulL_swap (p q : List E) (f : Nat → E) : mulL p (mulL q f) = mulL q (mulL p f) := by
  induction p with
  | nil => rw [mulL, mulL, mulL_zero]
  | cons a p ih => rw [mulL, mulL, mulL_add, mulL_scl, mulL_X, ih]
def oneF : Nat → E := fun i => if i = 0 then 1 else 0
theorem mulL_oneF (p : List E) : mulL p oneF = cf p := by
  induction p with
  | nil => rw [mulL, cf_nil]
  | cons a p ih =>
    rw [mulL, ih]
    funext i
    cases i with
    | zero => simp [addF, sclF, X, oneF, mo, cf_zero]
    | succ i => simp [addF, sclF, X, oneF, mz, cf_cons]
theorem mulL_comm (p q : List E) : mulL p (cf q) = mulL q (cf p) := by
  rw [← mulL_oneF q, ← mulL_oneF p, mulL_swap]
theorem mulL_congr {p q : List E} (h : cf p = cf q) (l : List E) : mulL p (cf l) = mulL q (cf l) := by
  rw [mulL_comm, h, mulL_comm]
theorem mulL_assoc {p q r : List E} (h : cf r = mulL p (cf q)) (t : List E) : mulL r (cf t) = mulL p (mulL q (cf t)) := by
  rw [mulL_comm, h, mulL_swap, mulL_comm t q]
theorem mulL_snoc (p : List E) (c : E) (f : Nat → E) : mulL (p ++ [c]) f = addF (mulL p f) (Xn p.length (sclF c f)) := by
  induction p with
  | nil => rw [List.nil_append, mulL, mulL, mulL, X_zero, addF_zero, zero_addF, List.length_nil, Xn_zero]
  | cons a p ih => rw [List.cons_append, mulL, mulL, ih, X_add, List.length_cons, Xn_succ, addF_assoc]
theorem take_snoc {l : List E} {k : Nat} (h : k < l.length) : l.take (k + 1) = l.take k ++ [cf l k] := by
  rw [List.take_succ_eq_append_getElem h]
  congr 2
  simp [cf, h]
theorem mulL_take {l : List E} {k : Nat} (h : k < l.length) (f : Nat → E) : mulL (l.take (k + 1)) f = addF (mulL (l.take k) f) (Xn k (sclF (cf l k) f)) := by
  rw [take_snoc h, mulL_snoc, List.length_take, Nat.min_eq_left (by omega)]
/-- what is beyond the sum of the lengths is 0 -/
theorem mulL_ge (p : List E) (f : Nat → E) (n : Nat) (hf : ∀ i, n ≤ i → f i = 0) : ∀ i, p.length + n ≤ i + 1 → mulL p f i = 0 := by
  induction p with
  | nil => intro i _; rfl
  | cons a p ih =>
    intro i hi
    simp only [List.length_cons] at hi
    show Gf.mul a (f i) ^^^ X (mulL p f) i = 0
    rw [hf i (by omega), Gf.mul_zero, zx]
    cases i with
    | zero => rfl
    | succ i => exact ih i (by omega)
/-- the product's last coefficient -/
theorem mulL_lead (p : List E) (f : Nat → E) (n : Nat) (hf : ∀ i, n < i → f i = 0) (hp : p ≠ []) : mulL p f (p.length - 1 + n) = Gf.mul (cf p (p.length - 1)) (f n) := by
  induction p with
  | nil => exact absurd rfl hp
  | cons a p ih =>
    cases p with
    | nil =>
      show Gf.mul a (f _) ^^^ X (fun _ => 0) _ = _
      rw [X_zero]
      simp [cf]
    | cons b p =>
      have := ih (by simp)
      show Gf.mul a (f _) ^^^ X (mulL (b :: p) f) _ = _
      simp only [List.length_cons, Nat.add_sub_cancel] at this ⊢
      rw [hf _ (by omega), Gf.mul_zero, zx, show p.length + 1 + n = (p.length + n) + 1 from by omega]
      show mulL (b :: p) f (p.length + n) = _
      rw [this, cf_cons]

/-! ### values -/
def ev : List E → E → E
  | [], _ => 0
  | a :: p, x => a ^^^ Gf.mul x (ev p x)
theorem ev_append (p q : List E) (x : E) : ev (p ++ q) x = ev p x ^^^ Gf.mul (Gf.pow x p.length) (ev q x) := by
  induction p with
  | nil => rw [List.nil_append, ev, List.length_nil, Gf.pow, Gf.one_mul]; exact (zx _).symm
  | cons a p ih =>
    rw [List.cons_append, ev, ev, ih, Gf.mul_xor, List.length_cons, Gf.pow, ← Gf.mul_assoc, ← BitVec.xor_assoc, Gf.mul_comm x (Gf.pow x p.length)]
theorem ev_take {l : List E} {k : Nat} (h : k < l.length) (x : E) : ev (l.take (k + 1)) x = ev (l.take k) x ^^^ Gf.mul (cf l k) (Gf.pow x k) := by
  rw [take_snoc h, ev_append, List.length_take, Nat.min_eq_left (by omega), ev, ev, Gf.mul_zero, xz, Gf.mul_comm]
theorem ev_drop {l : List E} {k : Nat} (h : k < l.length) (x : E) : ev (l.drop k) x = cf l k ^^^ Gf.mul x (ev (l.drop (k + 1)) x) := by
  rw [List.drop_eq_getElem_cons h, ev]
  simp [cf, h]
theorem ev_zero {p : List E} (h : cf p = fun _ => 0) (x : E) : ev p x = 0 := by
  induction p with
  | nil => rfl
  | cons a p ih =>
    have h0 : a = 0 := by rw [← cf_zero a p, h]
    have h1 : cf p = fun _ => 0 := by funext i; rw [← cf_cons a p i, h]
    rw [ev, ih h1, h0, Gf.mul_zero, xz]
theorem ev_congr {p q : List E} (h : cf p = cf q) (x : E) : ev p x = ev q x := by
  induction p generalizing q with
  | nil => exact (ev_zero (by rw [← h, cf_nil]) x).symm
  | cons a p ih =>
    cases q with
    | nil => exact ev_zero (by rw [h, cf_nil]) x
    | cons b q =>
      have h0 : a = b := by rw [← cf_zero a p, h, cf_zero]
      have h1 : cf p = cf q := by funext i; rw [← cf_cons a p i, h, cf_cons]
      rw [ev, ev, ih h1, h0]
theorem ev_add {p q r : List E} (h : cf r = addF (cf p) (cf q)) (x : E) : ev r x = ev p x ^^^ ev q x := by
  induction r generalizing p q with
  | nil =>
    rw [ev, eq_comm, xor_eq_zero]
    apply ev_congr
    funext i
    have := congrFun h i
    rw [cf_nil] at this
    exact xor_eq_zero.1 this.symm
  | cons c r ih =>
    have hp : cf p = cf (cf p 0 :: p.tail) := by
      funext i
      cases p <;> cases i <;> simp [cf]
    have hq : cf q = cf (cf q 0 :: q.tail) := by
      funext i
      cases q <;> cases i <;> simp [cf]
    have h0 : c = cf p 0 ^^^ cf q 0 := by rw [← cf_zero c r, h]; rfl
    have h1 : cf r = addF (cf p.tail) (cf q.tail) := by
      funext i
      rw [← cf_cons c r i, h, hp, hq]
      show cf _ (i + 1) ^^^ cf _ (i + 1) = _
      rw [cf_cons, cf_cons]
      rfl
    rw [ev_congr hp, ev_congr hq, ev, ev, ev, ih h1, h0, Gf.mul_xor, xor_swap]
theorem ev_scl {p r : List E} {c : E} (h : cf r = sclF c (cf p)) (x : E) : ev r x = Gf.mul c (ev p x) := by
  induction p generalizing r with
  | nil =>
    rw [ev_zero (by rw [h, cf_nil, sclF_zero])]
    exact (Gf.mul_zero c).symm
  | cons a p ih =>
    have hr : cf r = cf (cf r 0 :: r.tail) := by
      funext i
      cases r <;> cases i <;> simp [cf]
    have h0 : cf r 0 = Gf.mul c a := by rw [h]; simp [sclF, cf_zero]
    have h1 : cf r.tail = sclF c (cf p) := by
      funext i
      have := congrFun h (i + 1)
      rw [hr, cf_cons] at this
      rw [this]
      simp [sclF, cf_cons]
    rw [ev_congr hr, ev, ev, ih h1, h0, Gf.mul_xor, ← Gf.mul_assoc, ← Gf.mul_assoc, Gf.mul_comm x c]
theorem ev_X {p r : List E} (h : cf r = X (cf p)) (x : E) : ev r x = Gf.mul x (ev p x) := by
  have : cf r = cf (0 :: p) := by
    rw [h]
    funext i
    cases i <;> simp [X, cf]
  rw [ev_congr this, ev, zx]
theorem ev_mul {p q r : List E} (h : cf r = mulL p (cf q)) (x : E) : ev r x = Gf.mul (ev p x) (ev q x) := by
  induction p generalizing r with
  | nil => rw [ev_zero h, ev, Gf.zero_mul]
  | cons a p ih =>
    rw [mulL] at h
    have hs : cf (mk q.length (sclF a (cf q))) = sclF a (cf q) := by
      funext i
      rw [cf_mk]
      split
      · rfl
      · show 0 = Gf.mul a (cf q i)
        rw [cf_ge (by omega), Gf.mul_zero]
    have hm : cf (mk (p.length + q.length) (mulL p (cf q))) = mulL p (cf q) := by
      funext i
      rw [cf_mk]
      split
      · rfl
      · exact (mulL_ge p _ q.length (fun i hi => cf_ge hi) i (by omega)).symm
    have hx : cf (0 :: mk (p.length + q.length) (mulL p (cf q))) = X (mulL p (cf q)) := by
      funext i
      cases i with
      | zero => rfl
      | succ i => rw [cf_cons, hm]; rfl
    rw [ev_add (p := mk q.length (sclF a (cf q))) (q := 0 :: mk (p.length + q.length) (mulL p (cf q))) (by rw [h, hs, hx]), ev_scl hs, ev, ev, zx, ih hm, Gf.xor_mul, Gf.mul_assoc]
end Go.Proofs.Ytlackhjlnoefcaa.Po
