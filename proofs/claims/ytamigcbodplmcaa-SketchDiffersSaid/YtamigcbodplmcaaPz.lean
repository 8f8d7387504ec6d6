/- Polynomials as lists of elements of the field. Nothing of the program. · A range over a function whose body is told what the iterator has just read. Nothing of the program. · poly's iterator over coefficients from the last one on. · Slices of words that a call has made. Nothing of the program. · Slices of words: making, copying, comparing; sums of two. · Package poly: sums and products. · Package poly: products, sums. · Package poly: values, derivatives, squares, roots. · Package poly: values. · Division of polynomials. Nothing of the program. · A region that draws its order, within a round of a range over a function: its head only reads, its tail is forced. Nothing of the program. · Package poly: division. · Package poly: division and its users. · append onto a slice of words that the call has made. Nothing of the program. · The reference's polynomials. · The reference's sums and products. · The reference's products. · The reference's values, derivatives, division. · The reference's division and common divisor. · What the polynomials' laws have in common. · What the polynomials' laws compare. · Divisors of polynomials; polynomials of roots. Nothing of the program. -/
import Derived.Test.YtamigcbodplmcaaGz
import Derived.RangeFuncNested
import Derived.RangeFuncBound
import Derived.RangeFuncCalls
import Derived.RangeFuncLeaves
import Derived.Shelf.Abstract
import Derived.Shelf.RegionOpen
import Derived.WalkKit
import Derived.OwnWalkIn
import Derived.TacticsInMore
import Derived.LoopNIn
import Derived.LoopIn
import Derived.Deep.OwnRows
import Derived.Laws.CopyOwn
import Derived.Laws.OwnMore
import Derived.BigQuiet
import Derived.Deep.RegionHeld3
import Derived.StillTailTactics
import Derived.OrdersIn
import Derived.TacticsIn
import Derived.ControlIn
import Derived.Deep.LoopGhost
import Derived.Laws.AppendOwnNone
import Derived.Maps.AppendAt
/-! Polynomials as lists of elements of the field. Nothing of the program. -/
namespace Go.Proofs.Ytamigcbodplmcaa.Po
open Go.Proofs.Ytamigcbodplmcaa
abbrev E := BitVec 32
theorem mz (a : E) : Gf.mul a 0#32 = 0#32 := Gf.mul_zero a
theorem zm (a : E) : Gf.mul 0#32 a = 0#32 := Gf.zero_mul a
theorem mo (a : E) : Gf.mul a 1#32 = a := Gf.mul_one a
/-- the coefficient of x^i -/
def cf (l : List E) : Nat → E := fun i => l.getD i 0
theorem cf_nil : cf [] = fun _ => 0 := by funext i; simp [cf]
theorem cf_cons (a : E) (l : List E) (i : Nat) : cf (a :: l) (i + 1) = cf l i := by simp [cf]
theorem cf_zero (a : E) (l : List E) : cf (a :: l) 0 = a := by simp [cf]
theorem cf_ge {l : List E} {i : Nat} (h : l.length ≤ i) : cf l i = 0 := by simp [cf, h]
theorem cf_take (l : List E) (k i : Nat) : cf (l.take k) i = if i < k then cf l i else 0 := by
  unfold cf
  rw [List.getD_eq_getElem?_getD, List.getElem?_take]
  by_cases h : i < k
  · rw [if_pos h, if_pos h, List.getD_eq_getElem?_getD]
  · rw [if_neg h, if_neg h]; rfl
theorem list_ext {l m : List E} (h : l.length = m.length) (hc : ∀ i, i < l.length → cf l i = cf m i) : l = m := by
  apply List.ext_getElem h
  intro i h1 h2
  have := hc i h1
  unfold cf at this
  rwa [List.getD_eq_getElem?_getD, List.getD_eq_getElem?_getD, List.getElem?_eq_getElem h1, List.getElem?_eq_getElem h2] at this
/-- n coefficients -/
def mk (n : Nat) (f : Nat → E) : List E := (List.range n).map f
theorem mk_length (n : Nat) (f : Nat → E) : (mk n f).length = n := by simp [mk]
theorem cf_mk (n : Nat) (f : Nat → E) (i : Nat) : cf (mk n f) i = if i < n then f i else 0 := by
  unfold cf mk
  rw [List.getD_eq_getElem?_getD, List.getElem?_map]
  by_cases h : i < n
  · rw [List.getElem?_range h, if_pos h]; rfl
  · rw [List.getElem?_eq_none (by simp; omega), if_neg h]; rfl
theorem mk_cf (l : List E) : mk l.length (cf l) = l := list_ext (mk_length _ _) fun i hi => by
  rw [cf_mk, if_pos (by rwa [mk_length] at hi)]
theorem mk_congr {n : Nat} {f g : Nat → E} (h : ∀ i, i < n → f i = g i) : mk n f = mk n g := List.map_congr_left fun i hi => h i (List.mem_range.1 hi)

/-- the largest place up to k behind which, up to k, all is 0 -/
def top (f : Nat → E) : Nat → Nat
  | 0 => 0
  | k + 1 => if f k = 0 then top f k else k + 1
theorem top_le (f : Nat → E) : ∀ k, top f k ≤ k
  | 0 => Nat.le_refl _
  | k + 1 => by
    unfold top
    have := top_le f k
    split <;> omega
theorem top_zero (f : Nat → E) : ∀ k i, top f k ≤ i → i < k → f i = 0
  | 0, i, _, h => by omega
  | k + 1, i, h, hi => by
    unfold top at h
    by_cases hz : f k = 0
    · rw [if_pos hz] at h
      rcases Nat.lt_or_ge i k with hlt | hge
      · exact top_zero f k i h hlt
      · obtain rfl : i = k := by omega
        exact hz
    · rw [if_neg hz] at h
      omega
theorem top_ne (f : Nat → E) : ∀ k, top f k ≠ 0 → f (top f k - 1) ≠ 0
  | 0, h => absurd rfl h
  | k + 1, h => by
    unfold top at h ⊢
    by_cases hz : f k = 0
    · rw [if_pos hz] at h ⊢
      exact top_ne f k h
    · rw [if_neg hz]
      simpa using hz
/-- the number of coefficients up to the last that isn't 0 -/
def len1 (l : List E) : Nat := top (cf l) l.length
def trim (l : List E) : List E := l.take (len1 l)
theorem len1_le (l : List E) : len1 l ≤ l.length := top_le _ _
theorem trim_length (l : List E) : (trim l).length = len1 l := by
  have := len1_le l
  simp [trim]; omega
theorem cf_len1 (l : List E) {i : Nat} (h : len1 l ≤ i) : cf l i = 0 := by
  rcases Nat.lt_or_ge i l.length with hlt | hge
  · exact top_zero _ _ _ h hlt
  · exact cf_ge hge
theorem len1_ne {l : List E} (h : len1 l ≠ 0) : cf l (len1 l - 1) ≠ 0 := top_ne _ _ h
theorem cf_trim (l : List E) : cf (trim l) = cf l := by
  funext i
  rw [trim, cf_take]
  split
  · rfl
  · exact (cf_len1 l (by omega)).symm
theorem len1_eq {l : List E} {n : Nat} (h0 : ∀ i, n ≤ i → cf l i = 0) (hn : n ≠ 0 → cf l (n - 1) ≠ 0) : len1 l = n := by
  rcases Nat.lt_trichotomy (len1 l) n with h | h | h
  · exact absurd (cf_len1 l (i := n - 1) (by omega)) (hn (by omega))
  · exact h
  · exact absurd (h0 (len1 l - 1) (by omega)) (len1_ne (by omega))
theorem len1_congr {l m : List E} (h : cf l = cf m) : len1 l = len1 m :=
  len1_eq (fun i hi => by rw [h]; exact cf_len1 m hi) (fun hn => by rw [h]; exact len1_ne hn)
theorem trim_congr {l m : List E} (h : cf l = cf m) : trim l = trim m :=
  list_ext (by rw [trim_length, trim_length, len1_congr h]) fun i _ => by rw [cf_trim, cf_trim, h]
theorem trim_self {l : List E} (h : len1 l = l.length) : trim l = l := by rw [trim, h, List.take_length]
theorem len1_trim (l : List E) : len1 (trim l) = len1 l := len1_congr (cf_trim l)
theorem trim_trim (l : List E) : trim (trim l) = trim l := trim_congr (cf_trim l)
theorem trim_eq_mk (l : List E) : trim l = mk (len1 l) (cf l) := list_ext (by rw [trim_length, mk_length]) fun i hi => by
  rw [trim_length] at hi
  rw [cf_trim, cf_mk, if_pos hi]
theorem trim_mk {n : Nat} {f : Nat → E} {l : List E} (h : ∀ i, cf l i = f i) (hn : ∀ i, n ≤ i → f i = 0) : trim (mk n f) = trim l := by
  apply trim_congr
  funext i
  rw [cf_mk, h]
  split
  · rfl
  · exact (hn i (by omega)).symm
theorem trim_eq_nil {l : List E} : trim l = [] ↔ len1 l = 0 := by
  rw [← List.length_eq_zero_iff, trim_length]
theorem len1_zero_iff (l : List E) : len1 l = 0 ↔ cf l = fun _ => 0 := by
  constructor
  · intro h
    funext i
    exact cf_len1 l (by omega)
  · intro h
    exact len1_eq (fun i _ => by rw [h]) (fun hn => absurd rfl hn)

/-! ### sums and products of coefficient functions -/
theorem xor_swap (a b c d : E) : (a ^^^ b) ^^^ (c ^^^ d) = (a ^^^ c) ^^^ (b ^^^ d) := by
  rw [BitVec.xor_assoc, BitVec.xor_assoc, ← BitVec.xor_assoc b, ← BitVec.xor_assoc c, BitVec.xor_comm b]
theorem xor_eq_zero {a b : E} : a ^^^ b = 0 ↔ a = b := by
  constructor
  · intro h
    have : a ^^^ b ^^^ b = 0#32 ^^^ b := by rw [h]; rfl
    rwa [Gf.xor_self_cancel, BitVec.zero_xor] at this
  · rintro rfl
    exact BitVec.xor_self
theorem zx (a : E) : (0 : E) ^^^ a = a := BitVec.zero_xor
theorem xz (a : E) : a ^^^ (0 : E) = a := BitVec.xor_zero
def addF (f g : Nat → E) : Nat → E := fun i => f i ^^^ g i
def sclF (c : E) (f : Nat → E) : Nat → E := fun i => Gf.mul c (f i)
def X (f : Nat → E) : Nat → E
  | 0 => 0
  | i + 1 => f i
def Xn (k : Nat) (f : Nat → E) : Nat → E := fun i => if k ≤ i then f (i - k) else 0
theorem X_add (f g : Nat → E) : X (addF f g) = addF (X f) (X g) := by
  funext i
  cases i <;> simp [X, addF]
theorem X_scl (c : E) (f : Nat → E) : X (sclF c f) = sclF c (X f) := by
  funext i
  cases i <;> simp [X, sclF, mz]
theorem X_zero : X (fun _ => 0) = fun _ => 0 := by
  funext i
  cases i <;> rfl
theorem Xn_zero (f : Nat → E) : Xn 0 f = f := by
  funext i; simp [Xn]
theorem Xn_succ (k : Nat) (f : Nat → E) : Xn (k + 1) f = X (Xn k f) := by
  funext i
  cases i with
  | zero => simp [Xn, X]
  | succ i =>
    show (if k + 1 ≤ i + 1 then f (i + 1 - (k + 1)) else 0) = if k ≤ i then f (i - k) else 0
    by_cases h : k ≤ i
    · rw [if_pos (by omega), if_pos h, show i + 1 - (k + 1) = i - k from by omega]
    · rw [if_neg (by omega), if_neg h]
theorem addF_zero (f : Nat → E) : addF f (fun _ => 0) = f := by funext i; simp [addF]
theorem zero_addF (f : Nat → E) : addF (fun _ => 0) f = f := by funext i; simp [addF]
theorem addF_comm (f g : Nat → E) : addF f g = addF g f := by funext i; exact BitVec.xor_comm _ _
theorem addF_assoc (f g h : Nat → E) : addF (addF f g) h = addF f (addF g h) := by funext i; exact BitVec.xor_assoc _ _ _
theorem addF_swap (f g h k : Nat → E) : addF (addF f g) (addF h k) = addF (addF f h) (addF g k) := by funext i; exact xor_swap _ _ _ _
theorem addF_self (f : Nat → E) : addF f f = fun _ => 0 := by funext i; exact BitVec.xor_self
theorem sclF_add (c : E) (f g : Nat → E) : sclF c (addF f g) = addF (sclF c f) (sclF c g) := by funext i; exact Gf.mul_xor _ _ _
theorem sclF_scl (c d : E) (f : Nat → E) : sclF c (sclF d f) = sclF d (sclF c f) := by
  funext i
  show Gf.mul c (Gf.mul d (f i)) = Gf.mul d (Gf.mul c (f i))
  rw [← Gf.mul_assoc, ← Gf.mul_assoc, Gf.mul_comm c d]
theorem sclF_zero (c : E) : sclF c (fun _ => 0) = fun _ => 0 := by funext i; exact Gf.mul_zero c
theorem zero_sclF (f : Nat → E) : sclF 0 f = fun _ => 0 := by funext i; exact Gf.zero_mul _
theorem sclF_one (f : Nat → E) : sclF 1 f = f := by funext i; exact Gf.one_mul _

/-- the product of a list and a coefficient function -/
def mulL : List E → (Nat → E) → (Nat → E)
  | [], _ => fun _ => 0
  | a :: p, f => addF (sclF a f) (X (mulL p f))
theorem mulL_add (p : List E) (f g : Nat → E) : mulL p (addF f g) = addF (mulL p f) (mulL p g) := by
  induction p with
  | nil => rw [mulL, mulL, mulL, addF_zero]
  | cons a p ih => rw [mulL, mulL, mulL, ih, sclF_add, X_add, addF_swap]
theorem mulL_scl (p : List E) (c : E) (f : Nat → E) : mulL p (sclF c f) = sclF c (mulL p f) := by
  induction p with
  | nil => rw [mulL, mulL, sclF_zero]
  | cons a p ih => rw [mulL, mulL, ih, sclF_add, X_scl, sclF_scl]
theorem mulL_X (p : List E) (f : Nat → E) : mulL p (X f) = X (mulL p f) := by
  induction p with
  | nil => rw [mulL, mulL, X_zero]
  | cons a p ih => rw [mulL, mulL, ih, X_add, X_scl]
theorem mulL_zero (p : List E) : mulL p (fun _ => 0) = fun _ => 0 := by
  induction p with
  | nil => rfl
  | cons a p ih => rw [mulL, ih, sclF_zero, X_zero, addF_zero]
theorem mulL_swap (p q : List E) (f : Nat → E) : mulL p (mulL q f) = mulL q (mulL p f) := by
  induction p with
  | nil => rw [mulL, mulL, mulL_zero]
  | cons a p ih => rw [mulL, mulL, mulL_add, mulL_scl, mulL_X, ih]
def oneF : Nat → E := fun i => if i = 0 then 1 else 0
theorem mulL_oneF (p : List E) : mulL p oneF = cf p := by
  induction p with
  | nil => rw [mulL, cf_nil]
  | cons a p ih =>
    rw [mulL, ih]
    funext i
    cases i with
    | zero => simp [addF, sclF, X, oneF, mo, cf_zero]
    | succ i => simp [addF, sclF, X, oneF, mz, cf_cons]
theorem mulL_comm (p q : List E) : mulL p (cf q) = mulL q (cf p) := by
  rw [← mulL_oneF q, ← mulL_oneF p, mulL_swap]
theorem mulL_congr {p q : List E} (h : cf p = cf q) (l : List E) : mulL p (cf l) = mulL q (cf l) := by
  rw [mulL_comm, h, mulL_comm]
theorem mulL_assoc {p q r : List E} (h : cf r = mulL p (cf q)) (t : List E) : mulL r (cf t) = mulL p (mulL q (cf t)) := by
  rw [mulL_comm, h, mulL_swap, mulL_comm t q]
theorem mulL_snoc (p : List E) (c : E) (f : Nat → E) : mulL (p ++ [c]) f = addF (mulL p f) (Xn p.length (sclF c f)) := by
  induction p with
  | nil => rw [List.nil_append, mulL, mulL, mulL, X_zero, addF_zero, zero_addF, List.length_nil, Xn_zero]
  | cons a p ih => rw [List.cons_append, mulL, mulL, ih, X_add, List.length_cons, Xn_succ, addF_assoc]
theorem take_snoc {l : List E} {k : Nat} (h : k < l.length) : l.take (k + 1) = l.take k ++ [cf l k] := by
  rw [List.take_succ_eq_append_getElem h]
  congr 2
  simp [cf, h]
theorem mulL_take {l : List E} {k : Nat} (h : k < l.length) (f : Nat → E) : mulL (l.take (k + 1)) f = addF (mulL (l.take k) f) (Xn k (sclF (cf l k) f)) := by
  rw [take_snoc h, mulL_snoc, List.length_take, Nat.min_eq_left (by omega)]
/-- what is beyond the sum of the lengths is 0 -/
theorem mulL_ge (p : List E) (f : Nat → E) (n : Nat) (hf : ∀ i, n ≤ i → f i = 0) : ∀ i, p.length + n ≤ i + 1 → mulL p f i = 0 := by
  induction p with
  | nil => intro i _; rfl
  | cons a p ih =>
    intro i hi
    simp only [List.length_cons] at hi
    show Gf.mul a (f i) ^^^ X (mulL p f) i = 0
    rw [hf i (by omega), Gf.mul_zero, zx]
    cases i with
    | zero => rfl
    | succ i => exact ih i (by omega)
/-- the product's last coefficient -/
theorem mulL_lead (p : List E) (f : Nat → E) (n : Nat) (hf : ∀ i, n < i → f i = 0) (hp : p ≠ []) : mulL p f (p.length - 1 + n) = Gf.mul (cf p (p.length - 1)) (f n) := by
  induction p with
  | nil => exact absurd rfl hp
  | cons a p ih =>
    cases p with
    | nil =>
      show Gf.mul a (f _) ^^^ X (fun _ => 0) _ = _
      rw [X_zero]
      simp [cf]
    | cons b p =>
      have := ih (by simp)
      show Gf.mul a (f _) ^^^ X (mulL (b :: p) f) _ = _
      simp only [List.length_cons, Nat.add_sub_cancel] at this ⊢
      rw [hf _ (by omega), Gf.mul_zero, zx, show p.length + 1 + n = (p.length + n) + 1 from by omega]
      show mulL (b :: p) f (p.length + n) = _
      rw [this, cf_cons]

/-! ### values -/
def ev : List E → E → E
  | [], _ => 0
  | a :: p, x => a ^^^ Gf.mul x (ev p x)
theorem ev_append (p q : List E) (x : E) : ev (p ++ q) x = ev p x ^^^ Gf.mul (Gf.pow x p.length) (ev q x) := by
  induction p with
  | nil => rw [List.nil_append, ev, List.length_nil, Gf.pow, Gf.one_mul]; exact (zx _).symm
  | cons a p ih =>
    rw [List.cons_append, ev, ev, ih, Gf.mul_xor, List.length_cons, Gf.pow, ← Gf.mul_assoc, ← BitVec.xor_assoc, Gf.mul_comm x (Gf.pow x p.length)]
theorem ev_take {l : List E} {k : Nat} (h : k < l.length) (x : E) : ev (l.take (k + 1)) x = ev (l.take k) x ^^^ Gf.mul (cf l k) (Gf.pow x k) := by
  rw [take_snoc h, ev_append, List.length_take, Nat.min_eq_left (by omega), ev, ev, Gf.mul_zero, xz, Gf.mul_comm]
theorem ev_drop {l : List E} {k : Nat} (h : k < l.length) (x : E) : ev (l.drop k) x = cf l k ^^^ Gf.mul x (ev (l.drop (k + 1)) x) := by
  rw [List.drop_eq_getElem_cons h, ev]
  simp [cf, h]
theorem ev_zero {p : List E} (h : cf p = fun _ => 0) (x : E) : ev p x = 0 := by
  induction p with
  | nil => rfl
  | cons a p ih =>
    have h0 : a = 0 := by rw [← cf_zero a p, h]
    have h1 : cf p = fun _ => 0 := by funext i; rw [← cf_cons a p i, h]
    rw [ev, ih h1, h0, Gf.mul_zero, xz]
theorem ev_congr {p q : List E} (h : cf p = cf q) (x : E) : ev p x = ev q x := by
  induction p generalizing q with
  | nil => exact (ev_zero (by rw [← h, cf_nil]) x).symm
  | cons a p ih =>
    cases q with
    | nil => exact ev_zero (by rw [h, cf_nil]) x
    | cons b q =>
      have h0 : a = b := by rw [← cf_zero a p, h, cf_zero]
      have h1 : cf p = cf q := by funext i; rw [← cf_cons a p i, h, cf_cons]
      rw [ev, ev, ih h1, h0]
theorem ev_add {p q r : List E} (h : cf r = addF (cf p) (cf q)) (x : E) : ev r x = ev p x ^^^ ev q x := by
  induction r generalizing p q with
  | nil =>
    rw [ev, eq_comm, xor_eq_zero]
    apply ev_congr
    funext i
    have := congrFun h i
    rw [cf_nil] at this
    exact xor_eq_zero.1 this.symm
  | cons c r ih =>
    have hp : cf p = cf (cf p 0 :: p.tail) := by
      funext i
      cases p <;> cases i <;> simp [cf]
    have hq : cf q = cf (cf q 0 :: q.tail) := by
      funext i
      cases q <;> cases i <;> simp [cf]
    have h0 : c = cf p 0 ^^^ cf q 0 := by rw [← cf_zero c r, h]; rfl
    have h1 : cf r = addF (cf p.tail) (cf q.tail) := by
      funext i
      rw [← cf_cons c r i, h, hp, hq]
      show cf _ (i + 1) ^^^ cf _ (i + 1) = _
      rw [cf_cons, cf_cons]
      rfl
    rw [ev_congr hp, ev_congr hq, ev, ev, ev, ih h1, h0, Gf.mul_xor, xor_swap]
theorem ev_scl {p r : List E} {c : E} (h : cf r = sclF c (cf p)) (x : E) : ev r x = Gf.mul c (ev p x) := by
  induction p generalizing r with
  | nil =>
    rw [ev_zero (by rw [h, cf_nil, sclF_zero])]
    exact (Gf.mul_zero c).symm
  | cons a p ih =>
    have hr : cf r = cf (cf r 0 :: r.tail) := by
      funext i
      cases r <;> cases i <;> simp [cf]
    have h0 : cf r 0 = Gf.mul c a := by rw [h]; simp [sclF, cf_zero]
    have h1 : cf r.tail = sclF c (cf p) := by
      funext i
      have := congrFun h (i + 1)
      rw [hr, cf_cons] at this
      rw [this]
      simp [sclF, cf_cons]
    rw [ev_congr hr, ev, ev, ih h1, h0, Gf.mul_xor, ← Gf.mul_assoc, ← Gf.mul_assoc, Gf.mul_comm x c]
theorem ev_X {p r : List E} (h : cf r = X (cf p)) (x : E) : ev r x = Gf.mul x (ev p x) := by
  have : cf r = cf (0 :: p) := by
    rw [h]
    funext i
    cases i <;> simp [X, cf]
  rw [ev_congr this, ev, zx]
theorem ev_mul {p q r : List E} (h : cf r = mulL p (cf q)) (x : E) : ev r x = Gf.mul (ev p x) (ev q x) := by
  induction p generalizing r with
  | nil => rw [ev_zero h, ev, Gf.zero_mul]
  | cons a p ih =>
    rw [mulL] at h
    have hs : cf (mk q.length (sclF a (cf q))) = sclF a (cf q) := by
      funext i
      rw [cf_mk]
      split
      · rfl
      · show 0 = Gf.mul a (cf q i)
        rw [cf_ge (by omega), Gf.mul_zero]
    have hm : cf (mk (p.length + q.length) (mulL p (cf q))) = mulL p (cf q) := by
      funext i
      rw [cf_mk]
      split
      · rfl
      · exact (mulL_ge p _ q.length (fun i hi => cf_ge hi) i (by omega)).symm
    have hx : cf (0 :: mk (p.length + q.length) (mulL p (cf q))) = X (mulL p (cf q)) := by
      funext i
      cases i with
      | zero => rfl
      | succ i => rw [cf_cons, hm]; rfl
    rw [ev_add (p := mk q.length (sclF a (cf q))) (q := 0 :: mk (p.length + q.length) (mulL p (cf q))) (by rw [h, hs, hx]), ev_scl hs, ev, ev, zx, ih hm, Gf.xor_mul, Gf.mul_assoc]
end Go.Proofs.Ytamigcbodplmcaa.Po

/-! A range over a function whose body is told what the iterator has just read. Nothing of the program. -/
namespace Go.Proofs.Ytamigcbodplmcaa
open Go Go.RowKit

/-- the iterator's contract: at state s it reads x in the world and, the round done, is at s' -/
def Iterates {σ α : Type} (F : Fence) (n : Nat) (P : Program) (g : Nat) (lb : Array Value) (encs : α → Array Value) (Kp : World → World → Prop) (s0 : σ) (Rd : σ → World → α → σ → Prop) (fin : σ → Prop) (w : World) : Prop :=
  ∀ (l : Nat) (J Jx : σ → World → Prop) (W : World), Below w.heap.size w W → AbidesFrom W.heap.size J → AbidesFrom W.heap.size Jx →
    (∀ s x s' W1, J s W1 → Rd s W1 x s' → YieldAt F (n - 1) P l (encs x) W1 fun e W2 =>
      (e = .returned (.bool true) ∧ J s' W2 ∧ Kp W1 W2) ∨ (e = .returned (.bool false) ∧ Jx s' W2)) →
    J s0 W → CallsIn F n P g (#[.func (.yield l) #[] #[]] ++ lb) W fun e W2 => (∃ v, e = .returned v) ∧ ((∃ s, fin s ∧ J s W2) ∨ ∃ s, Jx s W2)

/-- how a round's body may be left -/
def toldPost {σ : Type} (B : Nat) (Kp : World → World → Prop) (I : σ → World → Prop) (Ix : Code → σ → World → Prop) (s : σ) (W : World) : Exit → Act → World → Prop
  | .normal, _, W' => KeepsFrom B W W' ∧ Kp W W' ∧ I s W'
  | .ret, _, W' => KeepsFrom B W W' ∧ Ix .ret s W'
  | .exit id, _, W' => KeepsFrom B W W' ∧ Ix (.exit id) s W'
  | .goto t, _, W' => KeepsFrom B W W' ∧ Ix (.goto t) s W'
  | .panic _, _, _ => False
  | .outgrown, _, _ => False

section
variable {F : Fence} {n : Nat} {P : Program}

theorem wpIn_range_told {σ α : Type} {g : Operand} {ps : Array Tmp} {assign body : Code} {Q : Exit → Act → World → Prop} {a : Act} {w : World}
    (hro : F.round = none) (h1 : 1 ≤ n) {gf : Nat} {lb : Array Value} (hg : a.eval g = .func (.func gf) #[] lb) (hFg : F.fn gf) (eg : ∀ args w, (callFunc gf args).run P w = .ok (.enter gf args) w)
    {encs : α → Array Value} {Kp : World → World → Prop} {s0 : σ} {Rd : σ → World → α → σ → Prop} {fin : σ → Prop} {w0 : World}
    (hseq : Iterates F (n - 1) P gf lb encs Kp s0 Rd fin w0) (hb0 : Below w0.heap.size w0 w) (hps : ∀ x, (encs x).size = ps.size)
    (hKt : ∀ {A B C : World}, Kp A B → Kp B C → Kp A C)
    (hKb : ∀ (W : World) (l : Nat) (o o' : Obj), w.heap.size ≤ l → W.heap[l]? = some o → o.isCells = false → Kp W (W.putObj l o'))
    (hRd : ∀ x s', OwnFrom w.heap.size (fun s W => Rd s W x s'))
    (I : σ → World → Prop) (Ix : Code → σ → World → Prop) (hI : OwnFrom w.heap.size I) (hIx : ∀ c, OwnFrom w.heap.size (Ix c)) (h0 : I s0 w) (a₁ : α → Act)
    (hassign : ∀ (l : Nat) (x : α) (W : World) (K : Act → World → Prop), K (a₁ x) W →
      assign.wpIn (F.inRound l) (n - 1 - 1) P (Exit.then K (fun _ _ _ => False)) { tmps := (ps.zip (encs x)).foldl (fun t (p, v) => t.setIfInBounds p v) a.tmps, defers := [] } W)
    (hbody : ∀ (l : Nat) (s : σ) (x : α) (s' : σ) (W : World), I s W → Rd s W x s' → w.heap.size ≤ W.heap.size → body.wpIn (F.inRound l) (n - 1 - 1) P (toldPost w.heap.size Kp I Ix s' W) (a₁ x) W)
    (hdone : ∀ (D : Nat) (s : σ) (W : World), w.heap.size ≤ D → fin s → I s W → W.heap[D]? = some (.deferred (some [])) → Q .normal { a with defers := { target := .collected D, args := #[] } :: a.defers } W)
    (hstop : ∀ (D : Nat) (c : Code) (s : σ) (W : World), w.heap.size ≤ D → Ix c s W → W.heap[D]? = some (.deferred (some [])) → c.wpIn F n P Q { a with defers := { target := .collected D, args := #[] } :: a.defers } W) :
    (Code.rangeFunc g ps assign body).wpIn F n P Q a w := by
  refine wpIn_rangeFunc fun fn hfn => ?_
  rw [hro]
  generalize hD : w.heap.size = D at *
  -- the loop's record, by its state and its pending jump
  let rec_ : LoopState → Option Code → Loop := fun st pe => { state := st, pending := pe, fn, tmps := a.tmps, params := ps, assign, body, defers := D }
  have hout := run_enterLoop_outer (P := P) (w := w) fn a.tmps ps assign body
  rw [hD] at hout
  generalize hW1 : (w.alloc (.deferred (some []))).alloc (.loop (rec_ .ready none)) = W1
  have hs1 : W1.heap.size = D + 2 := by rw [← hW1]; simp [hD]
  have hm1 : W1.heap[D]? = some (.deferred (some [])) := by
    rw [← hW1, Below.heap_alloc _ _ _ (by simp [hD])]
    have := World.alloc_heap_new w (.deferred (some []))
    rwa [hD] at this
  have hl1 : W1.heap[D + 1]? = some (.loop (rec_ .ready none)) := by
    rw [← hW1]
    have := World.alloc_heap_new (w.alloc (.deferred (some []))) (.loop (rec_ .ready none))
    rwa [World.size_alloc, hD] at this
  have hI1 : I s0 W1 := by rw [← hW1]; exact hI.alloc _ (hI.alloc _ h0)
  have hbw : Below w0.heap.size w0 W1 := by
    rw [← hW1]
    exact (hb0.alloc hb0.size _).alloc (by rw [World.size_alloc]; have := hb0.size; omega) _
  refine ⟨D + 1, [{ target := .collected D, args := #[] }], W1, { target := .fn (.func gf) lb, args := #[.func (.yield (D + 1)) #[] #[]] }, W1, gf,
    #[.func (.yield (D + 1)) #[] #[]] ++ lb, W1, by rw [← hW1]; exact hout, ?_, ?_, ?_, fun _ => h1, ?_⟩
  · simp only [resolve, hg]
    simp [go_sem]
  · intro f' hf'
    simp [Target.leads] at hf'
    subst hf'
    exact hFg
  · simp [invoke, go_sem, eg]
  -- what the iterator keeps of the two blocks
  have hkeep : ∀ {A B : World} {row : Option Nat} {k : Nat} {o : Obj}, A.grownBy B row → (∀ r, row = some r → W1.heap.size ≤ r ∧ ∃ o : Obj, A.heap[r]? = some o ∧ o.isWalk = true) → A.heap[k]? = some o → o.isWalk = false → B.heap[k]? = some o :=
    fun hgr hr hk ho => (grownBy_keeps hgr (fun r e => (hr r e).2) hk ho).trans hk
  have hrow : ∀ {A : World} {row : Option Nat}, (∀ r, row = some r → W1.heap.size ≤ r ∧ ∃ o : Obj, A.heap[r]? = some o ∧ o.isWalk = true) → (∀ r, row = some r → D ≤ r ∧ ∃ o : Obj, A.heap[r]? = some o ∧ o.isCells = false) :=
    fun hr r e => by
      obtain ⟨h1, o, ho, hw⟩ := hr r e
      exact ⟨by omega, o, ho, Obj.not_cells_of_walk hw⟩
  refine (hseq (D + 1) (fun s W => I s W ∧ W.heap[D + 1]? = some (.loop (rec_ .ready none)) ∧ W.heap[D]? = some (.deferred (some [])))
    (fun s W => ∃ c, Ix c s W ∧ W.heap[D + 1]? = some (.loop (rec_ .done (some c))) ∧ W.heap[D]? = some (.deferred (some []))) W1 hbw
    (fun s A B row hs hgr hr => ⟨hI s A B row hs.1 hgr (hrow hr), hkeep hgr hr hs.2.1 rfl, hkeep hgr hr hs.2.2 rfl⟩)
    (fun s A B row ⟨c, hc, hl, hm⟩ hgr hr => ⟨c, hIx c s A B row hc hgr (hrow hr), hkeep hgr hr hl rfl, hkeep hgr hr hm rfl⟩)
    ?_ ⟨hI1, hl1, hm1⟩).mono ?_
  · rintro s x s' W ⟨hi, hl, hm⟩ hrd
    have hlt : D + 1 < W.heap.size := (Array.getElem?_eq_some_iff.1 hl).1
    refine ⟨fn, _, assign, body, run_yield (P := P) hl (hps x), roundIn_of_wpIn hfn (hassign _ x W _ ⟨_, run_beginRound hl rfl, ?_⟩)⟩
    have hlb := World.putObj_heap_same (w := W) (o := .loop { rec_ .ready none with state := .busy }) hlt
    have hmb := (World.putObj_heap_other (w := W) (r := D + 1) (o := .loop { rec_ .ready none with state := .busy }) (show D ≠ D + 1 by omega)).trans hm
    have hkb := hKb W (D + 1) _ (.loop { rec_ .ready none with state := .busy }) (by omega) hl rfl
    have hib := hI.putObj (.loop { rec_ .ready none with state := .busy }) hi (by omega) hl rfl
    have hrb := (hRd x s').putObj (.loop { rec_ .ready none with state := .busy }) hrd (by omega) hl rfl
    refine wpIn_mono (hbody _ s x s' _ hib hrb (by rw [World.putObj_size]; omega)) ?_
    -- what 'endRound' leaves
    have fin_ : ∀ (jump : Option Code) (W3 : World), KeepsFrom D (W.putObj (D + 1) (.loop { rec_ .ready none with state := .busy })) W3 →
        ∃ W4, W4 = W3.putObj (D + 1) (.loop (rec_ (if jump.isNone then .ready else .done) jump)) ∧ (Instr.endRound (D + 1) jump).run P W3 = .ok (.bool jump.isNone) W4 ∧
          W3.heap[D + 1]? = some (.loop { rec_ .ready none with state := .busy }) ∧ W4.heap[D + 1]? = some (.loop (rec_ (if jump.isNone then .ready else .done) jump)) ∧ W4.heap[D]? = some (.deferred (some [])) := fun jump W3 hk3 => by
      have hl3 := hk3.same _ _ (by omega) hlb rfl
      exact ⟨_, rfl, run_endRound (P := P) jump hl3, hl3, World.putObj_heap_same (Array.getElem?_eq_some_iff.1 hl3).1, (World.putObj_heap_other (by omega)).trans (hk3.same _ _ (Nat.le_refl _) hmb rfl)⟩
    rintro e a3 W3 hp
    rcases e with _ | id | t | _ | _ | _
    · obtain ⟨hk3, hkp, hi3⟩ := hp
      obtain ⟨W4, rfl, hr, hl3, hl4, hm4⟩ := fin_ none W3 hk3
      exact ⟨_, _, hr, .inl ⟨rfl, ⟨hI.putObj _ hi3 (by omega) hl3 rfl, hl4, hm4⟩, hKt hkb (hKt hkp (hKb _ _ _ _ (by omega) hl3 rfl))⟩⟩
    all_goals first
      | exact hp.elim
      | (obtain ⟨hk3, hi3⟩ := hp
         obtain ⟨W4, rfl, hr, hl3, hl4, hm4⟩ := fin_ (some _) W3 hk3
         exact ⟨_, _, hr, .inr ⟨rfl, _, (hIx _).putObj _ hi3 (by omega) hl3 rfl, hl4, hm4⟩⟩)
  · rintro e W2 ⟨⟨v, rfl⟩, ⟨s, hf, hi, hl, hm⟩ | ⟨s, c, hi, hl, hm⟩⟩
    · exact ⟨none, _, run_endLoop (P := P) hl (by simp [rec_]), hdone D s _ (Nat.le_refl _) hf (hI.putObj _ hi (by omega) hl rfl) ((World.putObj_heap_other (by omega)).trans hm)⟩
    · exact ⟨some c, _, run_endLoop (P := P) hl (by simp [rec_]), hstop D c s _ (Nat.le_refl _) ((hIx c).putObj _ hi (by omega) hl rfl) ((World.putObj_heap_other (by omega)).trans hm)⟩
end

/-! what speaks of cells abides the loop's book-keeping -/
theorem Has.kept {W W' : World} {row : Option Nat} {g : Nat} {t : TypeId} {cs : Array Value} (h : Has W g t cs) (hg : W.grownBy W' row) (hr : ∀ r, row = some r → ∃ o : Obj, W.heap[r]? = some o ∧ o.isCells = false) : Has W' g t cs :=
  (grownBy_keeps_cells hg hr h rfl).trans h
theorem Has.putObj {W : World} {g l : Nat} {t : TypeId} {cs : Array Value} {o : Obj} (h : Has W g t cs) (o' : Obj) (hl : W.heap[l]? = some o) (ho : o.isCells = false) : Has (W.putObj l o') g t cs :=
  h.kept (grownBy_putObj' W l o') (fun r e => by cases e; exact ⟨o, hl, ho⟩)
theorem below_putObj {B l : Nat} {a w : World} (hb : Below B a w) (hB : B ≤ w.heap.size) (hl : B ≤ l) (o : Obj) : Below B a (w.putObj l o) :=
  hb.grown (grownBy_putObj' w l o) hB (fun k e => by cases e; exact hl)

/-! the way out -/
/-- a type whose variable is one cell -/
def Flat (P : Program) (t : TypeId) : Prop := ∃ d, P.underlying t = some d ∧ d.isRow = false
theorem run_loadVar_flat {P : Program} {t : TypeId} (ht : Flat P t) {w : World} {p : Addr} {v : Value} (hc : w.cell? p = some v) : (loadVar t p).run P w = .ok v w := by
  obtain ⟨d, hu, hd⟩ := ht
  have hagg : (isAgg t).run P w = .ok false w := by
    unfold isAgg
    rw [Sem.run_bind, run_underlying hu w]
    cases d <;> simp_all
  simp [loadVar, Sem.run_bind, hagg, hc]
theorem leaves_cell {P : Program} {fn : Func} {n : Nat} {p : Tmp} {ty : TypeId} (h : fn.results = #[.cell p ty]) (ht : Flat P ty) {tmps : Array Value} {D g : Nat} {w : World} {v : Value} {R : Ending → World → Prop}
    (hp : tmps.getD p undef = .pointer (some ⟨g, 0, none⟩)) (hK : w.heap[D]? = some (.deferred (some []))) (hv : w.cell? ⟨g, 0, none⟩ = some v) (hR : R (.returned v) (w.putObj D (.deferred none))) :
    bodyPostM Fence.wide n P fn R .ret { tmps := tmps, defers := [{ target := .collected D, args := #[] }] } w := by
  refine ⟨by simp, .inl ⟨_, _, rfl, run_takeDeferred hK, ⟨v, ?_, hR⟩⟩⟩
  exact results_one_cell h _ _ g hp _ (run_loadVar_flat ht (cell_kept hv (grownBy_putObj' w D _) (fun r e => by cases e; exact ⟨_, hK, rfl⟩)))
theorem leaves_two {P : Program} {fn : Func} {n : Nat} {p q : Tmp} {ty ty' : TypeId} (h : fn.results = #[.cell p ty, .cell q ty']) (ht : Flat P ty) (ht' : Flat P ty') {tmps : Array Value} {D g g' : Nat} {w : World} {v v' : Value} {R : Ending → World → Prop}
    (hp : tmps.getD p undef = .pointer (some ⟨g, 0, none⟩)) (hq : tmps.getD q undef = .pointer (some ⟨g', 0, none⟩)) (hK : w.heap[D]? = some (.deferred (some []))) (hv : w.cell? ⟨g, 0, none⟩ = some v) (hv' : w.cell? ⟨g', 0, none⟩ = some v')
    (hR : R (.returned (.tuple #[v, v'])) (w.putObj D (.deferred none))) :
    bodyPostM Fence.wide n P fn R .ret { tmps := tmps, defers := [{ target := .collected D, args := #[] }] } w := by
  refine ⟨by simp, .inl ⟨_, _, rfl, run_takeDeferred hK, ⟨.tuple #[v, v'], ?_, hR⟩⟩⟩
  have e1 := run_loadVar_flat ht (cell_kept hv (grownBy_putObj' w D (.deferred none)) (fun r e => by cases e; exact ⟨_, hK, rfl⟩))
  have e2 := run_loadVar_flat ht' (cell_kept hv' (grownBy_putObj' w D (.deferred none)) (fun r e => by cases e; exact ⟨_, hK, rfl⟩))
  rw [Array.getD_eq_getD_getElem?] at hp hq
  simp only [results, h]
  simp [hp, hq, e1, e2, asAddr]
theorem leaves_tmp {P : Program} {fn : Func} {n : Nat} {p : Tmp} (h : fn.results = #[.tmp p]) {tmps : Array Value} {D : Nat} {w : World} {v : Value} {R : Ending → World → Prop}
    (hp : tmps.getD p undef = v) (hK : w.heap[D]? = some (.deferred (some []))) (hR : R (.returned v) (w.putObj D (.deferred none))) :
    bodyPostM Fence.wide n P fn R .ret { tmps := tmps, defers := [{ target := .collected D, args := #[] }] } w := by
  refine ⟨by simp, .inl ⟨_, _, rfl, run_takeDeferred hK, ⟨v, ?_, hR⟩⟩⟩
  rw [← hp]
  exact results_tmp h _ _ _
end Go.Proofs.Ytamigcbodplmcaa

/-! poly's iterator over coefficients from the last one on. -/
namespace Go.Proofs.Ytamigcbodplmcaa
open Go Go.RowKit Go.Shelf
attribute [local go_sem] Oper.semAt_some

/-- the box that the iterator has captured, and the cells that it reads -/
def Good (Bx : Nat) (a : Option Addr) (n c : Nat) (W : World) : Prop :=
  W.cell? ⟨Bx, 0, none⟩ = some (.slice a n c) ∧ ∀ i, i < n → ∃ ad x, a = some ad ∧ W.cell? (ad.add i) = some (.int .u32 (nb32 x))
theorem Good.keep {Bx : Nat} {a : Option Addr} {n c : Nat} {W W' : World} (h : Good Bx a n c W) (hk : ∀ p v, W.cell? p = some v → W'.cell? p = some v) : Good Bx a n c W' := by
  refine ⟨hk _ _ h.1, fun i hi => ?_⟩
  obtain ⟨ad, x, e, hx⟩ := h.2 i hi
  exact ⟨ad, x, e, hk _ _ hx⟩
/-- what the iterator reads at place k -/
def Reading (a : Option Addr) (k : Nat) (W : World) (x : Nat × BitVec 32) (k' : Nat) : Prop :=
  k = k' + 1 ∧ x.1 = k' ∧ ∃ ad, a = some ad ∧ W.cell? (ad.add k') = some (.int .u32 (nb32 x.2))
def encR (x : Nat × BitVec 32) : Array Value := #[.int .i64 (x.1 : Int), .int .u32 (nb32 x.2)]

theorem Good.put {Bx : Nat} {a : Option Addr} {n c : Nat} {W : World} {l : Nat} {o : Obj} (o' : Obj) (ho : W.heap[l]? = some o) (hc : o.isCells = false) (h : Good Bx a n c W) : Good Bx a n c (W.putObj l o') :=
  h.keep fun _ _ hp => cell_kept hp (grownBy_putObj' W l o') (fun r e => by cases e; exact ⟨o, ho, hc⟩)
theorem reading_own (B : Nat) (a : Option Addr) (x : Nat × BitVec 32) (s' : Nat) : OwnFrom B (fun s W => Reading a s W x s') := fun s W W' row h hg hr => by
  obtain ⟨h1, h2, ad, h3, h4⟩ := h
  exact ⟨h1, h2, ad, h3, cell_kept h4 hg (fun r e => (hr r e).2)⟩
theorem below_own {B : Nat} {w W W' : World} {row : Option Nat} (h : Below w.heap.size w W) (hB : w.heap.size ≤ B) (hg : W.grownBy W' row) (hr : ∀ r, row = some r → B ≤ r ∧ ∃ o : Obj, W.heap[r]? = some o ∧ o.isCells = false) : Below w.heap.size w W' :=
  h.grown hg h.size (fun k e => by have := (hr k e).1; omega)
theorem Has.own {B : Nat} {W W' : World} {row : Option Nat} {g : Nat} {t : TypeId} {cs : Array Value} (h : Has W g t cs) (hg : W.grownBy W' row) (hr : ∀ r, row = some r → B ≤ r ∧ ∃ o : Obj, W.heap[r]? = some o ∧ o.isCells = false) : Has W' g t cs :=
  h.kept hg (fun r e => (hr r e).2)
theorem fromLast_any (a : Option Addr) (n c : Nat) (w : World) :
    Calls Try.prog 65 #[.slice a n c] w fun e w' =>
      e = .returned (.func (.func 76) #[] #[.pointer (some ⟨w.heap.size, 0, none⟩)]) ∧ w' = w.alloc (.cells #[.slice a n c] 22) := by
  go_enter Try.func65, Try.ntmps65
  go_wp2
  go_ret
  exact ⟨rfl, rfl⟩

set_option maxHeartbeats 1000000 in
theorem fromLast_iter (m : Nat) (hm : 1 ≤ m) (Bx : Nat) (a : Option Addr) (n c : Nat) (hn : n ≤ maxLen) (w : World) (hg : Good Bx a n c w) :
    Iterates Fence.wide m Try.prog 76 #[.pointer (some ⟨Bx, 0, none⟩)] encR (fun W W' => Good Bx a n c W → Good Bx a n c W') n (Reading a) (fun k => k = 0) w := by
  intro l J Jx W hW hJ hJx hY h0
  have hgW : Good Bx a n c W := hg.keep fun p v hp => (hW.cell (isSome_lt (by rw [hp]; rfl))).trans hp
  have hb := hgW.1
  unfold maxLen at hn
  refine callsIn_of_wp Try.func76 rfl trivial ?_ rfl
  simp only [Try.ntmps76, List.size_toArray, List.length_cons, List.length_nil, Nat.reduceAdd, Nat.reduceSub, Array.replicate_succ, Array.replicate_zero, List.push_toArray, List.append_toArray, List.nil_append, List.cons_append]
  gi_wp2
  gi_loopw [3] (fun i wr => ∃ k : Nat, k ≤ n ∧ i = .int .i64 ((k : Int) - 1) ∧ J k wr ∧ Good Bx a n c wr) (fun i _ => (intOf i + 1).toNat)
  case atStart => exact ⟨n, Nat.le_refl _, rfl, h0, hgW⟩
  case round =>
    obtain ⟨k, hk, rfl, hJs, hgr⟩ := hrel
    cases k with
    | zero =>
      gi_wp2
      go_end0
      exact ⟨⟨_, rfl⟩, .inl ⟨0, rfl, hJs⟩⟩
    | succ k =>
      obtain ⟨ad, x, rfl, hx⟩ := hgr.2 k (by omega)
      have hbr := hgr.1
      obtain ⟨fn, tmps, assign, body, hy, hR⟩ := hY (k + 1) (k, x) k wr hJs ⟨rfl, rfl, ad, rfl, hx⟩
      dsimp only [encR] at hy
      have e1 : ((k + 1 : Nat) : Int) - 1 = (k : Int) := by omega
      rw [e1]
      gi_wp2
      refine hR.mono ?_
      rintro e W3 (⟨rfl, hJ3, hk3⟩ | ⟨rfl, hJx3⟩)
      · gi_wp2
        go_roundw
        case rel => exact ⟨k, by omega, rfl, hJ3, hk3 hgr⟩
        case measure => simp [intOf]
      · gi_wp2
        refine bodyPost_ret (results_none rfl _ _ _) rfl ?_
        exact ⟨⟨_, rfl⟩, .inr ⟨_, hJx3⟩⟩

/-- a walk at the wide fence is a contract -/
theorem calls_of_wide {P : Program} {f : FuncId} {args : Array Value} {w : World} {R : Ending → World → Prop} (h : CallsIn Fence.wide 5 P f args w R) : Calls P f args w R := callsIn_wide.1 h

theorem cell_fresh (w : World) (v : Value) (t : TypeId) : (w.alloc (.cells #[v] t)).cell? ⟨w.heap.size, 0, none⟩ = some v := (Has.fresh w t #[v]).cell 0
theorem Good.fresh {w : World} {a : Option Addr} {n c : Nat} {l : List (BitVec 32)} (h : Words32 w a n l) (t : TypeId) : Good w.heap.size a n c (w.alloc (.cells #[.slice a n c] t)) := by
  refine ⟨cell_fresh _ _ _, fun i hi => ?_⟩
  obtain ⟨ad, e, hx⟩ := h.2.2 i hi
  exact ⟨ad, _, e, (World.cell?_alloc_lt w _ _ (isSome_lt (by rw [hx]; rfl))).trans hx⟩

set_option maxHeartbeats 1000000 in
theorem pdegree_any (a : Option Addr) (n c : Nat) (l : List (BitVec 32)) (w : World) (h : Words32 w a n l) :
    Calls Try.prog 50 #[.slice a n c] w fun e w' => e = .returned (.int .i64 ((Po.len1 l : Int) - 1)) ∧ Below w.heap.size w w' := by
  apply calls_of_wide
  refine callsIn_of_wp_marks Try.func50 rfl trivial ?_ rfl
  simp only [Try.ntmps50, List.size_toArray, List.length_cons, List.length_nil, Nat.reduceAdd, Nat.reduceSub, Array.replicate_succ, Array.replicate_zero, List.push_toArray, List.append_toArray, List.nil_append, List.cons_append]
  gi_wp2_with (refine ⟨trivial, ?_⟩; gi_at_call 65; refine (callsIn_wide.2 (fromLast_any _ _ _ _)).mono ?_; rintro e w' ⟨rfl, rfl⟩)
  have hH := Has.fresh w 3 #[.int .i64 0]
  have hgd := Good.fresh (c := c) (h.keep (w' := w.alloc (.cells #[.int .i64 0] 3)) fun p hp => World.cell?_alloc_lt w _ _ (isSome_lt hp)) 22
  rw [World.size_alloc] at hgd
  obtain ⟨W2, hW2⟩ : ∃ W2, (w.alloc (.cells #[.int .i64 0] 3)).alloc (.cells #[.slice a n c] 22) = W2 := ⟨_, rfl⟩
  have hH2 : Has W2 w.heap.size 3 #[.int .i64 0] := by rw [← hW2]; exact hH.past _
  have hb2 : Below w.heap.size w W2 := by rw [← hW2]; exact ((Below.refl _ w).alloc (Nat.le_refl _) _).alloc (by simp) _
  have hs2 : W2.heap.size = w.heap.size + 1 + 1 := by rw [← hW2]; simp
  rw [hW2] at hgd ⊢
  obtain ⟨hl, hm, hc⟩ := h
  refine wpIn_range_told (F := Fence.wide) rfl (by omega) (gf := 76) (lb := #[.pointer (some ⟨w.heap.size + 1, 0, none⟩)]) rfl trivial (enters_of Try.func76 (by kernel_rfl) rfl)
    (fromLast_iter 4 (by omega) (w.heap.size + 1) a n c hm W2 hgd) (Below.refl _ _) (fun _ => rfl)
    (fun h1 h2 h => h2 (h1 h)) ?kb ?rd
    (fun k W => k ≤ n ∧ (∀ i, k ≤ i → Po.cf l i = 0) ∧ Has W w.heap.size 3 #[.int .i64 0] ∧ Below w.heap.size w W)
    (fun c k W => c = .ret ∧ Po.len1 l = k + 1 ∧ Has W w.heap.size 3 #[.int .i64 (k : Int)] ∧ Below w.heap.size w W)
    ?hI ?hIx ?h0
    (fun x => { tmps := #[Value.slice a n c, undef, Value.pointer (some { block := w.heap.size, off := 0 }), .int .i64 (x.1 : Int), .int .u32 (nb32 x.2),
          Value.slice a n c, Value.func (Fn.func 76) #[] #[Value.pointer (some { block := w.heap.size + 1, off := 0 })],
          .int .i64 (x.1 : Int), .int .u32 (nb32 x.2), undef, undef, undef], defers := [] })
    ?assign ?body ?done ?stop
  case assign =>
    intro l x W K hK
    dsimp only [encR]
    gi_wp2
    exact hK
  case kb => exact fun W l o o' _ ho hc hg => hg.put o' ho hc
  case rd => exact fun x s' => reading_own _ a x s'
  case hI => exact fun k W W' row h hg hr => ⟨h.1, h.2.1, h.2.2.1.own hg hr, below_own h.2.2.2 (by omega) hg hr⟩
  case hIx => exact fun cd k W W' row h hg hr => ⟨h.1, h.2.1, h.2.2.1.own hg hr, below_own h.2.2.2 (by omega) hg hr⟩
  case h0 => exact ⟨Nat.le_refl _, fun i hi => Po.cf_ge (by omega), hH2, hb2⟩
  case body =>
    rintro lp k ⟨i, x⟩ k' W ⟨hk, h0, hHW, hb⟩ ⟨rfl, rfl, ad, rfl, hx⟩ hsz
    obtain ⟨ad', e', hx'⟩ := hc i (by omega)
    obtain rfl : ad = ad' := by injection e'
    rw [← hb.cell (isSome_lt (by rw [hx']; rfl))] at hx'
    have hxv : x = Po.cf l i := by
      rw [show (i, x).1 = i from rfl, show (i, x).2 = x from rfl] at hx
      rw [hx] at hx'
      exact u32_inj.1 (by injection hx' with h; injection h)
    subst hxv
    have hcell := hHW.cell_at (i := 0) (v := .int .i64 0) rfl
    have hfree := hHW.loose 0
    by_cases hz : Po.cf l i = 0#32
    · have hz' : (Po.cf l i != 0#32) = false := by rw [hz]; rfl
      gi_wp2
      exact ⟨KeepsFrom.refl _ _, id, by omega, fun j hj => by
        rcases Nat.lt_or_ge i j with h | h
        · exact h0 j h
        · obtain rfl : j = i := by omega
          exact hz, hHW, hb⟩
    · have hz' : (Po.cf l i != 0#32) = true := by simpa using hz
      gi_wp2
      refine ⟨(KeepsOthers.setCell _ _ _).from _, rfl, Po.len1_eq h0 (fun _ => by simpa using hz), hHW.put 0 _, hb.setCell (p := ⟨w.heap.size, 0, none⟩) (Nat.le_refl _) _⟩
  case done =>
    rintro D k W hD rfl ⟨_, h0, hHW, hb⟩ hK
    have hcell := hHW.cell_at (i := 0) (v := .int .i64 0) rfl
    have hfree := hHW.loose 0
    gi_wp2
    have hK' := (KeepsOthers.setCell W ⟨w.heap.size, 0, none⟩ (.int .i64 (-1))).same D _ hK rfl
    have hv := (hHW.put 0 (.int .i64 (-1))).cell_at (i := 0) (v := .int .i64 (-1)) rfl
    refine leaves_cell rfl ⟨_, Try.underlying3, rfl⟩ rfl hK' hv ⟨?_, ?_⟩
    · rw [Po.len1_eq (n := 0) (fun i hi => h0 i hi) (fun hn => absurd rfl hn)]; rfl
    · exact below_putObj (hb.setCell (p := ⟨w.heap.size, 0, none⟩) (Nat.le_refl _) _) (by rw [World.size_setCell]; exact hb.size) (by omega) _
  case stop =>
    rintro D cd k W hD ⟨rfl, hl1, hHW, hb⟩ hK
    gi_wp2
    refine leaves_cell rfl ⟨_, Try.underlying3, rfl⟩ rfl hK (hHW.cell_at (i := 0) rfl) ⟨?_, below_putObj hb hb.size (by omega) _⟩
    exact congrArg (fun z => Ending.returned (.int .i64 z)) (show (k : Int) = (Po.len1 l : Int) - 1 by omega)
end Go.Proofs.Ytamigcbodplmcaa

/-! Slices of words that a call has made. Nothing of the program. -/
namespace Go.Proofs.Ytamigcbodplmcaa
open Go Go.RowKit

/-- n cells of words -/
def wcells (n : Nat) (f : Nat → BitVec 32) : Array Value := cellsOf n fun j => .int .u32 (nb32 (f j))
theorem wcells_size (n : Nat) (f : Nat → BitVec 32) : (wcells n f).size = n := cellsOf_size _ _
theorem wcells_at {n : Nat} (f : Nat → BitVec 32) {i : Nat} (h : i < n) : (wcells n f)[i]? = some (.int .u32 (nb32 (f i))) := cellsOf_at _ h
theorem wcells_congr {n : Nat} {f g : Nat → BitVec 32} (h : ∀ i, i < n → f i = g i) : wcells n f = wcells n g := cellsOf_congr fun j hj => by rw [h j hj]
theorem wcells_put {n : Nat} (f g : Nat → BitVec 32) (i : Nat) (x : BitVec 32) (hi : g i = x) (hg : ∀ j, j < n → j ≠ i → g j = f j) : (wcells n f).setIfInBounds i (.int .u32 (nb32 x)) = wcells n g :=
  cellsOf_put _ _ i _ (by rw [hi]) (fun j hj hne => by rw [hg j hj hne])
theorem wcells_made (n : Nat) : madeCells #[.int .u32 0] n = wcells n fun _ => 0 := by
  apply Array.ext_getElem?
  intro j
  rw [← Array.getElem?_toList, toList_madeCells_one, List.getElem?_replicate]
  rcases Nat.lt_or_ge j n with h | h
  · rw [if_pos h, wcells_at _ h]; rfl
  · rw [if_neg (by omega), Array.getElem?_eq_none (by rw [wcells_size]; exact h)]

/-- the first elements of a list, in a block -/
def wlist (l : List (BitVec 32)) : List Value := l.map fun x => .int .u32 (nb32 x)
theorem wlist_at (l : List (BitVec 32)) (i : Nat) (h : i < l.length) : (wlist l)[i]? = some (.int .u32 (nb32 (l.getD i 0))) := by
  rw [wlist, List.getElem?_map, List.getD_eq_getElem?_getD, List.getElem?_eq_getElem h]; rfl
theorem wlist_one (l : List (BitVec 32)) : ∀ v ∈ wlist l, v.oneCell' = true := by
  intro v hv
  rw [wlist, List.mem_map] at hv
  obtain ⟨x, _, rfl⟩ := hv
  rfl
theorem wlist_length (l : List (BitVec 32)) : (wlist l).length = l.length := by simp [wlist]
theorem putAll_wlist (l : List (BitVec 32)) (f : Nat → BitVec 32) : putAll (wcells l.length f) 0 (wlist l) = wcells l.length (fun i => l.getD i 0) := by
  refine putAll_cellsOf _ (wlist l) 0 _ (fun i v hv => ?_) (fun j hj h => ?_)
  · rw [Nat.zero_add]
    have hi : i < l.length := by
      have := (List.getElem?_eq_some_iff.1 hv).1
      rwa [wlist_length] at this
    rw [wlist_at l i hi] at hv
    exact Option.some.inj hv
  · rw [wlist_length] at h
    omega

/-- v is a slice made since block B; l: its elements -/
def Fresh (T : TypeId) (B : Nat) (w : World) (v : Value) (l : List (BitVec 32)) : Prop :=
  ∃ a c, v = .slice a l.length c ∧ (l.length ≤ c ∧ (a = none → c = 0)) ∧ l.length ≤ maxLen ∧ (0 < l.length → ∃ g cs, a = some ⟨g, 0, none⟩ ∧ B ≤ g ∧ Has w g T cs ∧ ∀ i, i < l.length → cs[i]? = some (.int .u32 (nb32 (l.getD i 0))))
section
variable {T : TypeId} {B : Nat} {w w' : World} {v : Value} {l : List (BitVec 32)}
theorem Fresh.nil (T : TypeId) (B : Nat) (w : World) : Fresh T B w (.slice none 0 0) [] := ⟨none, 0, rfl, ⟨Nat.le_refl _, fun _ => rfl⟩, by simp [maxLen], fun h => absurd h (by simp)⟩
theorem Fresh.below (h : Fresh T B w v l) (hb : Below w.heap.size w w') : Fresh T B w' v l := by
  obtain ⟨a, c, rfl, h1, h2, h3⟩ := h
  refine ⟨a, c, rfl, h1, h2, fun h0 => ?_⟩
  obtain ⟨g, cs, rfl, hg, hh, hc⟩ := h3 h0
  exact ⟨g, cs, rfl, hg, hh.under hb hh.lt, hc⟩
theorem Fresh.carry (h : Fresh T B w v l) (hk : ∀ g t cs, B ≤ g → Has w g t cs → Has w' g t cs) : Fresh T B w' v l := by
  obtain ⟨a, c, rfl, h1, h2, h3⟩ := h
  refine ⟨a, c, rfl, h1, h2, fun h0 => ?_⟩
  obtain ⟨g, cs, rfl, hg, hh, hc⟩ := h3 h0
  exact ⟨g, cs, rfl, hg, hk _ _ _ hg hh, hc⟩
theorem Fresh.low {B' : Nat} (h : Fresh T B w v l) (hB : B' ≤ B) : Fresh T B' w v l := by
  obtain ⟨a, c, rfl, h1, h2, h3⟩ := h
  refine ⟨a, c, rfl, h1, h2, fun h0 => ?_⟩
  obtain ⟨g, cs, rfl, hg, hh, hc⟩ := h3 h0
  exact ⟨g, cs, rfl, by omega, hh, hc⟩
theorem Fresh.of_has {g n c : Nat} {f : Nat → BitVec 32} (hB : B ≤ g) (hh : Has w g T (wcells c f)) (hl : l.length = n) (hn : n ≤ c) (hm : n ≤ maxLen) (hf : ∀ i, i < n → f i = l.getD i 0) : Fresh T B w (.slice (some ⟨g, 0, none⟩) n c) l :=
  ⟨_, c, by rw [hl], ⟨by omega, fun e => by cases e⟩, by omega, fun _ => ⟨g, _, rfl, hB, hh, fun i hi => by rw [wcells_at _ (by omega), hf i (by omega)]⟩⟩
/-- to read it -/
theorem Fresh.words {a : Option Addr} {n c : Nat} (h : Fresh T B w (.slice a n c) l) : n = l.length ∧ n ≤ c ∧ Words32 w a n l := by
  obtain ⟨a', c', e, h1, h2, h3⟩ := h
  injection e with e1 e2 e3
  subst e1 e2 e3
  refine ⟨rfl, h1.1, rfl, h2, fun i hi => ?_⟩
  obtain ⟨g, cs, rfl, _, hh, hc⟩ := h3 (by omega)
  refine ⟨_, rfl, ?_⟩
  rw [Addr.add_mid, Nat.zero_add, hh.cell i]
  exact hc i hi
theorem Fresh.cap0 {a : Option Addr} {n c : Nat} (h : Fresh T B w (.slice a n c) l) : a = none → c = 0 := by
  obtain ⟨a', c', e, h1, _, _⟩ := h
  injection e with e1 e2 e3
  subst e1 e3
  exact h1.2
theorem Fresh.slice (h : Fresh T B w v l) : ∃ a c, v = .slice a l.length c ∧ l.length ≤ c ∧ Words32 w a l.length l := by
  obtain ⟨a, c, rfl, h'⟩ := id h
  obtain ⟨_, h1, h2⟩ := h.words
  exact ⟨a, c, rfl, h1, h2⟩
end
/-- a made slice that may be written -/
def Buf (T : TypeId) (B : Nat) (w : World) (a : Option Addr) (n : Nat) : Prop := n = 0 ∨ ∃ g cs, a = some ⟨g, 0, none⟩ ∧ B ≤ g ∧ Has w g T cs ∧ n ≤ cs.size
theorem Fresh.buf {T : TypeId} {B : Nat} {w : World} {l : List (BitVec 32)} {a : Option Addr} {n c : Nat} (h : Fresh T B w (.slice a n c) l) : Buf T B w a n := by
  obtain ⟨a', c', e, h1, h2, h3⟩ := h
  injection e with e1 e2 e3
  subst e1 e2 e3
  rcases Nat.eq_zero_or_pos l.length with h0 | h0
  · exact .inl h0
  · obtain ⟨g, cs, rfl, hg, hh, hc⟩ := h3 h0
    refine .inr ⟨g, cs, rfl, hg, hh, ?_⟩
    have := hc (l.length - 1) (by omega)
    have := (Array.getElem?_eq_some_iff.1 this).1
    omega
theorem Buf.below {T : TypeId} {B : Nat} {w w' : World} {a : Option Addr} {n : Nat} (h : Buf T B w a n) (hb : Below w.heap.size w w') : Buf T B w' a n := by
  rcases h with h | ⟨g, cs, e, hg, hh, hn⟩
  · exact .inl h
  · exact .inr ⟨g, cs, e, hg, hh.under hb hh.lt, hn⟩
theorem Buf.open {T : TypeId} {B : Nat} {w : World} {a : Option Addr} {n k : Nat} (h : Buf T B w a n) (hk : k < n) : ∃ g cs, a = some ⟨g, 0, none⟩ ∧ B ≤ g ∧ Has w g T cs ∧ n ≤ cs.size := by
  rcases h with h | h
  · omega
  · exact h
theorem Buf.put {T : TypeId} {B g n : Nat} {w : World} {cs : Array Value} (hg : B ≤ g) (hh : Has w g T cs) (hn : n ≤ cs.size) (i : Nat) (u : Value) : Buf T B (w.setCell ⟨g, i, none⟩ u) (some ⟨g, 0, none⟩) n :=
  .inr ⟨g, _, rfl, hg, hh.put i u, by rw [Array.size_setIfInBounds]; exact hn⟩
end Go.Proofs.Ytamigcbodplmcaa

/-! Slices of words: making, copying, comparing; sums of two. -/
namespace Go.Proofs.Ytamigcbodplmcaa
open Go Go.RowKit
theorem info_word : (Try.prog.info? 54).map (fun i => (i.zero, i.size, i.bytes)) = some (some (.int .u32 0), 1, 4) := by kernel_rfl
theorem size_word : (Try.prog.info? 54).map (·.size) = some 1 := by kernel_rfl
theorem make_words (n : Nat) (hn : n ≤ 1099511627776) (w : World) :
    (Instr.makeSlice 22 (.int .i64 (n : Int)) (.int .i64 (n : Int))).run Try.prog w = .ok (.slice (some ⟨w.heap.size, 0, none⟩) n n) (w.alloc (.cells (wcells n fun _ => 0) 54)) := by
  rw [run_make_row' 22 54 _ 4 Try.underlying22 info_word rfl .i64 .i64 n (by omega) (by omega) w, wcells_made]
/-- copy into a new block, the whole of it -/
theorem copy_words (w0 : World) (g n c m : Nat) (a : Option Addr) (l l' : List (BitVec 32)) (f : Nat → BitVec 32) (hh : Has w0 g 54 (wcells m f)) (hw : Words32 w0 a n l) (hm : m ≤ n) (hl : l'.length = m) (he : ∀ i, i < m → l'.getD i 0 = l.getD i 0) :
    (Builtin.copy_ #[22, 22] 3 #[.slice (some ⟨g, 0, none⟩) m m, .slice a n c]).run Try.prog w0 = .ok (goInt m) (w0.setCells g 0 (wlist l')) := by
  rcases Nat.eq_zero_or_pos m with h0 | h0
  · subst h0
    have : l' = [] := List.length_eq_zero_iff.1 hl
    subst this
    exact run_copy_none w0 _ _ _ 54 _ _ _ _ _ _ Try.underlying22 size_word (by simp)
  · obtain ⟨ad, rfl, _⟩ := hw.2.2 0 (by omega)
    have := run_copy_cells (P := Try.prog) w0 22 22 3 54 g 0 m m ad n c (wlist l') Try.underlying22 size_word
      (by rw [wlist_length, hl]; exact (Nat.min_eq_right hm).symm)
      (fun j v hv => by
        have hj : j < l'.length := by
          have := (List.getElem?_eq_some_iff.1 hv).1
          rwa [wlist_length] at this
        obtain ⟨x, e, hx⟩ := hw.2.2 j (by omega)
        injection e with e
        subst e
        rw [hx, ← hv, wlist_at l' j hj, he j (by omega)])
      (fun j hj => by rw [hh.cell, Nat.zero_add, wcells_at _ (by rw [wlist_length] at hj; omega)]; rfl)
      (fun j hj => hh.loose _) (wlist_one l')
    rw [this, wlist_length, hl]
theorem xors_two (x y : BitVec 32) : xors [x, y] = x ^^^ y := by simp [xors]
theorem sum2 (x y : BitVec 32) (w : World) :
    Calls Try.prog 32 #[.slice (some ⟨w.heap.size, 0, none⟩) 2 2] (w.alloc (.cells #[.int .u32 (nb32 x), .int .u32 (nb32 y)] 54)) fun e w' =>
      e = .returned (.int .u32 (nb32 (x ^^^ y))) ∧ w' = w.alloc (.cells #[.int .u32 (nb32 x), .int .u32 (nb32 y)] 54) := by
  refine (sum_any _ 2 2 [x, y] _ ⟨rfl, by unfold maxLen; omega, fun i hi => ⟨_, rfl, ?_⟩⟩).mono ?_
  · rw [Addr.add_mid, (Has.fresh w _ _).cell]
    rcases i with _ | _ | i
    · rfl
    · rfl
    · omega
  · rintro e w' ⟨rfl, rfl⟩
    rw [xors_two]
    exact ⟨rfl, rfl⟩
/-- what addMultiple leaves, k rounds done -/
def amF (s : Nat → BitVec 32) (off : Nat) (by_ : BitVec 32) (l : List (BitVec 32)) (k : Nat) (j : Nat) : BitVec 32 :=
  if off ≤ j ∧ j < off + k then s j ^^^ Gf.mul by_ (Po.cf l (j - off)) else s j
theorem amF_step (s : Nat → BitVec 32) (off N : Nat) (by_ : BitVec 32) (l : List (BitVec 32)) (k : Nat) (x : BitVec 32) (hx : x = s (off + k) ^^^ Gf.mul by_ (Po.cf l k)) :
    (wcells N (amF s off by_ l k)).setIfInBounds (off + k) (.int .u32 (nb32 x)) = wcells N (amF s off by_ l (k + 1)) := by
  refine wcells_put _ _ _ _ ?_ (fun j _ hne => ?_)
  · rw [amF, if_pos ⟨by omega, by omega⟩, show off + k - off = k from by omega, hx]
  · unfold amF
    by_cases h : off ≤ j ∧ j < off + k
    · rw [if_pos h, if_pos ⟨h.1, by omega⟩]
    · rw [if_neg h, if_neg (by omega)]
theorem amF_here (s : Nat → BitVec 32) (off : Nat) (by_ : BitVec 32) (l : List (BitVec 32)) (k : Nat) : amF s off by_ l k (off + k) = s (off + k) := by
  rw [amF, if_neg (by omega)]
theorem Words32.take {w : World} {a : Option Addr} {n k : Nat} {l : List (BitVec 32)} (h : Words32 w a n l) (hk : k ≤ n) : Words32 w a k (l.take k) := by
  obtain ⟨hl, hm, hc⟩ := h
  refine ⟨by simp; omega, by omega, fun i hi => ?_⟩
  obtain ⟨x, e, hx⟩ := hc i (by omega)
  refine ⟨x, e, hx.trans ?_⟩
  have := Po.cf_take l k i
  rw [if_pos hi] at this
  have e2 : (l.take k).getD i 0 = l.getD i 0 := this
  rw [e2]
theorem Words32.block_lt {w : World} {a : Option Addr} {n : Nat} {l : List (BitVec 32)} {ad : Addr} (h : Words32 w a n l) (hn : 0 < n) (e : a = some ad) : ad.block < w.heap.size := by
  obtain ⟨x, e', hx⟩ := h.2.2 0 hn
  obtain rfl : ad = x := by rw [e] at e'; injection e'
  have := isSome_lt (w := w) (p := ad.add 0) (by rw [hx]; rfl)
  rwa [Addr.add_zero'] at this
theorem words_one (w : World) (x : BitVec 32) (t : TypeId) : Words32 (w.alloc (.cells #[.int .u32 (nb32 x)] t)) (some ⟨w.heap.size, 0, none⟩) 1 [x] :=
  ⟨rfl, by unfold maxLen; omega, fun i hi => ⟨_, rfl, by
    obtain rfl : i = 0 := by omega
    rw [Addr.add_mid, (Has.fresh w t _).cell]; rfl⟩⟩
theorem words_two (w : World) (x y : BitVec 32) (t : TypeId) : Words32 (w.alloc (.cells #[.int .u32 (nb32 x), .int .u32 (nb32 y)] t)) (some ⟨w.heap.size, 0, none⟩) 2 [x, y] :=
  ⟨rfl, by unfold maxLen; omega, fun i hi => ⟨_, rfl, by
    rw [Addr.add_mid, (Has.fresh w t _).cell]
    rcases i with _ | _ | i
    · rfl
    · rfl
    · omega⟩⟩
theorem words_three (w : World) (x y z : BitVec 32) (t : TypeId) : Words32 (w.alloc (.cells #[.int .u32 (nb32 x), .int .u32 (nb32 y), .int .u32 (nb32 z)] t)) (some ⟨w.heap.size, 0, none⟩) 3 [x, y, z] :=
  ⟨rfl, by unfold maxLen; omega, fun i hi => ⟨_, rfl, by
    rw [Addr.add_mid, (Has.fresh w t _).cell]
    rcases i with _ | _ | _ | i
    · rfl
    · rfl
    · rfl
    · omega⟩⟩
theorem Words32.past {w : World} {a : Option Addr} {n : Nat} {l : List (BitVec 32)} (h : Words32 w a n l) (o : Obj) : Words32 (w.alloc o) a n l := h.keep fun p hp => World.cell?_alloc_lt w o p (isSome_lt hp)
theorem words_of_has {T : TypeId} {w : World} {g n c : Nat} {f : Nat → BitVec 32} (hh : Has w g T (wcells c f)) (hn : n ≤ c) (hm : n ≤ 1099511627776) : Words32 w (some ⟨g, 0, none⟩) n (Po.mk n f) := by
  refine ⟨Po.mk_length _ _, by unfold maxLen; omega, fun i hi => ⟨_, rfl, ?_⟩⟩
  rw [Addr.add_mid, Nat.zero_add, hh.cell, wcells_at _ (by omega)]
  have := Po.cf_mk n f i
  rw [if_pos hi] at this
  rw [show (Po.mk n f).getD i 0 = _ from this]
set_option maxHeartbeats 1000000 in
theorem words_any (a b : Option Addr) (n c m d : Nat) (la lb : List (BitVec 32)) (w : World) (ha : Words32 w a n la) (hb : Words32 w b m lb) :
    Calls Try.prog 10 #[.slice a n c, .slice b m d] w fun e w' => e = .returned (.bool (decide (la = lb))) ∧ Drawn w w' := by
  have hla := ha.1
  have hlb := hb.1
  have hmx : n ≤ 9223372036854775807 := ha.2.1
  by_cases hnm : n = m
  · subst hnm
    go_enter Try.func10, Try.ntmps10
    go_wp2
    go_loopw [13] (fun i wr => ∃ k : Nat, k ≤ n ∧ i = .int .i64 k ∧ (∀ i, i < k → Po.cf la i = Po.cf lb i) ∧ Drawn w wr) (fun i _ => n - (intOf i).toNat)
    case atStart => exact ⟨0, Nat.zero_le _, rfl, fun i hi => by omega, Drawn.refl _⟩
    case round =>
      obtain ⟨k, hk, rfl, hc, hd⟩ := hrel
      have HC := Lib.hid hc
      clear hc
      by_cases hlt : k < n
      · obtain ⟨ad, rfl, hx⟩ := ha.2.2 k hlt
        obtain ⟨ad2, rfl, hy⟩ := hb.2.2 k hlt
        obtain ⟨z, hz⟩ : ∃ z, z = Po.cf la k := ⟨_, rfl⟩
        obtain ⟨y, hyz⟩ : ∃ y, y = Po.cf lb k := ⟨_, rfl⟩
        rw [show la.getD k 0 = z from hz.symm] at hx
        rw [show lb.getD k 0 = y from hyz.symm] at hy
        have hcx := ((hd.below w.heap.size).cell (isSome_lt (by rw [hx]; rfl))).trans hx
        have hcy := ((hd.below w.heap.size).cell (isSome_lt (by rw [hy]; rfl))).trans hy
        have h0 : (0 : Int) ≤ (k : Int) := by omega
        have h1 : (k : Int) < (n : Int) := by omega
        have HZ := Lib.hid (And.intro hz hyz)
        clear hz hyz hx hy
        by_cases he : z = y
        · have ht : (z != y) = false := by simp [he]
          have HE := Lib.hid he
          clear he
          go_wp2_with fail
          go_quiet (fail)
          go_wp2
          go_roundw
          case rel => exact ⟨k + 1, by omega, by go_num, fun i hi => by
            by_cases h2 : i = k
            · subst h2; rw [← HZ.out.1, ← HZ.out.2, HE.out]
            · exact HC.out i (by omega), hd.draws _⟩
          case measure => simp [intOf]; omega
        · have ht : (z != y) = true := by simp [he]
          have hf : decide (la = lb) = false := by
            rw [decide_eq_false_iff_not]
            rintro rfl
            exact he (by rw [HZ.out.1, HZ.out.2])
          have HF := Lib.hid hf
          clear he hf
          go_wp2_with fail
          go_quiet (fail)
          go_wp2
          go_ret
          exact ⟨by rw [HF.out]; rfl, hd.draws _⟩
      · obtain rfl : k = n := by omega
        have hf : decide (la = lb) = true := by
          rw [decide_eq_true_eq]
          exact Po.list_ext (by omega) fun i hi => HC.out i (by omega)
        have HF := Lib.hid hf
        clear hf
        go_wp2
        go_ret
        exact ⟨by rw [HF.out]; rfl, hd⟩
  · have hf : decide (la = lb) = false := by
      rw [decide_eq_false_iff_not]
      rintro rfl
      omega
    have ht : ((n : Int) != (m : Int)) = true := by simp; omega
    rw [hf]
    go_enter Try.func10, Try.ntmps10
    go_wp2
    go_ret
    exact ⟨rfl, Drawn.refl _⟩
theorem words_same (a b : Option Addr) (n c m d : Nat) (la lb : List (BitVec 32)) (w : World) (ha : Words32 w a n la) (hb : Words32 w b m lb) (h : la = lb) :
    Calls Try.prog 10 #[.slice a n c, .slice b m d] w fun e w' => e = .returned (.bool true) ∧ Drawn w w' := by
  refine (words_any a b n c m d la lb w ha hb).mono ?_
  rintro e w' ⟨rfl, hd⟩
  exact ⟨by rw [decide_eq_true h], hd⟩
def errRange : Value := .iface 35 (.int .i64 1)
theorem is_range (w : World) :
    Calls Try.prog 12 #[errRange, .int .i64 1] w fun e w' => e = .returned (.bool true) ∧ w = w' := by
  unfold errRange
  have hta : ∀ w : World, (Instr.typeAssert (.iface 35 (.int .i64 1)) 27 35 true).run Try.prog w = .ok (.tuple #[.int .i64 1, .bool true]) w := fun w => by kernel_rfl
  go_enter Try.func12, Try.ntmps12
  go_wp2_with go_in
  go_ret
  exact ⟨rfl, rfl⟩
end Go.Proofs.Ytamigcbodplmcaa

/-! Package poly: sums and products. -/
namespace Go.Proofs.Ytamigcbodplmcaa
open Go Go.RowKit

set_option maxHeartbeats 400000 in
theorem trim_own (a : Option Addr) (n c : Nat) (l : List (BitVec 32)) (w : World) (h : Words32 w a n l) (hs : n ≤ 1099511627776) :
    Calls Try.prog 75 #[.slice a n c] w fun e w' => (∃ g, e = .returned (.slice (some ⟨g, 0, none⟩) (Po.len1 l) (Po.len1 l)) ∧ w.heap.size ≤ g ∧ Has w' g 54 (wcells (Po.len1 l) (Po.cf l))) ∧ Below w.heap.size w w' := by
  have hle := Po.len1_le l
  have hln := h.1
  have hmk := make_words (Po.len1 l) (by omega)
  go_enter Try.func75, Try.ntmps75
  go_wp2_with (first
    | (go_at_call 50; refine (pdegree_any _ _ _ _ _ h).mono ?_; rintro e w1 ⟨rfl, hb1⟩
       have hcp := copy_words (w1.alloc (.cells (wcells (Po.len1 l) fun _ => 0#32) 54)) w1.heap.size n c (Po.len1 l) a l (Po.trim l) _ (Has.fresh _ _ _) ((h.below hb1).keep fun p hp => World.cell?_alloc_lt _ _ _ (isSome_lt hp)) (by omega) (Po.trim_length l) (fun i _ => congrFun (Po.cf_trim l) i)))
  go_ret
  have hsz := hb1.size
  have hh := (Has.fresh w1 54 (wcells (Po.len1 l) fun _ => 0#32)).putAll (wlist (Po.trim l)) 0
  rw [← Po.trim_length l, putAll_wlist] at hh
  refine ⟨⟨w1.heap.size, rfl, hsz, ?_⟩, below_setAll hsz _ 0 (hb1.alloc hsz _)⟩
  rw [Po.trim_length] at hh
  rwa [wcells_congr (fun i _ => show (Po.trim l).getD i 0 = Po.cf l i from congrFun (Po.cf_trim l) i)] at hh
theorem trim_any (a : Option Addr) (n c : Nat) (l : List (BitVec 32)) (w : World) (h : Words32 w a n l) (hs : n ≤ 1099511627776) :
    Calls Try.prog 75 #[.slice a n c] w fun e w' => (∃ v, e = .returned v ∧ Fresh 54 w.heap.size w' v (Po.trim l)) ∧ Below w.heap.size w w' := by
  refine (trim_own a n c l w h hs).mono ?_
  rintro e w' ⟨⟨g, rfl, hg, hh⟩, hb⟩
  have hle := Po.len1_le l
  have hln := h.1
  exact ⟨⟨_, rfl, Fresh.of_has hg hh (Po.trim_length l) (Nat.le_refl _) (by unfold maxLen; omega) (fun i _ => (congrFun (Po.cf_trim l) i).symm)⟩, hb⟩
theorem bare_any (a : Option Addr) (n c : Nat) (l : List (BitVec 32)) (w : World) (h : Words32 w a n l) (hc : n ≤ c) :
    Calls Try.prog 74 #[.slice a n c] w fun e w' => e = .returned (.slice a (Po.len1 l) c) ∧ Below w.heap.size w w' := by
  have hle := Po.len1_le l
  have hln := h.1
  have hlc : Po.len1 l ≤ c := by omega
  have hmx : n ≤ 9223372036854775807 := h.2.1
  go_enter Try.func74, Try.ntmps74
  go_wp2_with (first
    | (go_at_call 50; refine (pdegree_any _ _ _ _ _ h).mono ?_; rintro e w1 ⟨rfl, hb1⟩))
  go_ret
  exact ⟨rfl, hb1⟩

set_option maxHeartbeats 1000000 in
theorem addMultiple_any (g off m cs n c N : Nat) (a : Option Addr) (l : List (BitVec 32)) (by_ : BitVec 32) (s : Nat → BitVec 32) (w : World)
    (hh : Has w g 54 (wcells N s)) (ha : Words32 w a n l) (hna : ∀ ad, a = some ad → ad.block ≠ g) (hm : n ≤ m) (hN : off + m ≤ N) :
    Calls Try.prog 82 #[.slice (some ⟨g, off, none⟩) m cs, .slice a n c, .int .u32 (nb32 by_)] w fun e w' =>
      e = .returned (.tuple #[]) ∧ Has w' g 54 (wcells N (amF s off by_ l n)) ∧ (∀ p, p < w.heap.size → p ≠ g → w'.heap[p]? = w.heap[p]?) ∧ w.heap.size ≤ w'.heap.size ∧ (∀ B, B ≤ g → B ≤ w.heap.size → Below B w w') := by
  have hg := hh.lt
  go_enter Try.func82, Try.ntmps82
  go_wp2_with (first
    | (go_at_call 54; refine (by_any _ _).mono ?_; rintro e w1 ⟨rfl, hb1, ht1⟩))
  go_loopw [13] (fun i wr => ∃ k : Nat, k ≤ n ∧ i = .int .i64 k ∧ Has wr g 54 (wcells N (amF s off by_ l k)) ∧ Has wr w.heap.size 99 (tab by_) ∧
      (∀ p, p < w.heap.size → p ≠ g → wr.heap[p]? = w.heap[p]?) ∧ w.heap.size < wr.heap.size ∧ (∀ B, B ≤ g → B ≤ w.heap.size → Below B w wr)) (fun i _ => n - (intOf i).toNat)
  case atStart =>
    refine ⟨0, Nat.zero_le _, rfl, ?_, ht1, fun p hp _ => hb1.block p hp, ht1.lt, fun B _ hB2 => hb1.mono hB2⟩
    have := hh.under hb1 hg
    rwa [wcells_congr (fun j _ => show s j = amF s off by_ l 0 j from by rw [amF, if_neg (by omega)])] at this
  case round =>
    obtain ⟨k, hk, rfl, hgk, htk, hold, hszk, hbk⟩ := hrel
    have hl := ha.1
    have hmx : n ≤ 9223372036854775807 := ha.2.1
    by_cases hlt : k < n
    · obtain ⟨ad, rfl, hx⟩ := ha.2.2 k hlt
      obtain ⟨x, hxe⟩ : ∃ x, x = Po.cf l k := ⟨_, rfl⟩
      have hxk : wr.cell? (ad.add k) = some (.int .u32 (nb32 x)) := by
        obtain ⟨ad', e', hx'⟩ := ha.2.2 k hlt
        obtain rfl : ad = ad' := by injection e'
        have hb : (ad.add k).block = ad.block := by unfold Addr.add; split <;> rfl
        have := hold (ad.add k).block (isSome_lt (by rw [hx']; rfl)) (by rw [hb]; exact hna ad rfl)
        rw [hxe]
        exact (World.cell?_of_block this).trans hx'
      have HX := Lib.hid hxe
      clear hxe hx
      have hc := hgk.cell_at (wcells_at (i := off + k) _ (by omega))
      rw [amF_here] at hc
      have hf := hgk.loose (off + k)
      have hkm : k < m := by omega
      have hgl : g < wr.heap.size := by omega
      have hcA : ∀ m o, ((wr.drewN m).alloc o).cell? ⟨g, off + k, none⟩ = some (.int .u32 (nb32 (s (off + k)))) := fun m o => (World.cell?_alloc_lt (wr.drewN m) o _ hgl).trans hc
      have hfA : ∀ m o, ((wr.drewN m).alloc o).frozen? ⟨g, off + k, none⟩ = false := fun m o => ((hgk.draws m).past o).loose _
      have hR : ∀ q o, (∃ k1, k1 = k + 1 ∧ Has (((wr.drewN q).alloc o).setCell ⟨g, off + k, none⟩ (.int .u32 (nb32 (s (off + k) ^^^ Gf.mul by_ x)))) g 54 (wcells N (amF s off by_ l k1))) ∧
          Has (((wr.drewN q).alloc o).setCell ⟨g, off + k, none⟩ (.int .u32 (nb32 (s (off + k) ^^^ Gf.mul by_ x)))) w.heap.size 99 (tab by_) ∧
          (∀ p, p < w.heap.size → p ≠ g → (((wr.drewN q).alloc o).setCell ⟨g, off + k, none⟩ (.int .u32 (nb32 (s (off + k) ^^^ Gf.mul by_ x)))).heap[p]? = w.heap[p]?) ∧
          w.heap.size < (((wr.drewN q).alloc o).setCell ⟨g, off + k, none⟩ (.int .u32 (nb32 (s (off + k) ^^^ Gf.mul by_ x)))).heap.size ∧
          (∀ B, B ≤ g → B ≤ w.heap.size → Below B w (((wr.drewN q).alloc o).setCell ⟨g, off + k, none⟩ (.int .u32 (nb32 (s (off + k) ^^^ Gf.mul by_ x))))) := fun q o => by
        refine ⟨⟨_, rfl, ?_⟩, ((htk.draws q).past o).aside (by show w.heap.size ≠ g; omega) _, fun p hp hne => ?_, ?_, fun B hB1 hB2 => ?_⟩
        · have := ((hgk.draws q).past o).put (off + k) (.int .u32 (nb32 (s (off + k) ^^^ Gf.mul by_ x)))
          rwa [amF_step s off N by_ l k _ (by rw [HX.out])] at this
        · rw [Below.heap_setCell _ ⟨g, off + k, none⟩ _ p hne, Below.heap_alloc _ _ _ (by show p < wr.heap.size; omega)]
          exact hold p hp hne
        · rw [World.size_setCell, World.size_alloc]
          show w.heap.size < wr.heap.size + 1
          omega
        · exact ((below_draws (hbk B hB1 hB2) q).alloc (by show B ≤ wr.heap.size; omega) o).setCell (p := ⟨g, off + k, none⟩) hB1 _
      have HR := Lib.hid hR
      clear hR
      go_wp2_with fail
      go_region_law (first
          | (go_simp; go_at_call 55; refine (tmul_any by_ x w.heap.size _ htk.draw).mono ?_; rintro e w1 ⟨rfl, n1, rfl⟩)
          | (go_simp; go_at_call 32; refine (sum2 _ _ _).mono ?_; rintro e w1 ⟨rfl, rfl⟩))
      all_goals
        (go_wp2
         go_roundw
         case rel =>
           obtain ⟨⟨k1, rfl, h1⟩, h2, h3, h4, h5⟩ := HR.out _ _
           exact ⟨k + 1, by omega, by go_num, h1, h2, h3, h4, h5⟩
         case measure => simp [intOf]; omega)
    · obtain rfl : k = n := by omega
      go_wp2
      go_end0
      exact ⟨rfl, hgk, hold, by omega, hbk⟩
end Go.Proofs.Ytamigcbodplmcaa

/-! Package poly: products, sums. -/
namespace Go.Proofs.Ytamigcbodplmcaa
open Go Go.RowKit

theorem Words32.bare {w : World} {a : Option Addr} {n : Nat} {l : List (BitVec 32)} (h : Words32 w a n l) : Words32 w a (Po.len1 l) (Po.trim l) :=
  h.take (by have := Po.len1_le l; have := h.1; omega)
namespace Po
def mulR (a b : List E) : List E := if len1 a = 0 ∨ len1 b = 0 then [] else mk (len1 a + len1 b - 1) (mulL (trim a) (cf b))
theorem amF_take (s : Nat → E) (N k : Nat) (lb la : List E) (hk : k < lb.length) (hs : ∀ j, j < N → s j = mulL (lb.take k) (cf la) j) (n : Nat) (hn : la.length = n) :
    ∀ j, j < N → amF s k (cf lb k) la n j = mulL (lb.take (k + 1)) (cf la) j := fun j hj => by
  rw [mulL_take hk]
  show (if k ≤ j ∧ j < k + n then s j ^^^ Gf.mul (cf lb k) (cf la (j - k)) else s j) = mulL (lb.take k) (cf la) j ^^^ Xn k (sclF (cf lb k) (cf la)) j
  rw [hs j hj]
  unfold Xn sclF
  by_cases h : k ≤ j
  · rw [if_pos h]
    by_cases h2 : j < k + n
    · rw [if_pos ⟨h, h2⟩]
    · rw [if_neg (by omega), cf_ge (l := la) (by omega), Gf.mul_zero, xz]
  · rw [if_neg (by omega), if_neg h, xz]
end Po
/-- nothing else of what lay has turned -/
def Only (B g : Nat) (w w' : World) : Prop := (∀ p, p < B → p ≠ g → w'.heap[p]? = w.heap[p]?) ∧ w.heap.size ≤ w'.heap.size

set_option maxHeartbeats 1000000 in
theorem mul_long (a b : Option Addr) (n c m d : Nat) (la lb : List (BitVec 32)) (w : World) (ha : Words32 w a n la) (hb : Words32 w b m lb) (hac : n ≤ c) (hbd : m ≤ d) (hs : n + m ≤ 549755813888)
    (h0a : Po.len1 la ≠ 0) (h0b : Po.len1 lb ≠ 0) (hsw : ¬ Po.len1 la < Po.len1 lb) :
    Calls Try.prog 95 #[.slice a n c, .slice b m d] w fun e w' => (∃ v, e = .returned v ∧ Fresh 54 w.heap.size w' v (Po.mulR la lb)) ∧ Below w.heap.size w w' := by
  have hla := Po.len1_le la
  have hlb := Po.len1_le lb
  have hln := ha.1
  have hlm := hb.1
  obtain ⟨N, hN⟩ : ∃ N, N + 1 = Po.len1 la + Po.len1 lb := ⟨Po.len1 la + Po.len1 lb - 1, by omega⟩
  have hNe : ((Po.len1 la : Int) + (Po.len1 lb : Int)) - 1 = (N : Int) := by omega
  have hmk := make_words N (by omega)
  have h0a' : 0 < Po.len1 la := by omega
  have h0b' : 0 < Po.len1 lb := by omega
  have hta : ((Po.len1 la : Int) == 0) = false := by simpa using h0a
  have htb : ((Po.len1 lb : Int) == 0) = false := by simpa using h0b
  have hfin : wcells N (fun j => Po.mulL (List.take (Po.len1 lb) (Po.trim lb)) (Po.cf (Po.trim la)) j) = wcells N (fun j => Po.mulL (Po.trim la) (Po.cf lb) j) := by
    refine wcells_congr fun j _ => ?_
    rw [List.take_of_length_le (by rw [Po.trim_length]; exact Nat.le_refl _)]
    rw [Po.mulL_comm, Po.cf_trim]
  go_enter Try.func95, Try.ntmps95
  go_wp2_with (first
    | (go_at_call 74; with_reducible refine (bare_any a n c la w ha hac).mono ?_; rintro e w1 ⟨rfl, hb1⟩)
    | (go_at_call 74; with_reducible refine (bare_any b m d lb _ (hb.below hb1) hbd).mono ?_; rintro e w2 ⟨rfl, hb2⟩))
  have hbw := hb1.trans (hb2.mono hb1.size)
  have hx : Words32 w2 a (Po.len1 la) (Po.trim la) := (ha.bare).below hbw
  have hy : Words32 w2 b (Po.len1 lb) (Po.trim lb) := (hb.bare).below hbw
  have hsz := hbw.size
  have hne : ∀ ad', a = some ad' → ad'.block ≠ w2.heap.size := fun ad' e => Nat.ne_of_lt (hx.block_lt (by omega) e)
  go_loopw [36] (fun i wr => ∃ k : Nat, k ≤ Po.len1 lb ∧ i = .int .i64 k ∧ Has wr w2.heap.size 54 (wcells N fun j => Po.mulL ((Po.trim lb).take k) (Po.cf (Po.trim la)) j) ∧ Below w2.heap.size w2 wr) (fun i _ => Po.len1 lb - (intOf i).toNat)
  case atStart => exact ⟨0, Nat.zero_le _, rfl, Has.fresh _ _ _, (Below.refl _ _).alloc (Nat.le_refl _) _⟩
  case round =>
    obtain ⟨k, hk, rfl, hgk, hbk⟩ := hrel
    by_cases hlt : k < Po.len1 lb
    · obtain ⟨ad, rfl, hxy⟩ := hy.2.2 k hlt
      obtain ⟨z, hz⟩ : ∃ z, z = (Po.trim lb).getD k 0 := ⟨_, rfl⟩
      rw [← hz] at hxy
      have hcell : wr.cell? (ad.add k) = some (.int .u32 (nb32 z)) := (hbk.cell (isSome_lt (by rw [hxy]; rfl))).trans hxy
      have hNk : ¬ N = k := by omega
      have hkN : k ≤ N := by omega
      have HZ := Lib.hid hz
      clear hz
      go_wp2_with (first
        | (go_at_call 82
           refine (addMultiple_any w2.heap.size k (N - k) (N - k) _ _ N _ (Po.trim la) z _ wr hgk (hx.below hbk) hne (by omega) (by omega)).mono ?_
           rintro e w3 ⟨rfl, hg3, _, hs3, hB3⟩))
      go_roundw
      case rel =>
        refine ⟨k + 1, by omega, by go_num, ?_, hbk.trans (hB3 _ (Nat.le_refl _) hbk.size)⟩
        have hz : z = Po.cf (Po.trim lb) k := HZ.out
        rw [hz] at hg3
        rwa [wcells_congr (Po.amF_take _ N k _ _ (by rw [Po.trim_length]; exact hlt) (fun _ _ => rfl) _ (Po.trim_length _))] at hg3
      case measure => simp [intOf]; omega
    · obtain rfl : k = Po.len1 lb := by omega
      go_wp2
      go_ret
      rw [hfin] at hgk
      have hml : Po.mulR la lb = Po.mk N (Po.mulL (Po.trim la) (Po.cf lb)) := by
        rw [Po.mulR, if_neg (by omega), show Po.len1 la + Po.len1 lb - 1 = N from by omega]
      refine ⟨⟨_, rfl, ?_⟩, hbw.trans (hbk.mono hsz)⟩
      rw [hml]
      refine Fresh.of_has hsz hgk (Po.mk_length _ _) (Nat.le_refl _) (by unfold maxLen; omega) (fun i hi => ?_)
      have := Po.cf_mk N (Po.mulL (Po.trim la) (Po.cf lb)) i
      rw [if_pos hi] at this
      exact this.symm

set_option maxHeartbeats 1000000 in
theorem mul_short (a b : Option Addr) (n c m d : Nat) (la lb : List (BitVec 32)) (w : World) (ha : Words32 w a n la) (hb : Words32 w b m lb) (hac : n ≤ c) (hbd : m ≤ d) (hs : n + m ≤ 549755813888)
    (h0a : Po.len1 la ≠ 0) (h0b : Po.len1 lb ≠ 0) (hsw : Po.len1 la < Po.len1 lb) :
    Calls Try.prog 95 #[.slice a n c, .slice b m d] w fun e w' => (∃ v, e = .returned v ∧ Fresh 54 w.heap.size w' v (Po.mulR la lb)) ∧ Below w.heap.size w w' := by
  have hla := Po.len1_le la
  have hlb := Po.len1_le lb
  have hln := ha.1
  have hlm := hb.1
  obtain ⟨N, hN⟩ : ∃ N, N + 1 = Po.len1 la + Po.len1 lb := ⟨Po.len1 la + Po.len1 lb - 1, by omega⟩
  have hNe : ((Po.len1 lb : Int) + (Po.len1 la : Int)) - 1 = (N : Int) := by omega
  have hmk := make_words N (by omega)
  have h0a' : 0 < Po.len1 la := by omega
  have h0b' : 0 < Po.len1 lb := by omega
  have hta : ((Po.len1 la : Int) == 0) = false := by simpa using h0a
  have htb : ((Po.len1 lb : Int) == 0) = false := by simpa using h0b
  have hfin : wcells N (fun j => Po.mulL (List.take (Po.len1 la) (Po.trim la)) (Po.cf (Po.trim lb)) j) = wcells N (fun j => Po.mulL (Po.trim la) (Po.cf lb) j) := by
    refine wcells_congr fun j _ => ?_
    rw [List.take_of_length_le (by rw [Po.trim_length]; exact Nat.le_refl _)]
    rw [Po.cf_trim]
  go_enter Try.func95, Try.ntmps95
  go_wp2_with (first
    | (go_at_call 74; with_reducible refine (bare_any a n c la w ha hac).mono ?_; rintro e w1 ⟨rfl, hb1⟩)
    | (go_at_call 74; with_reducible refine (bare_any b m d lb _ (hb.below hb1) hbd).mono ?_; rintro e w2 ⟨rfl, hb2⟩))
  have hbw := hb1.trans (hb2.mono hb1.size)
  have hx : Words32 w2 b (Po.len1 lb) (Po.trim lb) := (hb.bare).below hbw
  have hy : Words32 w2 a (Po.len1 la) (Po.trim la) := (ha.bare).below hbw
  have hsz := hbw.size
  have hne : ∀ ad', b = some ad' → ad'.block ≠ w2.heap.size := fun ad' e => Nat.ne_of_lt (hx.block_lt (by omega) e)
  go_loopw [36] (fun i wr => ∃ k : Nat, k ≤ Po.len1 la ∧ i = .int .i64 k ∧ Has wr w2.heap.size 54 (wcells N fun j => Po.mulL ((Po.trim la).take k) (Po.cf (Po.trim lb)) j) ∧ Below w2.heap.size w2 wr) (fun i _ => Po.len1 la - (intOf i).toNat)
  case atStart => exact ⟨0, Nat.zero_le _, rfl, Has.fresh _ _ _, (Below.refl _ _).alloc (Nat.le_refl _) _⟩
  case round =>
    obtain ⟨k, hk, rfl, hgk, hbk⟩ := hrel
    by_cases hlt : k < Po.len1 la
    · obtain ⟨ad, rfl, hxy⟩ := hy.2.2 k hlt
      obtain ⟨z, hz⟩ : ∃ z, z = (Po.trim la).getD k 0 := ⟨_, rfl⟩
      rw [← hz] at hxy
      have hcell : wr.cell? (ad.add k) = some (.int .u32 (nb32 z)) := (hbk.cell (isSome_lt (by rw [hxy]; rfl))).trans hxy
      have hNk : ¬ N = k := by omega
      have hkN : k ≤ N := by omega
      have HZ := Lib.hid hz
      clear hz
      go_wp2_with (first
        | (go_at_call 82
           refine (addMultiple_any w2.heap.size k (N - k) (N - k) _ _ N _ (Po.trim lb) z _ wr hgk (hx.below hbk) hne (by omega) (by omega)).mono ?_
           rintro e w3 ⟨rfl, hg3, _, hs3, hB3⟩))
      go_roundw
      case rel =>
        refine ⟨k + 1, by omega, by go_num, ?_, hbk.trans (hB3 _ (Nat.le_refl _) hbk.size)⟩
        have hz : z = Po.cf (Po.trim la) k := HZ.out
        rw [hz] at hg3
        rwa [wcells_congr (Po.amF_take _ N k _ _ (by rw [Po.trim_length]; exact hlt) (fun _ _ => rfl) _ (Po.trim_length _))] at hg3
      case measure => simp [intOf]; omega
    · obtain rfl : k = Po.len1 la := by omega
      go_wp2
      go_ret
      rw [hfin] at hgk
      have hml : Po.mulR la lb = Po.mk N (Po.mulL (Po.trim la) (Po.cf lb)) := by
        rw [Po.mulR, if_neg (by omega), show Po.len1 la + Po.len1 lb - 1 = N from by omega]
      refine ⟨⟨_, rfl, ?_⟩, hbw.trans (hbk.mono hsz)⟩
      rw [hml]
      refine Fresh.of_has hsz hgk (Po.mk_length _ _) (Nat.le_refl _) (by unfold maxLen; omega) (fun i hi => ?_)
      have := Po.cf_mk N (Po.mulL (Po.trim la) (Po.cf lb)) i
      rw [if_pos hi] at this
      exact this.symm

set_option maxHeartbeats 400000 in
theorem pmul_any (a b : Option Addr) (n c m d : Nat) (la lb : List (BitVec 32)) (w : World) (ha : Words32 w a n la) (hb : Words32 w b m lb) (hac : n ≤ c) (hbd : m ≤ d) (hs : n + m ≤ 549755813888) :
    Calls Try.prog 95 #[.slice a n c, .slice b m d] w fun e w' => (∃ v, e = .returned v ∧ Fresh 54 w.heap.size w' v (Po.mulR la lb)) ∧ Below w.heap.size w w' := by
  by_cases h0 : Po.len1 la = 0 ∨ Po.len1 lb = 0
  · have hla := Po.len1_le la
    have hlb := Po.len1_le lb
    have hln := ha.1
    have hlm := hb.1
    have hm : Po.mulR la lb = [] := by rw [Po.mulR, if_pos h0]
    have ht : (((Po.len1 la : Int) == 0) || ((Po.len1 lb : Int) == 0)) = true := by rcases h0 with h | h <;> simp [h]
    rw [hm]
    have HT := Lib.hid ht
    clear hm ht
    by_cases h0a : Po.len1 la = 0
    · have hta : ((Po.len1 la : Int) == 0) = true := by simp [h0a]
      go_enter Try.func95, Try.ntmps95
      go_wp2_with (first
        | (go_at_call 74; with_reducible refine (bare_any a n c la w ha hac).mono ?_; rintro e w1 ⟨rfl, hb1⟩)
        | (go_at_call 74; with_reducible refine (bare_any b m d lb _ (hb.below hb1) hbd).mono ?_; rintro e w2 ⟨rfl, hb2⟩))
      go_ret
      exact ⟨⟨_, rfl, Fresh.nil _ _ _⟩, hb1.trans (hb2.mono hb1.size)⟩
    · have hta : ((Po.len1 la : Int) == 0) = false := by simpa using h0a
      have htb : ((Po.len1 lb : Int) == 0) = true := by have := HT.out; rwa [hta, Bool.false_or] at this
      go_enter Try.func95, Try.ntmps95
      go_wp2_with (first
        | (go_at_call 74; with_reducible refine (bare_any a n c la w ha hac).mono ?_; rintro e w1 ⟨rfl, hb1⟩)
        | (go_at_call 74; with_reducible refine (bare_any b m d lb _ (hb.below hb1) hbd).mono ?_; rintro e w2 ⟨rfl, hb2⟩))
      go_ret
      exact ⟨⟨_, rfl, Fresh.nil _ _ _⟩, hb1.trans (hb2.mono hb1.size)⟩
  · by_cases hsw : Po.len1 la < Po.len1 lb
    · exact mul_short a b n c m d la lb w ha hb hac hbd hs (by omega) (by omega) hsw
    · exact mul_long a b n c m d la lb w ha hb hac hbd hs (by omega) (by omega) hsw

theorem scale_any (a : Option Addr) (n c : Nat) (la : List (BitVec 32)) (x : BitVec 32) (w : World) (ha : Words32 w a n la) (hac : n ≤ c) (hs : n ≤ 274877906944) :
    Calls Try.prog 83 #[.slice a n c, .int .u32 (nb32 x)] w fun e w' => (∃ v, e = .returned v ∧ Fresh 54 w.heap.size w' v (Po.mulR la [x])) ∧ Below w.heap.size w w' := by
  go_enter Try.func83, Try.ntmps83
  go_wp2_with (go_at_call 95; refine (pmul_any a _ n c 1 1 la [x] _ (ha.past _) (words_one w x _) hac (Nat.le_refl _) (by omega)).mono ?_; rintro e w1 ⟨⟨v, rfl, hv⟩, hb⟩)
  go_ret
  have hb' : Below w.heap.size w w1 := ((Below.refl _ w).alloc (Nat.le_refl _) _).trans (hb.mono (by simp))
  exact ⟨⟨_, rfl, hv.low (by simp)⟩, hb'⟩

namespace Po
def longF (W : Nat → List E) : Nat → Nat
  | 0 => 0
  | k + 1 => max (longF W k) (len1 (W k))
def sumF (W : Nat → List E) : Nat → Nat → E
  | 0 => fun _ => 0
  | k + 1 => addF (sumF W k) (cf (W k))
theorem longF_le (W : Nat → List E) (B : Nat) : ∀ k, (∀ i, i < k → len1 (W i) ≤ B) → longF W k ≤ B
  | 0, _ => Nat.zero_le _
  | k + 1, h => by
    have := longF_le W B k fun i hi => h i (by omega)
    have := h k (by omega)
    unfold longF
    omega
theorem len1_longF (W : Nat → List E) : ∀ k i, i < k → len1 (W i) ≤ longF W k
  | 0, i, h => by omega
  | k + 1, i, h => by
    unfold longF
    rcases Nat.lt_or_ge i k with h1 | h1
    · have := len1_longF W k i h1
      omega
    · obtain rfl : i = k := by omega
      omega
def inF (W : Nat → List E) (k j i : Nat) : E := if i < j then sumF W k i ^^^ cf (W k) i else sumF W k i
theorem inF_zero (W : Nat → List E) (k : Nat) : inF W k 0 = sumF W k := by funext i; simp [inF]
theorem inF_all (W : Nat → List E) (k j : Nat) (hj : len1 (W k) ≤ j) : inF W k j = sumF W (k + 1) := by
  funext i
  unfold inF
  split
  · rfl
  · show sumF W k i = sumF W k i ^^^ cf (W k) i
    rw [cf_len1 (W k) (by omega), xz]
theorem inF_here (W : Nat → List E) (k j : Nat) : inF W k j j = sumF W k j := by rw [inF, if_neg (by omega)]
theorem inF_step (W : Nat → List E) (N k j : Nat) (x : E) (hx : x = sumF W k j ^^^ cf (W k) j) : (wcells N (inF W k j)).setIfInBounds j (.int .u32 (nb32 x)) = wcells N (inF W k (j + 1)) := by
  refine wcells_put _ _ _ _ ?_ (fun i _ hne => ?_)
  · rw [inF, if_pos (by omega), hx]
  · unfold inF
    by_cases h : i < j
    · rw [if_pos h, if_pos (by omega)]
    · rw [if_neg h, if_neg (by omega)]
end Po
/-- a slice of slices of words -/
def WRows (w : World) (a : Option Addr) (n : Nat) (A : Nat → Option Addr) (L C : Nat → Nat) (W : Nat → List (BitVec 32)) : Prop :=
  n ≤ 1048576 ∧ ∀ i, i < n → (∃ x, a = some x ∧ w.cell? (x.add i) = some (.slice (A i) (L i) (C i))) ∧ Words32 w (A i) (L i) (W i) ∧ L i ≤ C i
theorem WRows.below {w w' : World} {a : Option Addr} {n : Nat} {A : Nat → Option Addr} {L C : Nat → Nat} {W : Nat → List (BitVec 32)} (h : WRows w a n A L C W) (hb : Below w.heap.size w w') : WRows w' a n A L C W :=
  ⟨h.1, fun i hi => by
    obtain ⟨⟨x, e, hx⟩, h2, h3⟩ := h.2 i hi
    exact ⟨⟨x, e, (hb.cell (isSome_lt (by rw [hx]; rfl))).trans hx⟩, h2.below hb, h3⟩⟩
set_option maxHeartbeats 2000000 in
theorem add_any (a : Option Addr) (n c : Nat) (A : Nat → Option Addr) (L C : Nat → Nat) (W : Nat → List (BitVec 32)) (w : World) (h : WRows w a n A L C W) (hs : ∀ i, i < n → L i ≤ 1099511627776) :
    Calls Try.prog 64 #[.slice a n c] w fun e w' => (∃ v, e = .returned v ∧ Fresh 54 w.heap.size w' v (Po.trim (Po.mk (Po.longF W n) (Po.sumF W n)))) ∧ Below w.heap.size w w' := by
  have hn := h.1
  have hlen : ∀ i, i < n → Po.len1 (W i) ≤ 1099511627776 := fun i hi => by
    have := (h.2 i hi).2.1.1
    have := Po.len1_le (W i)
    have := hs i hi
    omega
  have hmk := make_words (Po.longF W n) (Po.longF_le W _ n hlen)
  go_enter Try.func64, Try.ntmps64
  go_wp2
  go_loopw [3, 13] (fun x i wr => ∃ k : Nat, k ≤ n ∧ i = .int .i64 k ∧ x = .int .i64 (Po.longF W k) ∧ Below w.heap.size w wr) (fun _ i _ => n - (intOf i).toNat)
  case atStart => exact ⟨0, Nat.zero_le _, rfl, rfl, Below.refl _ _⟩
  case round =>
    obtain ⟨k, hk, rfl, rfl, hb⟩ := hrel
    by_cases hlt : k < n
    · obtain ⟨⟨ad, rfl, hx⟩, hw, hlc⟩ := h.2 k hlt
      have hcell := (hb.cell (isSome_lt (by rw [hx]; rfl))).trans hx
      go_wp2_with (first
        | (go_at_call 74; refine (bare_any _ _ _ (W k) _ (hw.below hb) hlc).mono ?_; rintro e w1 ⟨rfl, hb1⟩))
      go_roundw
      case rel =>
        refine ⟨k + 1, by omega, by go_num, ?_, hb.trans (hb1.mono hb.size)⟩
        rw [Po.longF]
        congr 1
        split <;> omega
      case measure => simp [intOf]; omega
    · obtain rfl : k = n := by omega
      obtain ⟨N, hN⟩ : ∃ N, N = Po.longF W k := ⟨_, rfl⟩
      have hlong : ∀ i, i < k → Po.len1 (W i) ≤ N := fun i hi => by rw [hN]; exact Po.len1_longF W k i hi
      have hNb : N ≤ 1099511627776 := by rw [hN]; exact Po.longF_le W _ k hlen
      rw [← hN] at hmk ⊢
      have HN := Lib.hid hN
      clear hN
      go_wp2
      have hsz := hb.size
      rename World => wA
      clear hmk
      go_loopw [27] (fun i w1 => ∃ m : Nat, m ≤ k ∧ i = .int .i64 m ∧ Has w1 wA.heap.size 54 (wcells N (Po.sumF W m)) ∧ Below wA.heap.size wA w1) (fun i _ => k - (intOf i).toNat)
      case atStart => exact ⟨0, Nat.zero_le _, rfl, Has.fresh _ _ _, (Below.refl _ _).alloc (Nat.le_refl _) _⟩
      case round =>
        obtain ⟨m, hm, rfl, hg, hb1⟩ := hrel
        rename World => wB
        by_cases hlt1 : m < k
        · obtain ⟨⟨ad, rfl, hx⟩, hw, hlc⟩ := h.2 m hlt1
          obtain ⟨Am, hAm⟩ : ∃ x, x = A m := ⟨_, rfl⟩
          rw [← hAm] at hx hw
          clear hAm
          have hcell := (hb1.cell (isSome_lt (by rw [(hb.cell (isSome_lt (by rw [hx]; rfl))).trans hx]; rfl))).trans ((hb.cell (isSome_lt (by rw [hx]; rfl))).trans hx)
          have hl1 := hlong m hlt1
          have hww := (hw.below hb).below hb1
          have hgl := hg.lt
          go_wp2_with (first
            | (go_at_call 74; refine (bare_any _ _ _ (W m) _ hww hlc).mono ?_; rintro e w2 ⟨rfl, hb2⟩))
          have hg2 := hg.under hb2 hgl
          have hb2' := hb1.trans (hb2.mono (Nat.le_of_lt hgl))
          go_loopw [34] (fun i w3 => ∃ j : Nat, j ≤ Po.len1 (W m) ∧ i = .int .i64 j ∧ Has w3 wA.heap.size 54 (wcells N (Po.inF W m j)) ∧ Below wA.heap.size wA w3) (fun i _ => Po.len1 (W m) - (intOf i).toNat)
          case atStart => exact ⟨0, Nat.zero_le _, rfl, by rw [Po.inF_zero]; exact hg2, hb2'⟩
          case round =>
            obtain ⟨j, hj, rfl, hg3, hb3⟩ := hrel
            have hw3 := ((hw.bare).below hb).below hb3
            by_cases hlt3 : j < Po.len1 (W m)
            · obtain ⟨ad3, rfl, hx3⟩ := hw3.2.2 j hlt3
              obtain ⟨z, hz⟩ : ∃ z, z = (Po.trim (W m)).getD j 0 := ⟨_, rfl⟩
              rw [← hz] at hx3
              have hcj := hg3.cell_at (wcells_at (i := j) _ (by omega))
              rw [Po.inF_here] at hcj
              have hfj := hg3.loose j
              have hg3l := hg3.lt
              have hz' : z = Po.cf (W m) j := hz.trans (congrFun (Po.cf_trim (W m)) j)
              have HZ := Lib.hid hz'
              have hjN : j < N := by omega
              clear hz hz'
              go_wp2_with (first
                | (go_at_call 32; refine (sum2 _ _ _).mono ?_; rintro e w4 ⟨rfl, rfl⟩))
              go_roundw
              case rel =>
                refine ⟨j + 1, by omega, by go_num, ?_, (hb3.setCell (p := ⟨wA.heap.size, j, none⟩) (Nat.le_refl _) _).alloc (by rw [World.size_setCell]; exact hb3.size) _⟩
                have := (hg3.put j (.int .u32 (nb32 (Po.sumF W m j ^^^ z)))).past (.cells #[.int .u32 (nb32 (Po.sumF W m j)), .int .u32 (nb32 z)] 54)
                rwa [Po.inF_step W N m j _ (by rw [HZ.out])] at this
              case measure => simp [intOf]; omega
            · obtain rfl : j = Po.len1 (W m) := by omega
              rw [Po.inF_all W m _ (Nat.le_refl _)] at hg3
              go_wp2
              go_roundw
              case rel => exact ⟨m + 1, by omega, by go_num, hg3, hb3⟩
              case measure => simp [intOf]; omega
        · obtain rfl : m = k := by omega
          have hwo : Words32 wB (some ⟨wA.heap.size, 0, none⟩) N (Po.mk N (Po.sumF W m)) := by
            refine ⟨Po.mk_length _ _, by unfold maxLen; omega, fun i hi => ⟨_, rfl, ?_⟩⟩
            rw [Addr.add_mid, Nat.zero_add, hg.cell, wcells_at _ hi]
            have := Po.cf_mk N (Po.sumF W m) i
            rw [if_pos hi] at this
            rw [show (Po.mk N (Po.sumF W m)).getD i 0 = _ from this]
          go_wp2_with (first
            | (go_at_call 75; refine (trim_any _ _ _ _ _ hwo (by omega)).mono ?_; rintro e w4 ⟨⟨v, rfl, hv⟩, hb4⟩))
          go_ret
          have hbb := hb.trans (hb1.mono hb.size)
          rw [HN.out] at hv
          exact ⟨⟨v, rfl, hv.low hbb.size⟩, hbb.trans (hb4.mono hbb.size)⟩
end Go.Proofs.Ytamigcbodplmcaa

/-! Package poly: values, derivatives, squares, roots. -/
namespace Go.Proofs.Ytamigcbodplmcaa
open Go Go.RowKit
namespace Po
def dvF (f : Nat → E) (i : Nat) : E := if i % 2 = 0 then f (i + 1) else 0
/-- the first k coefficients taken in -/
def dvK (f : Nat → E) (k i : Nat) : E := if i % 2 = 0 ∧ i + 1 < k then f (i + 1) else 0
theorem dvK_step (f : Nat → E) (n k : Nat) (hk : k % 2 = 1) : (wcells n (dvK f k)).setIfInBounds (k - 1) (.int .u32 (nb32 (f k))) = wcells n (dvK f (k + 1)) := by
  refine wcells_put _ _ _ _ ?_ (fun i _ hne => ?_)
  · rw [dvK, if_pos (by omega), show k - 1 + 1 = k from by omega]
  · unfold dvK
    by_cases h : i % 2 = 0 ∧ i + 1 < k
    · rw [if_pos h, if_pos (by omega)]
    · rw [if_neg h, if_neg (by omega)]
theorem dvK_even (f : Nat → E) (k : Nat) (hk : k % 2 = 0) : dvK f (k + 1) = dvK f k := by
  funext i
  unfold dvK
  by_cases h : i % 2 = 0 ∧ i + 1 < k
  · rw [if_pos h, if_pos (by omega)]
  · rw [if_neg h, if_neg (by omega)]
def sqF (f : Nat → E) (k i : Nat) : E := if i % 2 = 0 ∧ i / 2 < k then Gf.square (f (i / 2)) else 0
theorem sqF_step (f : Nat → E) (n k : Nat) : (wcells n (sqF f k)).setIfInBounds (2 * k) (.int .u32 (nb32 (Gf.square (f k)))) = wcells n (sqF f (k + 1)) := by
  refine wcells_put _ _ _ _ ?_ (fun i _ hne => ?_)
  · rw [sqF, if_pos (by omega), show 2 * k / 2 = k from by omega]
  · unfold sqF
    by_cases h : i % 2 = 0 ∧ i / 2 < k
    · rw [if_pos h, if_pos (by omega)]
    · rw [if_neg h, if_neg (by omega)]
end Po
set_option maxHeartbeats 1000000 in
theorem psquare_any (a : Option Addr) (n c : Nat) (l : List (BitVec 32)) (w : World) (h : Words32 w a n l) (hc : n ≤ c) (hs : n ≤ 274877906944) :
    Calls Try.prog 81 #[.slice a n c] w fun e w' => (∃ v, e = .returned v ∧ Fresh 54 w.heap.size w' v (Po.mk (2 * Po.len1 l) (Po.sqF (Po.cf l) (Po.len1 l)))) ∧ Below w.heap.size w w' := by
  have hle := Po.len1_le l
  have hl := h.1
  obtain ⟨N, hN⟩ : ∃ N, N = 2 * Po.len1 l := ⟨_, rfl⟩
  have hmk := make_words N (by omega)
  have hm2 : 2 * (Po.len1 l : Int) = (N : Int) := by omega
  have HN := Lib.hid hN
  clear hN
  go_enter Try.func81, Try.ntmps81
  go_wp2_with (first
    | (go_at_call 74; refine (bare_any _ _ _ l _ h hc).mono ?_; rintro e w1 ⟨rfl, hb1⟩))
  clear hmk
  have hsz := hb1.size
  have hwb := h.bare.below hb1
  go_loopw [14] (fun i wr => ∃ k : Nat, k ≤ Po.len1 l ∧ i = .int .i64 k ∧ Has wr w1.heap.size 54 (wcells N (Po.sqF (Po.cf l) k)) ∧ Below w1.heap.size w1 wr) (fun i _ => Po.len1 l - (intOf i).toNat)
  case atStart =>
    refine ⟨0, Nat.zero_le _, rfl, ?_, (Below.refl _ _).alloc (Nat.le_refl _) _⟩
    rw [wcells_congr (fun i _ => show Po.sqF (Po.cf l) 0 i = 0#32 from by rw [Po.sqF, if_neg (by omega)]; rfl)]
    exact Has.fresh _ _ _
  case round =>
    obtain ⟨k, hk, rfl, hg, hb⟩ := hrel
    by_cases hlt : k < Po.len1 l
    · obtain ⟨ad, rfl, hx⟩ := hwb.2.2 k hlt
      obtain ⟨z, hz⟩ : ∃ z, z = (Po.trim l).getD k 0 := ⟨_, rfl⟩
      rw [← hz] at hx
      have hcell := (hb.cell (isSome_lt (by rw [hx]; rfl))).trans hx
      have HZ := Lib.hid (show z = Po.cf l k from hz.trans (congrFun (Po.cf_trim l) k))
      clear hz hx
      obtain ⟨K, hK⟩ : ∃ K, K = 2 * k := ⟨_, rfl⟩
      have hKe : 2 * (k : Int) = (K : Int) := by omega
      have hKN : K < N := by have := HN.out; omega
      have hc := hg.cell_at (wcells_at (i := K) _ hKN)
      have hf := hg.loose K
      have HK := Lib.hid hK
      clear hK
      go_wp2_with (first
        | (go_at_call 48; refine (square_any _ _).mono ?_; rintro e w' ⟨rfl, rfl⟩))
      go_roundw
      case rel =>
        refine ⟨k + 1, by omega, by go_num, ?_, hb.setCell (p := ⟨w1.heap.size, K, none⟩) (Nat.le_refl _) _⟩
        have := hg.put K (.int .u32 (nb32 (Gf.square z)))
        rwa [HZ.out, HK.out, Po.sqF_step, ← HK.out, ← HZ.out] at this
      case measure => simp [intOf]; omega
    · obtain rfl : k = Po.len1 l := by omega
      go_wp2
      go_ret
      refine ⟨⟨_, rfl, ?_⟩, hb1.trans (hb.mono hsz)⟩
      rw [← HN.out]
      refine Fresh.of_has hsz hg (Po.mk_length _ _) (Nat.le_refl _) (by have := HN.out; unfold maxLen; omega) (fun i hi => ?_)
      have := Po.cf_mk N (Po.sqF (Po.cf l) (Po.len1 l)) i
      rw [if_pos hi] at this
      exact this.symm
end Go.Proofs.Ytamigcbodplmcaa

/-! Package poly: values. -/
namespace Go.Proofs.Ytamigcbodplmcaa
open Go Go.RowKit Go.Shelf
attribute [local go_sem] Oper.semAt_some

theorem Good.of {Bx : Nat} {a : Option Addr} {n c : Nat} {l : List (BitVec 32)} {W : World} (hb : W.cell? ⟨Bx, 0, none⟩ = some (.slice a n c)) (h : Words32 W a n l) : Good Bx a n c W :=
  ⟨hb, fun i hi => by
    obtain ⟨ad, e, hx⟩ := h.2.2 i hi
    exact ⟨ad, _, e, hx⟩⟩
theorem reading_val {a : Option Addr} {k : Nat} {W w : World} {x : Nat × BitVec 32} {k' n : Nat} {l : List (BitVec 32)} (hr : Reading a k W x k') (h : Words32 w a n l) (hk : k ≤ n) (hb : Below w.heap.size w W) : k = k' + 1 ∧ x.1 = k' ∧ x.2 = Po.cf l k' := by
  obtain ⟨rfl, e1, ad, e2, hx⟩ := hr
  refine ⟨rfl, e1, ?_⟩
  obtain ⟨ad', e', hx'⟩ := h.2.2 k' (by omega)
  obtain rfl : ad = ad' := by rw [e2] at e'; injection e'
  rw [← hb.cell (isSome_lt (by rw [hx']; rfl)), hx] at hx'
  exact u32_inj.1 (by injection hx' with h; injection h)

end Go.Proofs.Ytamigcbodplmcaa

/-! Division of polynomials. Nothing of the program. -/
namespace Go.Proofs.Ytamigcbodplmcaa.Po
open Go.Proofs.Ytamigcbodplmcaa
theorem mulL_Xn (p : List E) (k : Nat) (f : Nat → E) : mulL p (Xn k f) = Xn k (mulL p f) := by
  induction k with
  | zero => rw [Xn_zero, Xn_zero]
  | succ k ih => rw [Xn_succ, Xn_succ, mulL_X, ih]
theorem mulL_mono (p : List E) (k : Nat) (c : E) : mulL p (Xn k (sclF c oneF)) = Xn k (sclF c (cf p)) := by
  rw [mulL_Xn, mulL_scl, mulL_oneF]
theorem mulL_cong' {p q : List E} (h : cf p = cf q) (f : Nat → E) (n : Nat) (hf : ∀ i, n ≤ i → f i = 0) : mulL p f = mulL q f := by
  have : f = cf (mk n f) := by
    funext i
    rw [cf_mk]
    split
    · rfl
    · exact hf i (by omega)
  rw [this]
  exact mulL_congr h _
theorem mono_at (k : Nat) (c : E) (j : Nat) : Xn k (sclF c oneF) j = if j = k then c else 0 := by
  unfold Xn sclF oneF
  by_cases h : k ≤ j
  · rw [if_pos h]
    by_cases h2 : j = k
    · subst h2
      rw [Nat.sub_self, if_pos rfl, if_pos rfl, Gf.mul_one]
    · rw [if_neg (by omega), if_neg h2, Gf.mul_zero]
  · rw [if_neg h, if_neg (by omega)]

/-- a = q b + r, both trimmed, r below b -/
structure IsDiv (a b q r : List E) : Prop where
  tq : trim q = q
  tr : trim r = r
  eq : cf a = addF (mulL b (cf q)) (cf r)
  lt : len1 r < len1 b
theorem addF_cancel {f g h k : Nat → E} (e : addF f g = addF h k) : addF f h = addF g k := by
  funext i
  have := congrFun e i
  show f i ^^^ h i = g i ^^^ k i
  have h1 : f i ^^^ g i = h i ^^^ k i := this
  have h2 : (f i ^^^ h i) ^^^ (g i ^^^ k i) = 0 := by rw [xor_swap, h1]; exact BitVec.xor_self
  exact xor_eq_zero.1 h2
theorem sumL (p q : List E) : ∃ s, cf s = addF (cf p) (cf q) := by
  refine ⟨mk (max p.length q.length) (addF (cf p) (cf q)), ?_⟩
  funext i
  rw [cf_mk]
  split
  · rfl
  · show 0 = cf p i ^^^ cf q i
    rw [cf_ge (by omega), cf_ge (by omega)]; rfl
theorem mulL_trim (b : List E) (f : Nat → E) (n : Nat) (hf : ∀ i, n ≤ i → f i = 0) : mulL (trim b) f = mulL b f := mulL_cong' (cf_trim b) f n hf
/-- the product's last coefficient, wherever the lists end -/
theorem lead (p q : List E) (hp : len1 p ≠ 0) (hq : len1 q ≠ 0) : mulL p (cf q) (len1 p - 1 + (len1 q - 1)) = Gf.mul (cf p (len1 p - 1)) (cf q (len1 q - 1)) ∧ mulL p (cf q) (len1 p - 1 + (len1 q - 1)) ≠ 0 := by
  have hne : trim p ≠ [] := fun e => hp (trim_eq_nil.1 e)
  have h := mulL_lead (trim p) (cf q) (len1 q - 1) (fun i hi => cf_len1 q (by omega)) hne
  rw [trim_length, cf_trim, mulL_trim p _ (len1 q) (fun i hi => cf_len1 q hi)] at h
  refine ⟨h, ?_⟩
  rw [h]
  intro h0
  rcases Gf.no_divisors h0 with h1 | h1
  · exact len1_ne hp h1
  · exact len1_ne hq h1
theorem beyond (p q : List E) (i : Nat) (hi : len1 p + len1 q ≤ i + 1) : mulL p (cf q) i = 0 := by
  rw [← mulL_trim p (cf q) (len1 q) (fun i hi => cf_len1 q hi)]
  exact mulL_ge _ _ (len1 q) (fun i hi => cf_len1 q hi) i (by rw [trim_length]; exact hi)
theorem IsDiv.unique {a b q r q' r' : List E} (h : IsDiv a b q r) (h' : IsDiv a b q' r') : q = q' ∧ r = r' := by
  have e := addF_cancel (h.eq.symm.trans h'.eq)
  rw [← mulL_add] at e
  obtain ⟨s, hs⟩ := sumL q q'
  rw [← hs] at e
  have hs0 : len1 s = 0 := by
    by_cases h0 : len1 s = 0
    · exact h0
    · exfalso
      have hb : len1 b ≠ 0 := by have := h.lt; omega
      apply (lead b s hb h0).2
      rw [e]
      show cf r _ ^^^ cf r' _ = 0
      have h1 := h.lt
      have h2 := h'.lt
      rw [cf_len1 r (by omega), cf_len1 r' (by omega)]; rfl
  have hz := (len1_zero_iff s).1 hs0
  rw [hz, mulL_zero] at e
  constructor
  · rw [← h.tq, ← h'.tq]
    apply trim_congr
    funext i
    have := congrFun hs i
    rw [hz] at this
    exact xor_eq_zero.1 this.symm
  · rw [← h.tr, ← h'.tr]
    apply trim_congr
    funext i
    exact xor_eq_zero.1 (congrFun e i).symm
open Classical in
noncomputable def qr (a b : List E) : List E × List E := if h : ∃ p : List E × List E, IsDiv a b p.1 p.2 then h.choose else ([], trim a)
theorem IsDiv.qr {a b q r : List E} (h : IsDiv a b q r) : Po.qr a b = (q, r) := by
  have he : ∃ p : List E × List E, IsDiv a b p.1 p.2 := ⟨(q, r), h⟩
  unfold Po.qr
  rw [dif_pos he]
  have := he.choose_spec.unique h
  exact Prod.ext this.1 this.2

/-- the division's state, k places to go: what has been taken -/
structure DivInv (la lb : List E) (k : Nat) (R Q : Nat → E) : Prop where
  eq : cf la = addF (mulL lb Q) R
  hi : ∀ i, k ≤ i → R i = 0
  lo : ∀ j, j + len1 lb ≤ k → Q j = 0
  up : ∀ j, len1 la < j + len1 lb → Q j = 0
theorem DivInv.start (la lb : List E) : DivInv la lb (len1 la) (cf la) (fun _ => 0) :=
  ⟨by rw [mulL_zero, zero_addF], fun i hi => cf_len1 la hi, fun _ _ => rfl, fun _ _ => rfl⟩
def setF (Q : Nat → E) (j : Nat) (x : E) : Nat → E := fun i => if i = j then x else Q i
theorem DivInv.step {la lb : List E} {k : Nat} {R Q : Nat → E} (h : DivInv la lb (k + 1) R Q) (hb : len1 lb ≠ 0) (hk : len1 lb ≤ k + 1) (hka : k < len1 la) :
    DivInv la lb k (amF R (k + 1 - len1 lb) (Gf.mul (R k) (Gf.inv (cf lb (len1 lb - 1)))) (trim lb) (len1 lb)) (setF Q (k + 1 - len1 lb) (Gf.mul (R k) (Gf.inv (cf lb (len1 lb - 1))))) := by
  obtain ⟨m, hm⟩ : ∃ m, m = k + 1 - len1 lb := ⟨_, rfl⟩
  obtain ⟨f, hf⟩ : ∃ f, f = Gf.mul (R k) (Gf.inv (cf lb (len1 lb - 1))) := ⟨_, rfl⟩
  rw [← hm, ← hf]
  have hQm : Q m = 0 := h.lo m (by omega)
  have hset : setF Q m f = addF Q (Xn m (sclF f oneF)) := by
    funext j
    show (if j = m then f else Q j) = Q j ^^^ Xn m (sclF f oneF) j
    rw [mono_at]
    by_cases hj : j = m
    · subst hj; rw [if_pos rfl, if_pos rfl, hQm, zx]
    · rw [if_neg hj, if_neg hj, xz]
  have ham : amF R m f (trim lb) (len1 lb) = addF R (Xn m (sclF f (cf lb))) := by
    funext j
    show (if m ≤ j ∧ j < m + len1 lb then R j ^^^ Gf.mul f (cf (trim lb) (j - m)) else R j) = R j ^^^ (if m ≤ j then Gf.mul f (cf lb (j - m)) else 0)
    rw [cf_trim]
    by_cases h1 : m ≤ j
    · rw [if_pos h1]
      by_cases h2 : j < m + len1 lb
      · rw [if_pos ⟨h1, h2⟩]
      · rw [if_neg (by omega), cf_len1 lb (by omega), Gf.mul_zero, xz]
    · rw [if_neg (by omega), if_neg h1, xz]
  refine ⟨?_, fun i hi => ?_, fun j hj => ?_, fun j hj => ?_⟩
  · rw [hset, ham, mulL_add, mulL_mono, h.eq, addF_swap, addF_self, addF_zero]
  · rw [ham]
    show R i ^^^ (if m ≤ i then Gf.mul f (cf lb (i - m)) else 0) = 0
    rw [if_pos (by omega)]
    by_cases hik : i = k
    · subst hik
      rw [show i - m = len1 lb - 1 from by omega, hf, Gf.mul_assoc, Gf.mul_comm (Gf.inv _), Gf.mul_inv (len1_ne hb), Gf.mul_one]
      exact BitVec.xor_self
    · rw [h.hi i (by omega), cf_len1 lb (by omega), Gf.mul_zero]; rfl
  · show (if j = m then f else Q j) = 0
    rw [if_neg (by omega)]
    exact h.lo j (by omega)
  · show (if j = m then f else Q j) = 0
    rw [if_neg (by omega)]
    exact h.up j hj
theorem len1_le_of {l : List E} {n : Nat} (h : ∀ i, n ≤ i → cf l i = 0) : len1 l ≤ n := by
  by_cases h0 : len1 l = 0
  · omega
  · have := len1_ne h0
    rcases Nat.lt_or_ge n (len1 l) with h1 | h1
    · exact absurd (h _ (by omega)) this
    · exact h1
theorem trim_of {l : List E} (h : l.length ≠ 0 → cf l (l.length - 1) ≠ 0) : trim l = l :=
  trim_self (len1_eq (fun _ hi => cf_ge hi) h)
theorem DivInv.done {la lb : List E} {k : Nat} {R Q : Nat → E} (h : DivInv la lb k R Q) (hk : k < len1 lb) (hka : k ≤ len1 la) : IsDiv la lb (Po.mk (len1 la + 1 - len1 lb) Q) (trim (Po.mk (len1 la) R)) := by
  have hcR : cf (Po.mk (len1 la) R) = R := by
    funext i
    rw [cf_mk]
    split
    · rfl
    · exact (h.hi i (by omega)).symm
  have hcQ : cf (Po.mk (len1 la + 1 - len1 lb) Q) = Q := by
    funext i
    rw [cf_mk]
    split
    · rfl
    · exact (h.up i (by omega)).symm
  refine ⟨?_, trim_trim _, by rw [cf_trim, hcR, hcQ]; exact h.eq, ?_⟩
  · apply trim_of
    rw [mk_length]
    intro hn hz
    rw [hcQ] at hz
    have hl : len1 (Po.mk (len1 la + 1 - len1 lb) Q) ≤ len1 la - len1 lb := len1_le_of fun i hi => by
      rw [hcQ]
      by_cases h1 : i = len1 la - len1 lb
      · rw [h1, show len1 la - len1 lb = len1 la + 1 - len1 lb - 1 from by omega]; exact hz
      · exact h.up i (by omega)
    have ha : len1 la ≠ 0 := by omega
    apply len1_ne ha
    rw [h.eq]
    show mulL lb Q (len1 la - 1) ^^^ R (len1 la - 1) = 0
    rw [← hcQ, beyond lb _ _ (by omega), h.hi _ (by omega)]; rfl
  · rw [len1_trim]
    have := len1_le_of (l := Po.mk (len1 la) R) (n := k) (fun i hi => by rw [hcR]; exact h.hi i hi)
    omega
theorem IsDiv.ex_aux {a b : List E} (hb : len1 b ≠ 0) : ∀ (k : Nat) (R Q : Nat → E), k ≤ len1 a → DivInv a b k R Q → ∃ q r, IsDiv a b q r
  | k, R, Q, hk, h => by
    by_cases hlt : k < len1 b
    · exact ⟨_, _, h.done hlt hk⟩
    · cases k with
      | zero => omega
      | succ k => exact IsDiv.ex_aux hb k _ _ (by omega) (h.step hb (by omega) (by omega))
theorem qr_spec (a : List E) {b : List E} (hb : len1 b ≠ 0) : IsDiv a b (Po.qr a b).1 (Po.qr a b).2 := by
  obtain ⟨q, r, h⟩ := IsDiv.ex_aux (a := a) hb (len1 a) _ _ (Nat.le_refl _) (DivInv.start a b)
  rw [h.qr]
  exact h
/-- divided by the last coefficient -/
def monic (a : List E) : List E := if len1 a = 0 then [] else mulR a [Gf.inv (cf a (len1 a - 1))]
/-- the common divisor, by Euclid's steps -/
inductive Gcd : List E → List E → List E → Prop
  | base {a b : List E} (h : len1 b = 0) : Gcd a b (monic a)
  | step {a b g : List E} (h : len1 b ≠ 0) (hg : Gcd b (Po.qr a b).2 g) : Gcd a b g
theorem Gcd.unique {a b g : List E} (h : Gcd a b g) : ∀ {g'}, Gcd a b g' → g = g' := by
  induction h with
  | base h =>
    intro g' h'
    cases h' with
    | base => rfl
    | step h2 _ => exact absurd h h2
  | step h hg ih =>
    intro g' h'
    cases h' with
    | base h2 => exact absurd h2 h
    | step _ h3 => exact ih h3
def fromL (l : List E) : List E := l.foldl (fun p r => mulR p [r, 1]) [1]
theorem fromL_take (l : List E) (k : Nat) (h : k < l.length) : fromL (l.take (k + 1)) = mulR (fromL (l.take k)) [cf l k, 1] := by
  rw [take_snoc h, fromL, List.foldl_append]
  rfl
theorem cf_mulR (a b : List E) : cf (mulR a b) = mulL a (cf b) := by
  unfold mulR
  by_cases h : len1 a = 0 ∨ len1 b = 0
  · rw [if_pos h, cf_nil]
    rcases h with h | h
    · have h1 := (len1_zero_iff a).1 h
      rw [mulL_comm, h1, mulL_zero]
    · rw [(len1_zero_iff b).1 h, mulL_zero]
  · rw [if_neg h]
    funext i
    rw [cf_mk, mulL_trim a (cf b) (len1 b) (fun i hi => cf_len1 b hi)]
    split
    · rfl
    · exact (beyond a b i (by omega)).symm
theorem mulR_len (a b : List E) : len1 (mulR a b) = (mulR a b).length := by
  by_cases h : len1 a = 0 ∨ len1 b = 0
  · have : mulR a b = [] := by rw [mulR, if_pos h]
    rw [this]; rfl
  · have hl : (mulR a b).length = len1 a + len1 b - 1 := by rw [mulR, if_neg h, mk_length]
    refine len1_eq (fun i hi => cf_ge hi) (fun hn => ?_)
    rw [hl, cf_mulR, show len1 a + len1 b - 1 - 1 = len1 a - 1 + (len1 b - 1) from by omega]
    exact (lead a b (by omega) (by omega)).2
theorem mulR_length {a b : List E} (ha : len1 a ≠ 0) (hb : len1 b ≠ 0) : (mulR a b).length = len1 a + len1 b - 1 := by
  rw [mulR, if_neg (by omega), mk_length]
theorem mulR_trim (a b l : List E) (h : cf l = mulL a (cf b)) : mulR a b = trim l := by
  rw [← trim_self (mulR_len a b)]
  exact trim_congr (by rw [cf_mulR, h])
theorem len1_one : len1 [(1 : E)] = 1 := len1_eq (fun i hi => cf_ge hi) (fun _ => by show cf [(1 : E)] 0 ≠ 0; rw [cf_zero]; decide)
theorem len1_lin (r : E) : len1 [r, 1] = 2 := len1_eq (fun i hi => cf_ge hi) (fun _ => by show cf [r, (1 : E)] 1 ≠ 0; rw [cf_cons, cf_zero]; decide)
theorem fromL_len (l : List E) : ∀ k, k ≤ l.length → (fromL (l.take k)).length = k + 1 ∧ len1 (fromL (l.take k)) = k + 1
  | 0, _ => ⟨rfl, len1_one⟩
  | k + 1, h => by
    obtain ⟨_, h1⟩ := fromL_len l k (by omega)
    rw [fromL_take l k (by omega)]
    have h2 := len1_lin (cf l k)
    have h3 : (mulR (fromL (l.take k)) [cf l k, 1]).length = k + 1 + 1 := by rw [mulR_length (by omega) (by omega)]; omega
    exact ⟨h3, by rw [mulR_len, h3]⟩
end Go.Proofs.Ytamigcbodplmcaa.Po

/-! A region that draws its order, within a round of a range over a function: its head only reads, its tail is forced. Nothing of the program. -/
namespace Go.Proofs.Ytamigcbodplmcaa
open Go Go.RowKit
section
variable {P : Program} {lp n : Nat} {ops : Array Oper} {Q : Exit → Act → World → Prop} {a : Act} {w : World}
theorem operIn_round {o : Oper} {K K' : Act → World → Prop} (hnd : ∀ c, o.op ≠ .defer c) (hK : ∀ a w, K a w → K' a w) (h : o.wp P a w K Q) : o.wpIn (Fence.wide.inRound lp) n P a w K' Q := by
  refine ⟨fun _ _ => trivial, ?_⟩
  rw [Fence.inRound_round, Oper.semAt_some _ _ _ hnd]
  unfold Oper.wp at h
  generalize (execOp a.eval o).run P w = r at h ⊢
  unfold Oper.upon at h
  unfold Oper.uponIn
  split at h
  · exact hK _ _ h
  · exact hK _ _ h
  · exact hK _ _ h
  · refine ⟨fun hd => by simp [Fence.inRound, Fence.wide] at hd, CallsIn.inRound lp (callsIn_wide.2 (h.mono fun e w2 h2 => ?_))⟩
    cases e
    · exact hK _ _ h2
    · exact h2
    · exact h2
  · refine ⟨fun hd => by simp [Fence.inRound, Fence.wide] at hd, fun c cs _ => ?_⟩
    obtain ⟨v, w2, h1, h2⟩ := h c cs
    exact ⟨v, w2, hK _ _ h1, stepsIn_wide.2 h2⟩
  · exact h
  · exact h.elim
theorem opIn_round (hlo : ¬ LetsOut Q) {i : Nat} {K K' : Act → World → Prop} (hnd : ∀ o, ops[i]? = some o → ∀ c, o.op ≠ .defer c) (hK : ∀ a w, K a w → K' a w) (h : wpOp P ops Q i K a w) : wpOpIn (Fence.wide.inRound lp) n P ops Q i K' a w := by
  unfold wpOp at h
  unfold wpOpIn
  cases ho : ops[i]? with
  | none => rw [ho] at h; exact hK _ _ h
  | some o =>
    rw [ho] at h
    by_cases hw : Region.wanted o (yielded ops a.tmps) = true
    · simp only [hw, if_true] at h ⊢
      exact operIn_round (hnd o ho) hK (h.resolve_right fun h2 => hlo h2.2)
    · simp only [hw] at h ⊢
      exact ⟨fun _ _ => trivial, hK _ _ h⟩
theorem anyIn_round (hlo : ¬ LetsOut Q) {md : Region.Mode} (hnd : ∀ (i : Nat) (o : Oper), ops[i]? = some o → ∀ c, o.op ≠ .defer c) : ∀ (fuel : Nat) (listed : Array Bool) (a : Act) (w : World), wpAny P md ops Q fuel listed a w → wpAnyIn (Fence.wide.inRound lp) n P md ops Q fuel listed a w
  | 0, _, _, _, h => h
  | fuel + 1, _, _, _, h => ⟨h.1, fun i hi => opIn_round hlo (hnd i) (fun a w => anyIn_round hlo hnd fuel _ a w) (h.2 i hi)⟩
end
theorem wpIn_round_still_tail {P : Program} {lp n id : Nat} {Q : Exit → Act → World → Prop} {a : Act} {w : World} {l : List Oper} (m : Nat) (hm : P.follows .mixedOrders = true) (hB : Region.lexTailB .any l.toArray m = true)
    (hnd : ∀ o ∈ l, ∀ c, o.op ≠ .defer c) (hlo : ¬ LetsOut Q)
    (h : wpStill P l.toArray { w with drawn := w.drawn + 1 } (fun a' => wpList P l.toArray Q (l.drop m) a' { w with drawn := w.drawn + 1 }) (l.take m) a) : (Code.region id l.toArray true).wpIn (Fence.wide.inRound lp) n P Q a w := by
  simp only [Region.lexTailB, Bool.and_eq_true, decide_eq_true_eq] at hB
  obtain ⟨⟨⟨⟨hsel, hn⟩, hs⟩, hc⟩, hlex⟩ := hB
  have hn' : m < l.length := by simpa using hn
  have htl : (l.take m).length = m := by simp; omega
  have hdl : (l.drop m).length = l.toArray.size - m := by simp
  have inv0 : HeadInv .any l.toArray m (Array.replicate l.toArray.size false) :=
    ⟨by simp, fun j oj _ hl => (by rw [getD_replicate_false] at hl; cases hl), fun t _ ht => getD_in (by simpa using ht) (getD_replicate_false _ _)⟩
  have H := wpAnyL_lex (md := .any) (g := l.toArray.size - m) hsel hs hc hn (l.take m) 0 _ a (fun j hj => by
    have hj' : j < m := by rw [htl] at hj; exact hj
    simp [hj']) (by simpa using htl) inv0 (by rw [htl]; exact hlex) h
  refine wpIn_region_any hm (anyIn_round hlo (fun i o ho => hnd o (by
    rw [List.getElem?_toArray] at ho
    exact List.mem_of_getElem? ho)) _ _ _ _ ?_)
  have h2 := wpAny_of_head (Q' := Q) (g := l.toArray.size - m) (fun listed a' hL => by
    have := wpAny_of_seq (md := .any) (Q' := Q) (l.drop m) m listed a' { w with drawn := w.drawn + 1 } (fun j => by simp [List.getElem?_drop]) (by rw [hdl]; exact hL.1) hL.2
    rwa [hdl] at this) _ _ _ H
  rw [htl, show m + (l.toArray.size - m) = l.toArray.size by omega] at h2
  exact h2
end Go.Proofs.Ytamigcbodplmcaa

/-! Package poly: division. -/
namespace Go.Proofs.Ytamigcbodplmcaa
open Go Go.RowKit Go.Shelf
attribute [local go_sem] Oper.semAt_some

/-- the division's state in memory -/
structure DivSt (la lb : List (BitVec 32)) (bv : Value) (B s gr NQ d0 : Nat) (iv : BitVec 32) (w : World) (k : Nat) (R Q : Nat → BitVec 32) (W : World) : Prop where
  inv : Po.DivInv la lb k R Q
  r : Has W gr 54 (wcells (Po.len1 la) R)
  q : Has W (s + 1) 54 (wcells NQ Q)
  c0 : Has W B 22 #[bv]
  c1 : Has W (B + 1) 22 #[.slice (some ⟨s + 1, 0, none⟩) NQ NQ]
  c2 : Has W (B + 1 + 1) 22 #[.slice (some ⟨gr, 0, none⟩) (Po.len1 la) (Po.len1 la)]
  cd : Has W s 3 #[.int .i64 (d0 : Int)]
  ci : Has W (s + 1 + 1) 54 #[.int .u32 (nb32 iv)]
  bel : Below w.heap.size w W
theorem DivSt.own {la lb : List (BitVec 32)} {bv : Value} {B s gr NQ d0 : Nat} {iv : BitVec 32} {w : World} {k : Nat} {R Q : Nat → BitVec 32} {W W' : World} {BB : Nat} {row : Option Nat}
    (h : DivSt la lb bv B s gr NQ d0 iv w k R Q W) (hB : w.heap.size ≤ BB) (hg : W.grownBy W' row) (hr : ∀ r, row = some r → BB ≤ r ∧ ∃ o : Obj, W.heap[r]? = some o ∧ o.isCells = false) : DivSt la lb bv B s gr NQ d0 iv w k R Q W' :=
  ⟨h.inv, h.r.own hg hr, h.q.own hg hr, h.c0.own hg hr, h.c1.own hg hr, h.c2.own hg hr, h.cd.own hg hr, h.ci.own hg hr, below_own h.bel hB hg hr⟩
theorem Words32.draw {w : World} {a : Option Addr} {n : Nat} {l : List (BitVec 32)} (h : Words32 w a n l) : Words32 w.drew a n l := h
set_option maxHeartbeats 4000000 in
set_option maxRecDepth 100000 in
theorem pdivide_any (a b : Option Addr) (n c m d : Nat) (la lb : List (BitVec 32)) (w : World) (ha : Words32 w a n la) (hb : Words32 w b m lb) (hbd : m ≤ d) (hs : n ≤ 1099511627776) (hs2 : m ≤ 1099511627776) (h0 : Po.len1 lb ≠ 0) :
    Calls Try.prog 72 #[.slice a n c, .slice b m d] w fun e w' =>
      (∃ v u, e = .returned (.tuple #[v, u]) ∧ Fresh 54 w.heap.size w' v (Po.qr la lb).1 ∧ Fresh 54 w.heap.size w' u (Po.qr la lb).2) ∧ Below w.heap.size w w' := by
  have hmix : Try.prog.follows .mixedOrders = true := by kernel_rfl
  apply calls_of_wide
  refine callsIn_of_wp_marks Try.func72 rfl trivial ?_ rfl
  simp only [Try.ntmps72, List.size_toArray, List.length_cons, List.length_nil, Nat.reduceAdd, Nat.reduceSub, Array.replicate_succ, Array.replicate_zero, List.push_toArray, List.append_toArray, List.nil_append, List.cons_append]
  refine wpIn_wide.2 ?_
  go_wp2
  obtain ⟨W0, hW0⟩ : ∃ W0, ((w.alloc (.cells #[.slice b m d] 22)).alloc (.cells #[.slice none 0 0] 22)).alloc (.cells #[.slice none 0 0] 22) = W0 := ⟨_, rfl⟩
  have hs0 : W0.heap.size = w.heap.size + 1 + 1 + 1 := by rw [← hW0]; simp
  have hbb : Has W0 w.heap.size 22 #[.slice b m d] := by rw [← hW0]; exact ((Has.fresh _ _ _).past _).past _
  have hbq : Has W0 (w.heap.size + 1) 22 #[.slice none 0 0] := by rw [← hW0]; exact (Has.fresh_at _ _ _ (by simp)).past _
  have hbr : Has W0 (w.heap.size + 1 + 1) 22 #[.slice none 0 0] := by rw [← hW0]; exact Has.fresh_at _ _ _ (by simp)
  have hb0 : Below w.heap.size w W0 := by rw [← hW0]; exact (((Below.refl _ w).alloc (Nat.le_refl _) _).alloc (by simp) _).alloc (by simp; omega) _
  rw [hW0]
  clear hW0
  have ha0 := ha.below hb0
  have hb1 := hb.below hb0
  refine wpIn_wide.1 (wpIn_mono (n := 5) (Q := Exit.then (fun a' w' => ∃ gr, a' = { tmps := #[.slice a n c, .slice b m d, undef, .pointer (some ⟨w.heap.size, 0, none⟩), .pointer (some ⟨w.heap.size + 1, 0, none⟩), .pointer (some ⟨w.heap.size + 1 + 1, 0, none⟩), undef, undef, undef, undef, undef, .slice a n c, .slice (some ⟨gr, 0, none⟩) (Po.len1 la) (Po.len1 la), .slice b m d, .slice b (Po.len1 lb) d, undef, undef, undef, undef, undef, undef, undef, undef, undef, undef, undef, undef, undef, undef, undef, undef, undef, undef, undef, undef, undef, undef, undef, undef, undef, undef, undef, undef, undef, undef, undef, undef, undef, undef, undef, undef, undef, undef, undef, undef, undef], defers := [] } ∧ w.heap.size + 1 + 1 < gr ∧ Has w' gr 54 (wcells (Po.len1 la) (Po.cf la)) ∧
      Has w' w.heap.size 22 #[.slice b (Po.len1 lb) d] ∧ Has w' (w.heap.size + 1) 22 #[.slice none 0 0] ∧ Has w' (w.heap.size + 1 + 1) 22 #[.slice (some ⟨gr, 0, none⟩) (Po.len1 la) (Po.len1 la)] ∧ Below w.heap.size w w') (fun _ _ _ => False)) (wpIn_wide.2 ?r1) ?_)
  case r1 =>
    have hc1 := hbb.cell_at (i := 0) rfl
    have hl0 := hbb.lt
    have hl2 := hbr.lt
    go_region_law (first
      | (go_simp; go_at_call 75; refine (trim_own a n c la _ ha0.draw hs).mono ?_; rintro e w1 ⟨⟨gr, rfl, hgr, hhr⟩, hbw1⟩; have hc2 := (hbb.draw.under hbw1 hl0).cell_at (i := 0) rfl; have hgl := hhr.lt)
      | (go_simp; go_at_call 74; refine (bare_any b m d lb _ (hb1.draw.below hbw1) hbd).mono ?_; rintro e w2 ⟨rfl, hbw2⟩
         have hx0 := (hbb.draw.under hbw1 hl0).under hbw2 (Nat.lt_of_lt_of_le hl0 hbw1.size); have hx2 := (hbr.draw.under hbw1 hl2).under hbw2 (Nat.lt_of_lt_of_le hl2 hbw1.size)
         have hc3 := hx0.cell_at (i := 0) rfl; have hf3 := hx0.loose 0; have hc4 := hx2.cell_at (i := 0) rfl; have hf4 := hx2.loose 0))
    all_goals
      (have hx1 := (hbq.draw.under hbw1 (show w.heap.size + 1 < W0.heap.size by omega)).under hbw2 (Nat.lt_of_lt_of_le (show w.heap.size + 1 < W0.heap.size by omega) hbw1.size)
       have hgr' : w.heap.size + 1 + 1 < gr := Nat.lt_of_lt_of_le (show w.heap.size + 1 + 1 < W0.heap.size by omega) hgr
       have hhr2 := hhr.under hbw2 hgl
       refine ⟨gr, rfl, hgr', (hhr2.aside (by show gr ≠ w.heap.size + 1 + 1; omega) _).aside (by show gr ≠ w.heap.size; omega) _, (hx0.aside (by show w.heap.size ≠ w.heap.size + 1 + 1; omega) _).put 0 _,
         (hx1.aside (by show w.heap.size + 1 ≠ w.heap.size + 1 + 1; omega) _).aside (by show w.heap.size + 1 ≠ w.heap.size; omega) _, (hx2.put 0 _).aside (by show w.heap.size + 1 + 1 ≠ w.heap.size; omega) _, ?_⟩
       have hq : Below w.heap.size w w2 := (hb0.drew.trans (hbw1.mono (show w.heap.size ≤ W0.heap.size by omega))).trans (hbw2.mono (Nat.le_trans (show w.heap.size ≤ W0.heap.size by omega) hbw1.size))
       exact (hq.setCell (p := ⟨w.heap.size + 1 + 1, 0, none⟩) (by show w.heap.size ≤ w.heap.size + 1 + 1; omega) _).setCell (p := ⟨w.heap.size, 0, none⟩) (Nat.le_refl _) _)
  intro e a' w' hq
  rcases e with _ | _ | _ | _ | _ | _
  case normal =>
    obtain ⟨gr, rfl, hgr, hhr, hB0, hB1, hB2, hbw⟩ := hq
    have hla := Po.len1_le la
    have hlb := Po.len1_le lb
    have hln := ha.1
    have hlm := hb.1
    obtain ⟨NQ, hNQ⟩ : ∃ N, N = Po.len1 la + 1 - Po.len1 lb := ⟨_, rfl⟩
    have hmk := make_words NQ (by omega)
    obtain ⟨d0, hd0⟩ : ∃ d0, Po.len1 lb = d0 + 1 := ⟨Po.len1 lb - 1, by omega⟩
    have hde : (Po.len1 lb : Int) - 1 = (d0 : Int) := by omega
    have hmx : ∀ w, (Builtin.max_ #[3, 3] 3 #[.int .i64 ((Po.len1 la : Int) - (d0 : Int)), .int .i64 0]).run Try.prog w = .ok (.int .i64 (NQ : Int)) w := fun w => by
      rw [run_max_int2]
      congr 2
      split <;> omega
    have hd1 : d0 < Po.len1 lb := by omega
    have HD := Lib.hid hd0
    clear hd0
    have hc0 := hB0.cell_at (i := 0) rfl
    have hc1 := hB1.cell_at (i := 0) rfl
    have hc2 := hB2.cell_at (i := 0) rfl
    have hf1 := hB1.loose 0
    have hl0 := hB0.lt
    have hl1 := hB1.lt
    have hl2 := hB2.lt
    have hlr := hhr.lt
    have HNQ := Lib.hid hNQ
    clear hNQ
    have hwb := (hb.bare).below hbw
    obtain ⟨ad, rfl, hx⟩ := hwb.2.2 d0 hd1
    have hxz : (Po.trim lb).getD d0 0 = Po.cf lb d0 := congrFun (Po.cf_trim lb) d0
    rw [hxz] at hx
    obtain ⟨bl, hbl⟩ : ∃ z, z = Po.cf lb d0 := ⟨_, rfl⟩
    rw [← hbl] at hx
    have hadb : (ad.add d0).block < w.heap.size := by
      have h1 : ad.block < w.heap.size := hb.block_lt (by omega) rfl
      unfold Addr.add
      split <;> exact h1
    have hbl0 := hbw.size
    have hcb : ∀ X o1 o2, (((w'.setCell ⟨w.heap.size + 1, 0, none⟩ X).alloc o1).alloc o2).cell? (ad.add d0) = some (.int .u32 (nb32 bl)) := fun X o1 o2 => by
      rw [World.cell?_alloc_lt _ _ _ (by rw [World.size_alloc, World.size_setCell]; omega), World.cell?_alloc_lt _ _ _ (by rw [World.size_setCell]; omega), World.cell?_setCell_other _ _ _ _ (fun e => by rw [← e] at hadb; simp at hadb; omega)]
      exact hx
    clear hx
    have HBL := Lib.hid hbl
    clear hbl hxz
    go_wp2_with (first
      | (go_at_call 47; refine (inverse_any _ _).mono ?_; rintro e w1 ⟨rfl, rfl⟩)
      | (go_at_call 65; refine (fromLast_any _ _ _ _).mono ?_; rintro e w1 ⟨rfl, rfl⟩))
    obtain ⟨W5, hW5⟩ : ∃ W5, (((((w'.setCell ⟨w.heap.size + 1, 0, none⟩ (.slice (some ⟨w'.heap.size + 1, 0, none⟩) NQ NQ)).alloc (.cells #[.int .i64 (d0 : Int)] 3)).alloc (.cells (wcells NQ fun _ => 0#32) 54)).alloc
      (.cells #[.int .u32 (nb32 (Gf.inv bl))] 54)).alloc (.cells #[.slice (some ⟨gr, 0, none⟩) (Po.len1 la) (Po.len1 la)] 22)) = W5 := ⟨_, rfl⟩
    have hst : DivSt la lb (.slice (some ad) (Po.len1 lb) d) w.heap.size w'.heap.size gr NQ d0 (Gf.inv bl) w (Po.len1 la) (Po.cf la) (fun _ => 0) W5 := by
      rw [← hW5]
      exact ⟨Po.DivInv.start la lb, ((((hhr.aside (by show gr ≠ w.heap.size + 1; omega) _).past _).past _).past _).past _, ((Has.fresh_at _ _ _ (by simp)).past _).past _,
        ((((hB0.aside (by show w.heap.size ≠ w.heap.size + 1; omega) _).past _).past _).past _).past _, ((((hB1.put 0 _).past _).past _).past _).past _,
        ((((hB2.aside (by show w.heap.size + 1 + 1 ≠ w.heap.size + 1; omega) _).past _).past _).past _).past _, (((Has.fresh_at _ _ _ (by simp)).past _).past _).past _, (Has.fresh_at _ _ _ (by simp)).past _,
        (((((hbw.setCell (p := ⟨w.heap.size + 1, 0, none⟩) (by show w.heap.size ≤ w.heap.size + 1; omega) _).alloc (by simp; omega) _).alloc (by simp; omega) _).alloc (by simp; omega) _).alloc (by simp; omega) _)⟩
    have hs5 : W5.heap.size = w'.heap.size + 1 + 1 + 1 + 1 := by rw [← hW5]; simp
    have hit : W5.cell? ⟨w'.heap.size + 1 + 1 + 1, 0, none⟩ = some (.slice (some ⟨gr, 0, none⟩) (Po.len1 la) (Po.len1 la)) := by
      rw [← hW5]
      exact (Has.fresh_at _ _ _ (by simp)).cell_at (i := 0) rfl
    rw [hW5]
    clear hW5 hc0 hc1 hc2 hf1 hmk hmx hcb
    have hgd : Good (w'.heap.size + 1 + 1 + 1) (some ⟨gr, 0, none⟩) (Po.len1 la) (Po.len1 la) W5 := Good.of hit (words_of_has hst.r (Nat.le_refl _) (by omega)) 
    have hAm : Po.len1 la ≤ maxLen := by unfold maxLen; omega
    refine (wpIn_wide (n := 5)).1 ?_
    refine wpIn_range_told (F := Fence.wide) rfl (by omega) (gf := 76) (lb := #[.pointer (some ⟨w'.heap.size + 1 + 1 + 1, 0, none⟩)]) rfl trivial (enters_of Try.func76 (by kernel_rfl) rfl)
      (fromLast_iter 4 (by omega) (w'.heap.size + 1 + 1 + 1) _ _ _ hAm W5 hgd) (Below.refl _ _) (fun _ => rfl)
      (fun h1 h2 h => h2 (h1 h)) (fun W l o o' _ ho hc hg => hg.put o' ho hc) (fun x s' => reading_own _ _ x s')
      (fun k W => k ≤ Po.len1 la ∧ ∃ R Q, DivSt la lb (.slice (some ad) (Po.len1 lb) d) w.heap.size w'.heap.size gr NQ d0 (Gf.inv bl) w k R Q W)
      (fun cd _ W => cd = .exit 0 ∧ ∃ k, k ≤ Po.len1 la ∧ k < Po.len1 lb ∧ ∃ R Q, DivSt la lb (.slice (some ad) (Po.len1 lb) d) w.heap.size w'.heap.size gr NQ d0 (Gf.inv bl) w k R Q W)
      (fun k W W' row h hg hr => ⟨h.1, by obtain ⟨R, Q, hh⟩ := h.2; exact ⟨R, Q, hh.own (by omega) hg hr⟩⟩)
      (fun cd k W W' row h hg hr => ⟨h.1, by obtain ⟨k2, h1, h2, R, Q, hh⟩ := h.2; exact ⟨k2, h1, h2, R, Q, hh.own (by omega) hg hr⟩⟩)
      ⟨Nat.le_refl _, _, _, hst⟩
      (fun x => { tmps := #[.slice a n c, .slice (some ad) m d, undef, .pointer (some ⟨w.heap.size, 0, none⟩), .pointer (some ⟨w.heap.size + 1, 0, none⟩), .pointer (some ⟨w.heap.size + 1 + 1, 0, none⟩), .pointer (some ⟨w'.heap.size, 0, none⟩), .pointer (some ⟨w'.heap.size + 1 + 1, 0, none⟩), .int .i64 (x.1 : Int), .int .u32 (nb32 x.2), undef, .slice a n c, .slice (some ⟨gr, 0, none⟩) (Po.len1 la) (Po.len1 la), .slice (some ad) m d, .slice (some ad) (Po.len1 lb) d, .slice (some ad) (Po.len1 lb) d, .int .i64 (Po.len1 lb : Int), .int .i64 (d0 : Int), .slice (some ⟨gr, 0, none⟩) (Po.len1 la) (Po.len1 la), .int .i64 (Po.len1 la : Int), .int .i64 (d0 : Int), .int .i64 ((Po.len1 la : Int) - (d0 : Int)), .int .i64 (NQ : Int), .slice (some ⟨w'.heap.size + 1, 0, none⟩) NQ NQ, .slice (some ad) (Po.len1 lb) d, .int .i64 (d0 : Int), .pointer (some (ad.add d0)), .int .u32 (nb32 bl), .int .u32 (nb32 (Gf.inv bl)), .slice (some ⟨gr, 0, none⟩) (Po.len1 la) (Po.len1 la), .func (.func 76) #[] #[.pointer (some ⟨w'.heap.size + 1 + 1 + 1, 0, none⟩)], .int .i64 (x.1 : Int), .int .u32 (nb32 x.2), undef, undef, undef, undef, undef, undef, undef, undef, undef, undef, undef, undef, undef, undef, undef, undef, undef, undef, undef, undef, undef, undef, undef], defers := [] })
      ?assign ?body ?done ?stop
    case assign =>
      intro l x W K hK
      dsimp only [encR]
      gi_wp2
      exact hK
    case body =>
      rintro lp k x k' W ⟨hk, R, Q, hS⟩ hr hsz
      obtain ⟨rfl, hx1, ad', e', hx⟩ := hr
      obtain rfl : ad' = ⟨gr, 0, none⟩ := by injection e' with e'; exact e'.symm
      obtain ⟨i, z⟩ := x
      have hi : i = k' := hx1
      subst hi
      have hzR : z = R i := by
        have h1 : W.cell? ((⟨gr, 0, none⟩ : Addr).add i) = some (.int .u32 (nb32 z)) := hx
        rw [Addr.add_mid, Nat.zero_add, hS.r.cell_at (wcells_at _ (by omega))] at h1
        exact (u32_inj.1 (by injection h1 with h; injection h)).symm
      clear hx hx1 e'
      have HZ := Lib.hid hzR
      clear hzR
      have hcd := hS.cd.cell_at (i := 0) rfl
      by_cases hbr : i < d0
      · have hlt : (i : Int) < (d0 : Int) := by omega
        gi_wp2
        exact ⟨KeepsFrom.refl _ _, rfl, i + 1, by omega, by have := HD.out; omega, R, Q, hS⟩
      · have hnl : ¬ (i : Int) < (d0 : Int) := by omega
        obtain ⟨j, hj⟩ : ∃ j, i = j + d0 := ⟨i - d0, by omega⟩
        have hje : (i : Int) - (d0 : Int) = (j : Int) := by omega
        have hjN : j < NQ := by have := HNQ.out; omega
        have hjA : ¬ Po.len1 la = j := by omega
        have hjA2 : j ≤ Po.len1 la := by omega
        have hci := hS.ci.cell_at (i := 0) rfl
        have hcq := hS.c1.cell_at (i := 0) rfl
        have hcj := hS.q.cell_at (wcells_at (i := j) _ hjN)
        have hfj := hS.q.loose j
        have hgr1 : gr < w'.heap.size := hlr
        have h4 : 1 ≤ 5 - 1 - 1 := by omega
        have HJ := Lib.hid hj
        clear hj
        gi_wp2_with (refine ⟨trivial, ?_⟩; first
          | (gi_at_call 46; refine (CallsIn.inRound lp (callsIn_wide.2 (mul_any _ _ _))).mono ?_; rintro e w3 ⟨rfl, rfl⟩))
        obtain ⟨f, hf⟩ : ∃ f, f = Gf.mul z (Gf.inv bl) := ⟨_, rfl⟩
        rw [← hf]
        have hfS : f = Gf.mul (R i) (Gf.inv (Po.cf lb d0)) := by rw [hf, HZ.out, HBL.out]
        have HF := Lib.hid hfS
        clear hf hfS
        have hS1 : DivSt la lb (.slice (some ad) (Po.len1 lb) d) w.heap.size w'.heap.size gr NQ d0 (Gf.inv bl) w (i + 1) R Q W := hS
        have hr6 := hS.r.aside (p := ⟨w'.heap.size + 1, j, none⟩) (by show gr ≠ w'.heap.size + 1; omega) (.int .u32 (nb32 f))
        have hq6 := hS.q.put j (.int .u32 (nb32 f))
        have h06 := hS.c0.aside (p := ⟨w'.heap.size + 1, j, none⟩) (by show w.heap.size ≠ w'.heap.size + 1; omega) (.int .u32 (nb32 f))
        have h16 := hS.c1.aside (p := ⟨w'.heap.size + 1, j, none⟩) (by show w.heap.size + 1 ≠ w'.heap.size + 1; omega) (.int .u32 (nb32 f))
        have h26 := hS.c2.aside (p := ⟨w'.heap.size + 1, j, none⟩) (by show w.heap.size + 1 + 1 ≠ w'.heap.size + 1; omega) (.int .u32 (nb32 f))
        have hd6 := hS.cd.aside (p := ⟨w'.heap.size + 1, j, none⟩) (by show w'.heap.size ≠ w'.heap.size + 1; omega) (.int .u32 (nb32 f))
        have hi6 := hS.ci.aside (p := ⟨w'.heap.size + 1, j, none⟩) (by show w'.heap.size + 1 + 1 ≠ w'.heap.size + 1; omega) (.int .u32 (nb32 f))
        have hb6 := hS.bel.setCell (p := ⟨w'.heap.size + 1, j, none⟩) (by show w.heap.size ≤ w'.heap.size + 1; omega) (.int .u32 (nb32 f))
        have hk6 : KeepsOthers W (W.setCell ⟨w'.heap.size + 1, j, none⟩ (.int .u32 (nb32 f))) := KeepsOthers.setCell _ _ _
        have ht6 : W.cell? ⟨w'.heap.size + 1 + 1 + 1, 0, none⟩ = some (.slice (some ⟨gr, 0, none⟩) (Po.len1 la) (Po.len1 la)) → (W.setCell ⟨w'.heap.size + 1, j, none⟩ (.int .u32 (nb32 f))).cell? ⟨w'.heap.size + 1 + 1 + 1, 0, none⟩ = some (.slice (some ⟨gr, 0, none⟩) (Po.len1 la) (Po.len1 la)) := fun h => by
          rw [World.cell?_setCell_other _ _ _ _ (by simp)]; exact h
        rw [wcells_put Q (Po.setF Q j f) j f (by unfold Po.setF; rw [if_pos rfl]) (fun i _ hne => by unfold Po.setF; rw [if_neg hne])] at hq6
        have hsz6 : W5.heap.size ≤ (W.setCell ⟨w'.heap.size + 1, j, none⟩ (.int .u32 (nb32 f))).heap.size := by rw [World.size_setCell]; exact hsz
        clear hcd hci hcq hcj hfj
        generalize W.setCell ⟨w'.heap.size + 1, j, none⟩ (.int .u32 (nb32 f)) = W6 at *
        have hcd := hd6.cell_at (i := 0) rfl
        have hc2 := h26.cell_at (i := 0) rfl
        have hc0 := h06.cell_at (i := 0) rfl
        have hbW : Words32 W6 (some ad) (Po.len1 lb) (Po.trim lb) := hb.bare.below hb6
        have hblk : ∀ ad', some ad = some ad' → ad'.block ≠ gr := fun ad' e => by
          have h1 : ad.block < w.heap.size := hb.block_lt (by omega) rfl
          injection e with e
          rw [← e]
          omega
        have hlen1 : Po.len1 lb ≤ Po.len1 la - j := by have h1 := HD.out; have h2 := HJ.out; omega
        have hwr : IntKind.i64.wrap ((i : Int) - (d0 : Int)) = (j : Int) := by rw [IntWalk.i64_in _ (by omega)]; exact hje
        have hwr : IntKind.i64.wrap (j : Int) = (j : Int) := IntWalk.i64_in _ (by omega)
        refine wpIn_round_still_tail 7 hmix (by kernel_rfl) (by simp) (fun ⟨_, _, h⟩ => (h : False)) ?_
        simp only [List.take_succ_cons, List.take_zero, List.drop_succ_cons, List.drop_zero]
        repeat still_step
        refine wpStill_nil ?_
        go_wp2_with (go_at_call 82; refine (addMultiple_any gr j (Po.len1 la - j) (Po.len1 la - j) _ _ (Po.len1 la) _ (Po.trim lb) f R _ hr6.draw hbW.draw hblk hlen1 (by omega)).mono ?_; rintro e w3 ⟨rfl, hg3, ho3, hs3, hB3⟩)
        have hcarry : ∀ {g t cs}, Has W6 g t cs → g ≠ gr → Has w3 g t cs := fun h hne => (ho3 _ h.lt hne).trans h
        have hoth : KeepsOthers W6 w3 := ⟨hs3, fun k o hk ho => by
          have hne : k ≠ gr := fun e => by
            subst e
            have h1 := hr6
            unfold Has at h1
            rw [hk] at h1
            cases h1
            cases ho
          exact (ho3 k (Array.getElem?_eq_some_iff.1 hk).1 hne).trans hk⟩
        have hinv := hS1.inv.step h0 (by have h1 := HD.out; have h2 := HJ.out; omega) (by omega)
        rw [show i + 1 - Po.len1 lb = j from by have h1 := HD.out; have h2 := HJ.out; omega, show Po.len1 lb - 1 = d0 from by have h1 := HD.out; omega, ← HF.out] at hinv
        refine ⟨(hk6.trans hoth).from _, fun hgW => Good.of ?_ (words_of_has hg3 (Nat.le_refl _) (by omega)), by omega, _, _, hinv, hg3, hcarry hq6 (by omega), hcarry h06 (by omega), hcarry h16 (by omega), hcarry h26 (by omega), hcarry hd6 (by omega), hcarry hi6 (by omega), ?_⟩
        · exact (World.cell?_of_block (ho3 (w'.heap.size + 1 + 1 + 1) (by show w'.heap.size + 1 + 1 + 1 < W6.heap.size; omega) (by omega))).trans (ht6 hgW.1)
        · exact hb6.drew.trans (hB3 w.heap.size (by omega) hb6.size)
    case done =>
      rintro D k W hD rfl ⟨hka, R, Q, hS⟩ hK
      have hkb : 0 < Po.len1 lb := by omega
      have hc1 := hS.c1.cell_at (i := 0) rfl
      have hc2 := hS.c2.cell_at (i := 0) rfl
      have hrw : Words32 W (some ⟨gr, 0, none⟩) (Po.len1 la) (Po.mk (Po.len1 la) R) := words_of_has hS.r (Nat.le_refl _) (by omega)
      have hdiv := (hS.inv.done hkb hka).qr
      have hl1 : w.heap.size + 1 < W.heap.size := hS.c1.lt
      have hl2 : w.heap.size + 1 + 1 < W.heap.size := hS.c2.lt
      have hDl : D < W.heap.size := (Array.getElem?_eq_some_iff.1 hK).1
      go_wp2
      go_region_law (first
        | (go_simp; go_at_call 75; refine (trim_any _ _ _ _ _ hrw.draw (by omega)).mono ?_; rintro e w4 ⟨⟨v4, rfl, hv4⟩, hbw4⟩; obtain ⟨ra4, rc4, rfl, _⟩ := id hv4
           have hx1 := hS.c1.draw.under hbw4 hl1; have hx2 := hS.c2.draw.under hbw4 hl2
           have hc3 := hx1.cell_at (i := 0) rfl; have hf3 := hx1.loose 0; have hc4 := hx2.cell_at (i := 0) rfl; have hf4 := hx2.loose 0
           have hc5 : ∀ u, (w4.setCell ⟨w.heap.size + 1, 0, none⟩ u).cell? ⟨w.heap.size + 1 + 1, 0, none⟩ = some (.slice (some ⟨gr, 0, none⟩) (Po.len1 la) (Po.len1 la)) := fun u => (hx2.aside (p := ⟨w.heap.size + 1, 0, none⟩) (by show w.heap.size + 1 + 1 ≠ w.heap.size + 1; omega) u).cell_at (i := 0) rfl
           have hf5 : ∀ u, (w4.setCell ⟨w.heap.size + 1, 0, none⟩ u).frozen? ⟨w.heap.size + 1 + 1, 0, none⟩ = false := fun u => (hx2.aside (p := ⟨w.heap.size + 1, 0, none⟩) (by show w.heap.size + 1 + 1 ≠ w.heap.size + 1; omega) u).loose 0))
      all_goals
        (go_wp2
         have hK4 : w4.heap[D]? = some (.deferred (some [])) := (hbw4.block D hDl).trans hK
         have hN1 : ∀ u, KeepsOthers w4 ((w4.setCell ⟨w.heap.size + 1, 0, none⟩ (.slice (some ⟨w'.heap.size + 1, 0, none⟩) NQ NQ)).setCell ⟨w.heap.size + 1 + 1, 0, none⟩ u) := fun u => (KeepsOthers.setCell _ _ _).trans (KeepsOthers.setCell _ _ _)
         have hN2 : ∀ u g t cs, Has w4 g t cs → w.heap.size + 1 + 1 < g → Has ((w4.setCell ⟨w.heap.size + 1, 0, none⟩ (.slice (some ⟨w'.heap.size + 1, 0, none⟩) NQ NQ)).setCell ⟨w.heap.size + 1 + 1, 0, none⟩ u) g t cs := fun u g t cs h hg =>
           (h.aside (by show g ≠ w.heap.size + 1; omega) _).aside (by show g ≠ w.heap.size + 1 + 1; omega) _
         have hK5 := (hN1 (.slice ra4 (Po.trim (Po.mk (Po.len1 la) R)).length rc4)).same D _ hK4 rfl
         refine leaves_two rfl ⟨_, Try.underlying22, rfl⟩ ⟨_, Try.underlying22, rfl⟩ rfl rfl hK5
           (((hx1.put 0 _).aside (by show w.heap.size + 1 ≠ w.heap.size + 1 + 1; omega) _).cell_at (i := 0) rfl) (((hx2.aside (by show w.heap.size + 1 + 1 ≠ w.heap.size + 1; omega) _).put 0 _).cell_at (i := 0) rfl) ⟨⟨_, _, rfl, ?_, ?_⟩, ?_⟩
         · rw [hdiv]
           exact Fresh.of_has (show w.heap.size ≤ w'.heap.size + 1 by omega) ((hN2 _ _ _ _ (hS.q.draw.under hbw4 hS.q.lt) (by omega)).putObj _ hK5 rfl) (by rw [Po.mk_length, HNQ.out]) (Nat.le_refl _) (by have := HNQ.out; unfold maxLen; omega) (fun i hi => by
             have h1 := Po.cf_mk (Po.len1 la + 1 - Po.len1 lb) Q i
             rw [← HNQ.out, if_pos hi] at h1
             rw [← HNQ.out]
             exact h1.symm)
         · rw [hdiv]
           exact (hv4.carry (fun g t cs hg h => (hN2 _ g t cs h (by have : W.drew.heap.size = W.heap.size := rfl; omega)).putObj _ hK5 rfl)).low (by have : W.drew.heap.size = W.heap.size := rfl; omega)
         · have hb9 : Below w.heap.size w w4 := hS.bel.drew.trans (hbw4.mono hS.bel.size)
           exact below_putObj ((hb9.setCell (p := ⟨w.heap.size + 1, 0, none⟩) (by show w.heap.size ≤ w.heap.size + 1; omega) _).setCell (p := ⟨w.heap.size + 1 + 1, 0, none⟩) (by show w.heap.size ≤ w.heap.size + 1 + 1; omega) _) (by rw [World.size_setCell, World.size_setCell]; exact hb9.size) (by omega) _)
    case stop =>
      rintro D cd k' W hD ⟨rfl, k, hka, hkb, R, Q, hS⟩ hK
      have hc1 := hS.c1.cell_at (i := 0) rfl
      have hc2 := hS.c2.cell_at (i := 0) rfl
      have hrw : Words32 W (some ⟨gr, 0, none⟩) (Po.len1 la) (Po.mk (Po.len1 la) R) := words_of_has hS.r (Nat.le_refl _) (by omega)
      have hdiv := (hS.inv.done hkb hka).qr
      have hl1 : w.heap.size + 1 < W.heap.size := hS.c1.lt
      have hl2 : w.heap.size + 1 + 1 < W.heap.size := hS.c2.lt
      have hDl : D < W.heap.size := (Array.getElem?_eq_some_iff.1 hK).1
      refine (wpIn_wide (n := 5)).2 ?_
      go_wp2
      go_region_law (first
        | (go_simp; go_at_call 75; refine (trim_any _ _ _ _ _ hrw.draw (by omega)).mono ?_; rintro e w4 ⟨⟨v4, rfl, hv4⟩, hbw4⟩; obtain ⟨ra4, rc4, rfl, _⟩ := id hv4
           have hx1 := hS.c1.draw.under hbw4 hl1; have hx2 := hS.c2.draw.under hbw4 hl2
           have hc3 := hx1.cell_at (i := 0) rfl; have hf3 := hx1.loose 0; have hc4 := hx2.cell_at (i := 0) rfl; have hf4 := hx2.loose 0
           have hc5 : ∀ u, (w4.setCell ⟨w.heap.size + 1, 0, none⟩ u).cell? ⟨w.heap.size + 1 + 1, 0, none⟩ = some (.slice (some ⟨gr, 0, none⟩) (Po.len1 la) (Po.len1 la)) := fun u => (hx2.aside (p := ⟨w.heap.size + 1, 0, none⟩) (by show w.heap.size + 1 + 1 ≠ w.heap.size + 1; omega) u).cell_at (i := 0) rfl
           have hf5 : ∀ u, (w4.setCell ⟨w.heap.size + 1, 0, none⟩ u).frozen? ⟨w.heap.size + 1 + 1, 0, none⟩ = false := fun u => (hx2.aside (p := ⟨w.heap.size + 1, 0, none⟩) (by show w.heap.size + 1 + 1 ≠ w.heap.size + 1; omega) u).loose 0))
      all_goals
        (go_wp2
         have hK4 : w4.heap[D]? = some (.deferred (some [])) := (hbw4.block D hDl).trans hK
         have hN1 : ∀ u, KeepsOthers w4 ((w4.setCell ⟨w.heap.size + 1, 0, none⟩ (.slice (some ⟨w'.heap.size + 1, 0, none⟩) NQ NQ)).setCell ⟨w.heap.size + 1 + 1, 0, none⟩ u) := fun u => (KeepsOthers.setCell _ _ _).trans (KeepsOthers.setCell _ _ _)
         have hN2 : ∀ u g t cs, Has w4 g t cs → w.heap.size + 1 + 1 < g → Has ((w4.setCell ⟨w.heap.size + 1, 0, none⟩ (.slice (some ⟨w'.heap.size + 1, 0, none⟩) NQ NQ)).setCell ⟨w.heap.size + 1 + 1, 0, none⟩ u) g t cs := fun u g t cs h hg =>
           (h.aside (by show g ≠ w.heap.size + 1; omega) _).aside (by show g ≠ w.heap.size + 1 + 1; omega) _
         have hK5 := (hN1 (.slice ra4 (Po.trim (Po.mk (Po.len1 la) R)).length rc4)).same D _ hK4 rfl
         refine leaves_two rfl ⟨_, Try.underlying22, rfl⟩ ⟨_, Try.underlying22, rfl⟩ rfl rfl hK5
           (((hx1.put 0 _).aside (by show w.heap.size + 1 ≠ w.heap.size + 1 + 1; omega) _).cell_at (i := 0) rfl) (((hx2.aside (by show w.heap.size + 1 + 1 ≠ w.heap.size + 1; omega) _).put 0 _).cell_at (i := 0) rfl) ⟨⟨_, _, rfl, ?_, ?_⟩, ?_⟩
         · rw [hdiv]
           exact Fresh.of_has (show w.heap.size ≤ w'.heap.size + 1 by omega) ((hN2 _ _ _ _ (hS.q.draw.under hbw4 hS.q.lt) (by omega)).putObj _ hK5 rfl) (by rw [Po.mk_length, HNQ.out]) (Nat.le_refl _) (by have := HNQ.out; unfold maxLen; omega) (fun i hi => by
             have h1 := Po.cf_mk (Po.len1 la + 1 - Po.len1 lb) Q i
             rw [← HNQ.out, if_pos hi] at h1
             rw [← HNQ.out]
             exact h1.symm)
         · rw [hdiv]
           exact (hv4.carry (fun g t cs hg h => (hN2 _ g t cs h (by have : W.drew.heap.size = W.heap.size := rfl; omega)).putObj _ hK5 rfl)).low (by have : W.drew.heap.size = W.heap.size := rfl; omega)
         · have hb9 : Below w.heap.size w w4 := hS.bel.drew.trans (hbw4.mono hS.bel.size)
           exact below_putObj ((hb9.setCell (p := ⟨w.heap.size + 1, 0, none⟩) (by show w.heap.size ≤ w.heap.size + 1; omega) _).setCell (p := ⟨w.heap.size + 1 + 1, 0, none⟩) (by show w.heap.size ≤ w.heap.size + 1 + 1; omega) _) (by rw [World.size_setCell, World.size_setCell]; exact hb9.size) (by omega) _)
  all_goals exact hq.elim
end Go.Proofs.Ytamigcbodplmcaa

/-! Package poly: division and its users. -/
namespace Go.Proofs.Ytamigcbodplmcaa
open Go Go.RowKit
theorem results_3 {P : Program} {fn : Func} {p q r : Tmp} (h : fn.results = #[.tmp p, .tmp q, .tmp r]) (tmps : Array Value) (w : World) {x y z : Value} (hx : tmps.getD p undef = x) (hy : tmps.getD q undef = y) (hz : tmps.getD r undef = z) :
    (results fn tmps).run P w = .ok (.tuple #[x, y, z]) w := by
  subst hx hy hz
  simp [results, h]
theorem pdiv0_any (a b : Option Addr) (n c m d : Nat) (lb : List (BitVec 32)) (w : World) (hb : Words32 w b m lb) (h0 : Po.len1 lb = 0) :
    Calls Try.prog 78 #[.slice a n c, .slice b m d] w fun e w' =>
      e = .returned (.tuple #[.slice none 0 0, .slice none 0 0, errRange]) ∧ Below w.heap.size w w' := by
  have ht : ((Po.len1 lb : Int) - 1 < 0) := by omega
  go_enter Try.func78, Try.ntmps78
  go_wp2_with (go_at_call 50; refine (pdegree_any _ _ _ _ _ hb).mono ?_; rintro e w1 ⟨rfl, hb1⟩)
  exact bodyPost_ret (results_3 rfl _ _ rfl rfl rfl) rfl ⟨rfl, hb1⟩
theorem pdiv_any (a b : Option Addr) (n c m d : Nat) (la lb : List (BitVec 32)) (w : World) (ha : Words32 w a n la) (hb : Words32 w b m lb) (hbd : m ≤ d) (hs : n ≤ 1099511627776) (hs2 : m ≤ 1099511627776) (h0 : Po.len1 lb ≠ 0) :
    Calls Try.prog 78 #[.slice a n c, .slice b m d] w fun e w' =>
      (∃ v u, e = .returned (.tuple #[v, u, .nilIface]) ∧ Fresh 54 w.heap.size w' v (Po.qr la lb).1 ∧ Fresh 54 w.heap.size w' u (Po.qr la lb).2) ∧ Below w.heap.size w w' := by
  have ht : ¬ ((Po.len1 lb : Int) - 1 < 0) := by omega
  go_enter Try.func78, Try.ntmps78
  go_wp2_with (first
    | (go_at_call 50; refine (pdegree_any _ _ _ _ _ hb).mono ?_; rintro e w1 ⟨rfl, hb1⟩)
    | (go_at_call 72; refine (pdivide_any _ _ _ _ _ _ la lb _ (ha.below hb1) (hb.below hb1) hbd hs hs2 h0).mono ?_; rintro e w2 ⟨⟨v, u, rfl, hv, hu⟩, hb2⟩))
  have hsz := hb1.size
  exact bodyPost_ret (results_3 rfl _ _ rfl rfl rfl) rfl ⟨⟨_, _, rfl, hv.low hsz, hu.low hsz⟩, hb1.trans (hb2.mono hsz)⟩
namespace Po
def sqL (l : List E) : List E := mk (2 * len1 l) (sqF (cf l) (len1 l))
end Po
theorem psq0_any (a b : Option Addr) (n c m d : Nat) (lb : List (BitVec 32)) (w : World) (hb : Words32 w b m lb) (h0 : Po.len1 lb = 0) :
    Calls Try.prog 71 #[.slice a n c, .slice b m d] w fun e w' =>
      e = .returned (.tuple #[.slice none 0 0, errRange]) ∧ Below w.heap.size w w' := by
  have ht : ((Po.len1 lb : Int) - 1 < 0) := by omega
  go_enter Try.func71, Try.ntmps71
  go_wp2_with (go_at_call 50; refine (pdegree_any _ _ _ _ _ hb).mono ?_; rintro e w1 ⟨rfl, hb1⟩)
  go_ret2
  exact ⟨rfl, hb1⟩
theorem psq_any (a b : Option Addr) (n c m d : Nat) (la lb : List (BitVec 32)) (w : World) (ha : Words32 w a n la) (hb : Words32 w b m lb) (hac : n ≤ c) (hbd : m ≤ d) (hs : n ≤ 274877906944) (hs2 : m ≤ 1099511627776) (h0 : Po.len1 lb ≠ 0) :
    Calls Try.prog 71 #[.slice a n c, .slice b m d] w fun e w' =>
      (∃ u, e = .returned (.tuple #[u, .nilIface]) ∧ Fresh 54 w.heap.size w' u (Po.qr (Po.sqL la) lb).2) ∧ Below w.heap.size w w' := by
  have ht : ¬ ((Po.len1 lb : Int) - 1 < 0) := by omega
  have hle := Po.len1_le la
  have hl := ha.1
  have hln : (Po.sqL la).length = 2 * Po.len1 la := Po.mk_length _ _
  go_enter Try.func71, Try.ntmps71
  go_wp2_with (first
    | (go_at_call 50; refine (pdegree_any _ _ _ _ _ hb).mono ?_; rintro e w1 ⟨rfl, hb1⟩)
    | (go_at_call 81; refine (psquare_any _ _ _ la _ (ha.below hb1) hac hs).mono ?_; rintro e w2 ⟨⟨v, rfl, hv⟩, hb2⟩; change Fresh _ _ _ _ (Po.sqL la) at hv; obtain ⟨va, vc, rfl, hvc, hvw⟩ := hv.slice; rw [hln] at hvw)
    | (go_at_call 72; refine (pdivide_any _ _ _ _ _ _ (Po.sqL la) lb _ hvw ((hb.below hb1).below hb2) hbd (by omega) hs2 h0).mono ?_; rintro e w3 ⟨⟨v, u, rfl, hv3, hu⟩, hb3⟩))
  go_ret2
  have hsz := hb1.size
  have hb12 := hb1.trans (hb2.mono hsz)
  exact ⟨⟨_, rfl, hu.low hb12.size⟩, hb12.trans (hb3.mono hb12.size)⟩
theorem monic_any (a : Option Addr) (n c : Nat) (la : List (BitVec 32)) (w : World) (ha : Words32 w a n la) (hac : n ≤ c) (hs : n ≤ 274877906944) :
    Calls Try.prog 73 #[.slice a n c] w fun e w' => (∃ v, e = .returned v ∧ Fresh 54 w.heap.size w' v (Po.monic la)) ∧ Below w.heap.size w w' := by
  by_cases h0 : Po.len1 la = 0
  · have ht : ((Po.len1 la : Int) - 1 < 0) := by omega
    have hm : Po.monic la = [] := by rw [Po.monic, if_pos h0]
    rw [hm]
    go_enter Try.func73, Try.ntmps73
    go_wp2_with (go_at_call 50; refine (pdegree_any _ _ _ _ _ ha).mono ?_; rintro e w1 ⟨rfl, hb1⟩)
    go_ret
    exact ⟨⟨_, rfl, Fresh.nil _ _ _⟩, hb1⟩
  · have hle := Po.len1_le la
    have hl := ha.1
    have ht : ¬ ((Po.len1 la : Int) - 1 < 0) := by omega
    have hm : Po.monic la = Po.mulR la [Gf.inv (Po.cf la (Po.len1 la - 1))] := by rw [Po.monic, if_neg h0]
    obtain ⟨k, hk⟩ : ∃ k, k = Po.len1 la - 1 := ⟨_, rfl⟩
    have hke : (Po.len1 la : Int) - 1 = (k : Int) := by omega
    have hkn : k < n := by omega
    obtain ⟨ad, rfl, hx⟩ := ha.2.2 k hkn
    obtain ⟨z, hz⟩ : ∃ z, z = la.getD k 0 := ⟨_, rfl⟩
    rw [← hz] at hx
    have hxw : ∀ w1, Below w.heap.size w w1 → w1.cell? (ad.add k) = some (.int .u32 (nb32 z)) := fun w1 hb => (hb.cell (isSome_lt (by rw [hx]; rfl))).trans hx
    have hz' : z = Po.cf la (Po.len1 la - 1) := by rw [← hk]; exact hz
    rw [hm, ← hz']
    clear hx hz hz' hm hk
    have hmx : n ≤ 9223372036854775807 := ha.2.1
    go_enter Try.func73, Try.ntmps73
    go_wp2_with (first
      | (go_at_call 50; refine (pdegree_any _ _ _ _ _ ha).mono ?_; rintro e w1 ⟨rfl, hb1⟩; have hcx := hxw w1 hb1)
      | (go_at_call 47; refine (inverse_any _ _).mono ?_; rintro e w2 ⟨rfl, rfl⟩)
      | (go_at_call 83; refine (scale_any _ _ _ la _ _ (ha.below hb1) hac hs).mono ?_; rintro e w2 ⟨⟨v, rfl, hv⟩, hb2⟩))
    go_ret
    have hsz := hb1.size
    exact ⟨⟨_, rfl, hv.low hsz⟩, hb1.trans (hb2.mono hsz)⟩
set_option maxHeartbeats 1000000 in
theorem common_any (a b : Option Addr) (n c m d : Nat) (la lb : List (BitVec 32)) (w : World) (ha : Words32 w a n la) (hb : Words32 w b m lb) (hac : n ≤ c) (hbd : m ≤ d) (hs : n ≤ 274877906944) (hs2 : m ≤ 274877906944) :
    Calls Try.prog 63 #[.slice a n c, .slice b m d] w fun e w' => (∃ v g, e = .returned v ∧ Po.Gcd la lb g ∧ Fresh 54 w.heap.size w' v g) ∧ Below w.heap.size w w' := by
  go_enter Try.func63, Try.ntmps63
  go_wp2
  go_loopg [0, 1] (Po.len1 lb) (fun k x y wr => ∃ (a' b' : Option Addr) (n' c' m' d' : Nat) (la' lb' : List (BitVec 32)), k = Po.len1 lb' ∧ x = .slice a' n' c' ∧ y = .slice b' m' d' ∧ Words32 wr a' n' la' ∧ Words32 wr b' m' lb' ∧ n' ≤ c' ∧ m' ≤ d' ∧ n' ≤ 274877906944 ∧ m' ≤ 274877906944 ∧
      (∀ g, Po.Gcd la' lb' g → Po.Gcd la lb g) ∧ Below w.heap.size w wr)
  case atStart => exact ⟨a, b, n, c, m, d, la, lb, rfl, rfl, rfl, ha, hb, hac, hbd, hs, hs2, fun g h => h, Below.refl _ _⟩
  case round =>
    obtain ⟨a', b', n', c', m', d', la', lb', hgk, rfl, rfl, ha', hb', hac', hbd', hs', hs2', hG, hbw⟩ := hrel
    have HG := Lib.hid (And.intro hgk hG)
    clear hG hgk
    by_cases h0 : Po.len1 lb' = 0
    · have ht : ¬ (0 : Int) ≤ (Po.len1 lb' : Int) - 1 := by omega
      have hm : Po.Gcd la lb (Po.monic la') := HG.out.2 _ (Po.Gcd.base h0)
      go_wp2_with (first
        | (go_at_call 50; refine (pdegree_any _ _ _ _ _ hb').mono ?_; rintro e w1 ⟨rfl, hb1⟩)
        | (go_at_call 73; refine (monic_any _ _ _ la' _ (ha'.below hb1) hac' hs').mono ?_; rintro e w2 ⟨⟨v, rfl, hv⟩, hb2⟩))
      go_ret
      have hb12 := hbw.trans (hb1.mono hbw.size)
      exact ⟨⟨_, _, rfl, hm, hv.low hb12.size⟩, hb12.trans (hb2.mono hb12.size)⟩
    · have ht : (0 : Int) ≤ (Po.len1 lb' : Int) - 1 := by omega
      have hspec := Po.qr_spec la' h0
      have hlen2 : (Po.qr la' lb').2.length ≤ m' := by
        have h1 := hspec.lt
        have h2 := Po.trim_length (Po.qr la' lb').2
        rw [hspec.tr] at h2
        have h3 := Po.len1_le lb'
        have h4 := hb'.1
        omega
      have HS := Lib.hid hspec
      clear hspec
      go_wp2_with (first
        | (go_at_call 50; refine (pdegree_any _ _ _ _ _ hb').mono ?_; rintro e w1 ⟨rfl, hb1⟩)
        | (go_at_call 72; refine (pdivide_any _ _ _ _ _ _ la' lb' _ (ha'.below hb1) (hb'.below hb1) hbd' (by omega) (by omega) h0).mono ?_; rintro e w2 ⟨⟨v, u, rfl, hv, hu⟩, hb2⟩; obtain ⟨ua, uc, rfl, huc, huw⟩ := hu.slice))
      go_roundg (Po.len1 (Po.qr la' lb').2)
      case measure => rw [HG.out.1]; exact HS.out.lt
      case rel =>
        have hb12 := hbw.trans (hb1.mono hbw.size)
        exact ⟨b', ua, m', d', _, uc, lb', _, rfl, rfl, rfl, (hb'.below hb1).below hb2, huw, hbd', huc, hs2', by omega, fun g hg => HG.out.2 g (Po.Gcd.step h0 hg), hb12.trans (hb2.mono hb12.size)⟩
end Go.Proofs.Ytamigcbodplmcaa

/-! append onto a slice of words that the call has made. Nothing of the program. -/
namespace Go.Proofs.Ytamigcbodplmcaa
open Go Go.RowKit
/-- v is the call's own slice, made since block B; l: its elements -/
def OwnW (T : TypeId) (B : Nat) (w : World) (v : Value) (l : List (BitVec 32)) : Prop := w.ownsRow B T 1 v l.length (wlist l)
section
variable {T : TypeId} {B : Nat} {w w' : World} {v : Value} {l : List (BitVec 32)}
theorem OwnW.nil (T : TypeId) (B : Nat) (w : World) : OwnW T B w (.slice none 0 0) [] := World.ownsRow_nil _ _ _ _
theorem OwnW.fresh (h : OwnW T B w v l) : Fresh T B w v l := by
  obtain ⟨hl, ⟨rfl, h0⟩ | ⟨g, cap, cur, rfl, hg, hh, hn, hm, hc, ht⟩⟩ := h
  · obtain rfl := List.length_eq_zero_iff.1 h0
    exact Fresh.nil _ _ _
  · refine ⟨_, cap, rfl, ⟨hn, fun e => by cases e⟩, by omega, fun _ => ⟨g, cur, rfl, hg, hh, fun i hi => ?_⟩⟩
    rw [← wlist_at l i hi, ← ht, List.getElem?_take, if_pos (by omega), Array.getElem?_toList]
theorem OwnW.snoc {x : BitVec 32} (h : w'.ownsRow B T 1 v (l.length + 1) (wlist l ++ [.int .u32 (nb32 x)])) : OwnW T B w' v (l ++ [x]) := by
  have e1 : wlist (l ++ [x]) = wlist l ++ [.int .u32 (nb32 x)] := by simp [wlist]
  unfold OwnW
  rw [e1]
  simpa using h
theorem OwnW.all {m : List (BitVec 32)} (h : w'.ownsRow B T 1 v (l.length + m.length) (wlist l ++ wlist m)) : OwnW T B w' v (l ++ m) := by
  have e1 : wlist (l ++ m) = wlist l ++ wlist m := by simp [wlist]
  unfold OwnW
  rw [e1]
  simpa using h
theorem below_own_row {w0 : World} {row : Option Nat} (hb : Below w0.heap.size w0 w) (hg : w.grownBy w' row) (hr : ∀ k, row = some k → w0.heap.size ≤ k) : Below w0.heap.size w0 w' := hb.grown hg hb.size hr
theorem OwnW.lt (h : OwnW T B w v l) : ∀ k, v.ownBlock = some k → B ≤ k := fun k hk => (World.ownsRow.lt h k hk).1
/-- the empty slice as a literal -/
theorem OwnW.empty {w1 : World} {g : Nat} (hB : B ≤ g) (hh : Has w1 g T #[]) : OwnW T B w1 (.slice (some ⟨g, 0, none⟩) 0 0) [] :=
  ⟨rfl, .inr ⟨g, 0, #[], rfl, hB, hh, Nat.le_refl _, by unfold maxLen; omega, rfl, rfl⟩⟩
end
/-- append(own, a...), a whatever -/
theorem wpList_append_words {P : Program} {w : World} {ops : Array Oper} {rest : List Oper} {o : Oper} {a : Act} {Q : Exit → Act → World → Prop} (hgd : o.guard = none) (s x : Operand) (t : TypeId)
    (ho : o.op = .call { callee := .builtin .append, args := #[s, x], argTypes := #[t, t] })
    (T : TypeId) (ht : P.underlying t = some (.slice T)) (hinfo : (P.info? T).map (fun i => (i.zero, i.size, i.bytes)) = some (some (.int .u32 0), 1, 4))
    (B : Nat) (v : Value) (l : List (BitVec 32)) (hs : a.eval s = v) (hown : OwnW T B w v l) (ad : Option Addr) (m c : Nat) (l2 : List (BitVec 32)) (hx : a.eval x = .slice ad m c) (hw : Words32 w ad m l2) (hc : ad = none → c = 0)
    (h63 : l.length + m ≤ 1099511627776) (hbase : B ≤ w.heap.size)
    (h : ∀ v' w', OwnW T B w' v' (l ++ l2) → w.grownBy w' v.ownBlock → wpList P ops Q rest (a.put o.dst v') w') : wpList P ops Q (o :: rest) a w := by
  obtain ⟨i0, hi, hz0, hz1, hz2⟩ := info_parts hinfo
  obtain ⟨hl2, hm, hcell⟩ := hw
  rcases ad with _ | ad
  · have h0 : m = 0 := by
      rcases Nat.eq_zero_or_pos m with h0 | h0
      · exact h0
      · obtain ⟨_, e, _⟩ := hcell 0 h0
        cases e
    subst h0
    obtain rfl := List.length_eq_zero_iff.1 hl2
    obtain rfl := hc rfl
    exact wpList_append_own_none hgd s x t ho B T i0 1 ht hi v _ _ hs hown hx (h v w (by simpa using hown) (World.grownBy.refl w _))
  · refine wpList_append_own w hgd s x t ho B T i0 (.int .u32 0) 1 4 ht hi hz0 hz1 hz2 rfl (by decide) v _ _ hs hown ad m c (wlist l2) hx (by rw [wlist_length, hl2, Nat.mul_one]) (fun j u hj => ?_) (wlist_one _) (by unfold maxLen; omega) (by omega) hbase ?_
    · have hj2 : j < l2.length := by
        have := (List.getElem?_eq_some_iff.1 hj).1
        rwa [wlist_length] at this
      obtain ⟨ad', e, hx2⟩ := hcell j (by omega)
      injection e with e
      subst e
      rw [hx2, ← hj, wlist_at l2 j hj2]
    · intro v' w' h1 h2 _
      exact h v' w' (OwnW.all (by rw [hl2]; exact h1)) h2
/-- append(own, x) -/
theorem wpList_append_word {P : Program} {w : World} {ops : Array Oper} {rest : List Oper} {o : Oper} {a : Act} {Q : Exit → Act → World → Prop} (hgd : o.guard = none) (s x : Operand) (t : TypeId)
    (ho : o.op = .call { callee := .builtin .append, args := #[s, x], argTypes := #[t, t] })
    (T : TypeId) (ht : P.underlying t = some (.slice T)) (hinfo : (P.info? T).map (fun i => (i.zero, i.size, i.bytes)) = some (some (.int .u32 0), 1, 4))
    (B : Nat) (v : Value) (l : List (BitVec 32)) (hs : a.eval s = v) (hown : OwnW T B w v l) (z : BitVec 32) (hx : a.eval x = .slice (some ⟨w.heap.size, 0, none⟩) 1 1)
    (h63 : l.length + 1 ≤ 1099511627776) (hbase : B ≤ w.heap.size)
    (h : ∀ v' w', OwnW T B w' v' (l ++ [z]) → (w.alloc (.cells #[.int .u32 (nb32 z)] T)).grownBy w' v.ownBlock → wpList P ops Q rest (a.put o.dst v') w') : wpList P ops Q (o :: rest) a (w.alloc (.cells #[.int .u32 (nb32 z)] T)) := by
  obtain ⟨i0, hi, hz0, hz1, hz2⟩ := info_parts hinfo
  refine wpList_append_own (w.alloc (.cells #[.int .u32 (nb32 z)] T)) hgd s x t ho B T i0 (.int .u32 0) 1 4 ht hi hz0 hz1 hz2 rfl (by decide) v _ _ hs (World.ownsRow.alloc hown _) ⟨w.heap.size, 0, none⟩ 1 1 [.int .u32 (nb32 z)] hx rfl (cell_one_new _ _ _) (by simp [Value.oneCell']) (by unfold maxLen; omega) (by omega) (by rw [World.size_alloc]; omega) ?_
  intro v' w' h1 h2 _
  exact h v' w' (OwnW.snoc h1) h2
theorem wpList_wanted {P : Program} {ops : Array Oper} {Q : Exit → Act → World → Prop} {a : Act} {w : World} {rest : List Oper} {o : Oper} (hw : Region.wanted o (yielded ops a.tmps) = true)
    (h : ∀ K : Act → World → Prop, (∀ a w, wpList P ops Q rest a w → K a w) → o.wp P a w K Q) : wpList P ops Q (o :: rest) a w :=
  wpList_step fun K hK => by rw [if_pos hw]; exact h K hK
/-- append(own, a...), a whatever, behind a guard that is met -/
theorem wpList_append_words_if {P : Program} {w : World} {ops : Array Oper} {rest : List Oper} {o : Oper} {a : Act} {Q : Exit → Act → World → Prop} (hgd : Region.wanted o (yielded ops a.tmps) = true) (s x : Operand) (t : TypeId)
    (ho : o.op = .call { callee := .builtin .append, args := #[s, x], argTypes := #[t, t] })
    (T : TypeId) (ht : P.underlying t = some (.slice T)) (hinfo : (P.info? T).map (fun i => (i.zero, i.size, i.bytes)) = some (some (.int .u32 0), 1, 4))
    (B : Nat) (v : Value) (l : List (BitVec 32)) (hs : a.eval s = v) (hown : OwnW T B w v l) (ad : Option Addr) (m c : Nat) (l2 : List (BitVec 32)) (hx : a.eval x = .slice ad m c) (hw : Words32 w ad m l2) (hc : ad = none → c = 0)
    (h63 : l.length + m ≤ 1099511627776) (hbase : B ≤ w.heap.size)
    (h : ∀ v' w', OwnW T B w' v' (l ++ l2) → w.grownBy w' v.ownBlock → wpList P ops Q rest (a.put o.dst v') w') : wpList P ops Q (o :: rest) a w := by
  obtain ⟨i0, hi, hz0, hz1, hz2⟩ := info_parts hinfo
  obtain ⟨hl2, hm, hcell⟩ := hw
  rcases ad with _ | ad
  · have h0 : m = 0 := by
      rcases Nat.eq_zero_or_pos m with h0 | h0
      · exact h0
      · obtain ⟨_, e, _⟩ := hcell 0 h0
        cases e
    subst h0
    obtain rfl := List.length_eq_zero_iff.1 hl2
    obtain rfl := hc rfl
    refine wpList_wanted hgd fun K hK => ?_
    have hrun := run_append_owned_none (P := P) (w := w) B t o.type T i0 1 ht hi v _ _ hown
    unfold Oper.wp
    simp [execOp, ho, resolve, invoke, builtin, hs, hx, hrun, Result.andThen]
    exact hK _ _ (h v w (by simpa using hown) (World.grownBy.refl w _))
  · refine wpList_wanted hgd fun K hK => wp_append_own w s x t ho B T i0 (.int .u32 0) 1 4 ht hi hz0 hz1 hz2 rfl (by decide) v _ _ hs hown ad m c (wlist l2) hx (by rw [wlist_length, hl2, Nat.mul_one]) (fun j u hj => ?_) (wlist_one _) (by unfold maxLen; omega) (by omega) hbase ?_
    · have hj2 : j < l2.length := by
        have := (List.getElem?_eq_some_iff.1 hj).1
        rwa [wlist_length] at this
      obtain ⟨ad', e, hx2⟩ := hcell j (by omega)
      injection e with e
      subst e
      rw [hx2, ← hj, wlist_at l2 j hj2]
    · intro v' w' h1 h2 _
      exact hK _ _ (h v' w' (OwnW.all (by rw [hl2]; exact h1)) h2)
end Go.Proofs.Ytamigcbodplmcaa

/-! The reference's polynomials. -/
namespace Go.Proofs.Ytamigcbodplmcaa
open Go Go.RowKit
namespace Po
/-- l is trimmed, its coefficients are F -/
def Norm (l : List E) (F : Nat → E) : Prop := trim l = l ∧ cf l = F
theorem Norm.trim (l : List E) : Norm (trim l) (cf l) := ⟨trim_trim l, cf_trim l⟩
theorem Norm.unique {l m : List E} {F : Nat → E} (h : Norm l F) (h' : Norm m F) : l = m := by
  rw [← h.1, ← h'.1]
  exact trim_congr (h.2.trans h'.2.symm)
theorem Norm.len {l : List E} {F : Nat → E} (h : Norm l F) {n : Nat} (hn : ∀ i, n ≤ i → F i = 0) : l.length ≤ n := by
  have h1 := trim_length l
  rw [h.1] at h1
  rw [h1]
  exact len1_le_of fun i hi => by rw [h.2]; exact hn i hi
theorem Norm.len1 {l : List E} {F : Nat → E} (h : Norm l F) : Po.len1 l = l.length := by
  have h1 := trim_length l
  rw [h.1] at h1
  exact h1.symm
theorem mk_succ (k : Nat) (F : Nat → E) : mk (k + 1) F = mk k F ++ [F k] := by simp [mk, List.range_succ]
theorem cf_mk_all {n : Nat} {F : Nat → E} (h : ∀ i, n ≤ i → F i = 0) : cf (mk n F) = F := by
  funext i
  rw [cf_mk]
  split
  · rfl
  · exact (h i (by omega)).symm
theorem take_trim {l : List E} {k : Nat} (h0 : ∀ i, k ≤ i → cf l i = 0) (h1 : k ≠ 0 → cf l (k - 1) ≠ 0) : l.take k = trim l := by
  rw [trim, len1_eq h0 h1]
end Po
end Go.Proofs.Ytamigcbodplmcaa

/-! The reference's sums and products. -/
namespace Go.Proofs.Ytamigcbodplmcaa
open Go Go.RowKit
theorem mk_len1 (k : Nat) (F : Nat → BitVec 32) : (Po.mk k F).length = k := Po.mk_length k F
theorem OwnW.step {T : TypeId} {B : Nat} {w : World} {v : Value} {k : Nat} {F : Nat → BitVec 32} {x : BitVec 32} (h : OwnW T B w v (Po.mk k F ++ [x])) (hx : x = F k) : OwnW T B w v (Po.mk (k + 1) F) := by
  rw [Po.mk_succ, ← hx]; exact h
theorem OwnW.shape {T : TypeId} {B : Nat} {w : World} {v : Value} {k : Nat} {F : Nat → BitVec 32} (h : OwnW T B w v (Po.mk k F)) : ∃ a c, v = .slice a k c ∧ k ≤ c ∧ (a = none → c = 0) ∧ Words32 w a k (Po.mk k F) := by
  obtain ⟨a, c, rfl, h1, h2⟩ := h.fresh.slice
  have h3 := h.fresh.cap0
  rw [Po.mk_length] at h1 h2 ⊢
  exact ⟨a, c, rfl, h1, h3, h2⟩
end Go.Proofs.Ytamigcbodplmcaa

/-! The reference's products. -/
namespace Go.Proofs.Ytamigcbodplmcaa
open Go Go.RowKit
end Go.Proofs.Ytamigcbodplmcaa

/-! The reference's values, derivatives, division. -/
namespace Go.Proofs.Ytamigcbodplmcaa
open Go Go.RowKit
end Go.Proofs.Ytamigcbodplmcaa

/-! The reference's division and common divisor. -/
namespace Go.Proofs.Ytamigcbodplmcaa
open Go Go.RowKit
namespace Po
theorem mulL_single (c : E) (f : Nat → E) : mulL [c] f = sclF c f := by rw [mulL, mulL, X_zero, addF_zero]
theorem monic_norm {a : List E} (h : len1 a ≠ 0) : Norm (monic a) (sclF (Gf.inv (cf a (len1 a - 1))) (cf a)) := by
  have e : monic a = mulR a [Gf.inv (cf a (len1 a - 1))] := by rw [monic, if_neg h]
  rw [e]
  exact ⟨trim_self (mulR_len _ _), by rw [cf_mulR, mulL_comm, mulL_single]⟩
theorem cf_one : cf [(1 : E)] = oneF := by
  funext i
  cases i with
  | zero => rfl
  | succ i => rw [cf_cons, cf_nil]; rfl
/-- the plain division's state -/
structure RInv (la lb lr lq : List E) : Prop where
  eq : cf la = addF (mulL lb (cf lq)) (cf lr)
  tr : trim lr = lr
theorem RInv.step {la lb lr lq lr' lq' : List E} (h : RInv la lb lr lq) (hb : len1 lb ≠ 0) (hl : len1 lb ≤ lr.length) (c : E) (hc : c = Gf.mul (cf lr (lr.length - 1)) (Gf.inv (cf lb (len1 lb - 1))))
    (hr : Norm lr' (addF (cf lr) (Xn (lr.length - len1 lb) (sclF c (cf (trim lb)))))) (hq : cf lq' = addF (cf lq) (Xn (lr.length - len1 lb) (sclF c (cf [1])))) : RInv la lb lr' lq' ∧ lr'.length < lr.length := by
  refine ⟨⟨?_, hr.1⟩, ?_⟩
  · rw [hq, hr.2, cf_trim, cf_one, mulL_add, mulL_mono, h.eq, addF_swap, addF_self, addF_zero]
  · have h1 : lr'.length ≤ lr.length - 1 := hr.len fun i hi => by
      show cf lr i ^^^ (if lr.length - len1 lb ≤ i then Gf.mul c (cf (trim lb) (i - (lr.length - len1 lb))) else 0) = 0
      rw [if_pos (by omega), cf_trim]
      by_cases hi2 : i = lr.length - 1
      · subst hi2
        rw [show lr.length - 1 - (lr.length - len1 lb) = len1 lb - 1 from by omega, hc, Gf.mul_assoc, Gf.mul_comm (Gf.inv _), Gf.mul_inv (len1_ne hb), Gf.mul_one]
        exact BitVec.xor_self
      · rw [cf_ge (l := lr) (by omega), cf_len1 lb (by omega), Gf.mul_zero]; rfl
    omega
theorem RInv.done {la lb lr lq : List E} (h : RInv la lb lr lq) (hl : lr.length < len1 lb) : Po.qr la lb = (trim lq, lr) := by
  refine IsDiv.qr ⟨trim_trim _, h.tr, by rw [cf_trim]; exact h.eq, ?_⟩
  have := trim_length lr
  rw [h.tr] at this
  omega
end Po
end Go.Proofs.Ytamigcbodplmcaa

/-! What the polynomials' laws have in common. -/
namespace Go.Proofs.Ytamigcbodplmcaa
open Go Go.RowKit
end Go.Proofs.Ytamigcbodplmcaa

/-! What the polynomials' laws compare. -/
namespace Go.Proofs.Ytamigcbodplmcaa
open Go Go.RowKit
/-- two slices of words, as a slice -/
def two {α : Type} (x y : α) (i : Nat) : α := if i = 0 then x else y
theorem rows_two (w : World) (a b : Option Addr) (n c m d : Nat) (la lb : List (BitVec 32)) (ha : Words32 w a n la) (hb : Words32 w b m lb) (hac : n ≤ c) (hbd : m ≤ d) (t : TypeId) :
    WRows (w.alloc (.cells #[.slice a n c, .slice b m d] t)) (some ⟨w.heap.size, 0, none⟩) 2 (two a b) (two n m) (two c d) (two la lb) := by
  refine ⟨by omega, fun i hi => ?_⟩
  rcases i with _ | _ | i
  · exact ⟨⟨_, rfl, by rw [Addr.add_mid, (Has.fresh w t _).cell]; rfl⟩, ha.past _, hac⟩
  · exact ⟨⟨_, rfl, by rw [Addr.add_mid, (Has.fresh w t _).cell]; rfl⟩, hb.past _, hbd⟩
  · omega
theorem rows_one (w : World) (a : Option Addr) (n c : Nat) (la : List (BitVec 32)) (ha : Words32 w a n la) (hac : n ≤ c) (t : TypeId) :
    WRows (w.alloc (.cells #[.slice a n c] t)) (some ⟨w.heap.size, 0, none⟩) 1 (fun _ => a) (fun _ => n) (fun _ => c) (fun _ => la) := by
  refine ⟨by omega, fun i hi => ?_⟩
  obtain rfl : i = 0 := by omega
  exact ⟨⟨_, rfl, by rw [Addr.add_mid, (Has.fresh w t _).cell]; rfl⟩, ha.past _, hac⟩
theorem long_two (n m : Nat) : decide (24 < n ∨ 24 < m) = true ↔ ∃ i, i < 2 ∧ 24 < two n m i := by
  rw [decide_eq_true_eq]
  constructor
  · rintro (h | h)
    · exact ⟨0, by omega, h⟩
    · exact ⟨1, by omega, h⟩
  · rintro ⟨i, hi, h⟩
    rcases i with _ | _ | i
    · exact .inl h
    · exact .inr h
    · omega
theorem long_one (n : Nat) : decide (24 < n) = true ↔ ∃ i, i < 1 ∧ 24 < (fun _ => n) i := by
  rw [decide_eq_true_eq]
  exact ⟨fun h => ⟨0, by omega, h⟩, fun ⟨_, _, h⟩ => h⟩
theorem two_le {n m B : Nat} (hn : n ≤ B) (hm : m ≤ B) : ∀ i, i < 2 → two n m i ≤ B := fun i _ => by
  unfold two
  split <;> assumption
theorem long_yes {n m : Nat} (h : 24 < n ∨ 24 < m) : true = true ↔ ∃ i, i < 2 ∧ 24 < two n m i := ⟨fun _ => (long_two n m).1 (decide_eq_true h), fun _ => rfl⟩
theorem long_no {n m : Nat} (hn : n ≤ 24) (hm : m ≤ 24) : false = true ↔ ∃ i, i < 2 ∧ 24 < two n m i := ⟨fun h => (Bool.false_ne_true h).elim, fun h => by
  have := of_decide_eq_true ((long_two n m).2 h)
  omega⟩
theorem long_yes1 {n : Nat} (h : 24 < n) : true = true ↔ ∃ i, i < 1 ∧ 24 < (fun _ => n) i := ⟨fun _ => (long_one n).1 (decide_eq_true h), fun _ => rfl⟩
theorem long_no1 {n : Nat} (hn : n ≤ 24) : false = true ↔ ∃ i, i < 1 ∧ 24 < (fun _ => n) i := ⟨fun h => (Bool.false_ne_true h).elim, fun h => by
  have := of_decide_eq_true ((long_one n).2 h)
  omega⟩
namespace Po
def addL (a b : List E) : List E := trim (mk (longF (two a b) 2) (sumF (two a b) 2))
theorem addL_norm (a b : List E) : Norm (addL a b) (addF (cf a) (cf b)) := by
  have hs : sumF (two a b) 2 = addF (cf a) (cf b) := by
    show addF (addF (fun _ => 0) (cf a)) (cf b) = _
    rw [zero_addF]
  have h := Norm.trim (mk (longF (two a b) 2) (sumF (two a b) 2))
  refine ⟨h.1, h.2.trans ((cf_mk_all (fun i hi => by
    rw [hs]
    show cf a i ^^^ cf b i = 0
    have h0 := len1_longF (two a b) 2 0 (by omega)
    have h1 := len1_longF (two a b) 2 1 (by omega)
    have e0 : two a b 0 = a := rfl
    have e1 : two a b 1 = b := rfl
    rw [e0] at h0
    rw [e1] at h1
    rw [cf_len1 a (by omega), cf_len1 b (by omega)]; rfl)).trans hs)⟩
theorem mulR_norm (a b : List E) : Norm (mulR a b) (mulL a (cf b)) := ⟨trim_self (mulR_len a b), cf_mulR a b⟩
theorem scale_norm (a : List E) (x : E) : Norm (mulR a [x]) (sclF x (cf a)) := ⟨trim_self (mulR_len _ _), by rw [cf_mulR, mulL_comm, mulL_single]⟩
def derL (a : List E) : List E := trim (mk a.length (dvK (cf a) a.length))
theorem derL_norm (a : List E) : Norm (derL a) (dvF (cf a)) := by
  have hd : dvK (cf a) a.length = dvF (cf a) := by
    funext i
    unfold dvK dvF
    by_cases h : i % 2 = 0
    · rw [if_pos h]
      by_cases h2 : i + 1 < a.length
      · rw [if_pos ⟨h, h2⟩]
      · rw [if_neg (by omega), cf_ge (by omega)]
    · rw [if_neg (by omega), if_neg h]
  have h := Norm.trim (mk a.length (dvK (cf a) a.length))
  exact ⟨h.1, h.2.trans ((cf_mk_all (fun i hi => by rw [dvK, if_neg (by omega)])).trans hd)⟩
theorem sqL_cf (a : List E) : cf (sqL a) = mulL a (cf a) := by
  have aux : ∀ (p : List E) (i : Nat), mulL p (cf p) i = if i % 2 = 0 then Gf.square (cf p (i / 2)) else 0 := by
    intro p
    induction p with
    | nil =>
      intro i
      rw [cf_nil]
      show (0 : E) = if i % 2 = 0 then Gf.square 0 else 0
      rw [show Gf.square (0 : E) = 0 from Gf.lin_square.zero]
      split <;> rfl
    | cons a p ih =>
      intro i
      have hc : cf (a :: p) = addF (sclF a oneF) (X (cf p)) := by
        funext j
        cases j with
        | zero => show cf (a :: p) 0 = Gf.mul a 1 ^^^ 0; rw [cf_zero, Gf.mul_one, xz]
        | succ j => show cf (a :: p) (j + 1) = Gf.mul a 0 ^^^ cf p j; rw [cf_cons, Gf.mul_zero, zx]
      have e : mulL (a :: p) (cf (a :: p)) = addF (sclF (Gf.mul a a) oneF) (X (X (mulL p (cf p)))) := by
        rw [mulL, hc, mulL_add, mulL_scl, mulL_oneF, mulL_X, sclF_add, X_add, X_scl]
        have e1 : sclF a (sclF a oneF) = sclF (Gf.mul a a) oneF := by funext j; exact (Gf.mul_assoc _ _ _).symm
        rw [e1, addF_assoc, ← addF_assoc (sclF a (X (cf p))), addF_self, zero_addF]
      rw [e]
      rcases i with _ | _ | i
      · show Gf.mul (Gf.mul a a) 1 ^^^ 0 = Gf.square a
        rw [Gf.mul_one, xz, Gf.square_eq]
      · show Gf.mul (Gf.mul a a) 0 ^^^ 0 = 0
        rw [Gf.mul_zero]; rfl
      · show Gf.mul (Gf.mul a a) 0 ^^^ mulL p (cf p) i = _
        rw [Gf.mul_zero, zx, ih i, show (i + 1 + 1) % 2 = i % 2 from by omega, show (i + 1 + 1) / 2 = i / 2 + 1 from by omega, cf_cons]
  funext i
  rw [aux a i, sqL, cf_mk]
  unfold sqF
  by_cases h : i % 2 = 0
  · rw [if_pos h]
    by_cases h2 : i / 2 < len1 a
    · rw [if_pos (by omega), if_pos ⟨h, h2⟩]
    · rw [if_neg (by omega), cf_len1 a (by omega), show Gf.square (0 : E) = 0 from Gf.lin_square.zero]
  · rw [if_neg h]
    split
    · rw [if_neg (fun hh => h hh.1)]
    · rfl
theorem qr_congr {a a' b : List E} (h : cf a = cf a') (hb : len1 b ≠ 0) : qr a b = qr a' b := by
  have h1 := qr_spec a hb
  have h2 : IsDiv a' b (qr a b).1 (qr a b).2 := ⟨h1.tq, h1.tr, by rw [← h]; exact h1.eq, h1.lt⟩
  exact h2.qr.symm
end Po
end Go.Proofs.Ytamigcbodplmcaa

/-! Divisors of polynomials; polynomials of roots. Nothing of the program. -/
namespace Go.Proofs.Ytamigcbodplmcaa.Po
open Go.Proofs.Ytamigcbodplmcaa
theorem IsDiv.ex_len {a b : List E} (hb : len1 b ≠ 0) : ∀ (k : Nat) (R Q : Nat → E), k ≤ len1 a → DivInv a b k R Q → ∃ q r, IsDiv a b q r ∧ q.length ≤ len1 a
  | k, R, Q, hk, h => by
    by_cases hlt : k < len1 b
    · exact ⟨_, _, h.done hlt hk, by rw [mk_length]; omega⟩
    · cases k with
      | zero => omega
      | succ k => exact IsDiv.ex_len hb k _ _ (by omega) (h.step hb (by omega) (by omega))
theorem qr_len (a : List E) {b : List E} (hb : len1 b ≠ 0) : (qr a b).1.length ≤ len1 a ∧ (qr a b).2.length < len1 b := by
  obtain ⟨q, r, h, hl⟩ := IsDiv.ex_len (a := a) hb (len1 a) _ _ (Nat.le_refl _) (DivInv.start a b)
  rw [h.qr]
  have h1 := trim_length r
  rw [h.tr] at h1
  have := h.lt
  exact ⟨hl, by show r.length < len1 b; omega⟩
theorem qr_back (a : List E) {b : List E} (hb : len1 b ≠ 0) : addL (mulR (qr a b).1 b) (qr a b).2 = trim a := by
  have h := qr_spec a hb
  have h1 := addL_norm (mulR (qr a b).1 b) (qr a b).2
  rw [cf_mulR, mulL_comm, ← h.eq] at h1
  exact h1.unique (Norm.trim a)

/-- c divides a -/
def Dv (c a : List E) : Prop := ∃ u, cf a = mulL c (cf u)
theorem mk_of {F : Nat → E} {n : Nat} (h : ∀ i, n ≤ i → F i = 0) : ∃ l, cf l = F := ⟨mk n F, cf_mk_all h⟩
theorem lmul (p q : List E) : ∃ l, cf l = mulL p (cf q) := ⟨mulR p q, cf_mulR p q⟩
theorem lscl (c : E) (q : List E) : ∃ l, cf l = sclF c (cf q) := by
  obtain ⟨l, h⟩ := lmul [c] q
  exact ⟨l, by rw [h, mulL_single]⟩
theorem Dv.add {c a b s : List E} (ha : Dv c a) (hb : Dv c b) (hs : cf s = addF (cf a) (cf b)) : Dv c s := by
  obtain ⟨u, hu⟩ := ha
  obtain ⟨v, hv⟩ := hb
  obtain ⟨t, ht⟩ := sumL u v
  exact ⟨t, by rw [hs, ht, hu, hv, mulL_add]⟩
theorem Dv.mul {c a s : List E} (ha : Dv c a) (q : List E) (hs : cf s = mulL q (cf a)) : Dv c s := by
  obtain ⟨u, hu⟩ := ha
  obtain ⟨t, ht⟩ := lmul q u
  exact ⟨t, by rw [hs, ht, hu, mulL_swap]⟩
theorem Dv.scl {c a s : List E} (ha : Dv c a) (x : E) (hs : cf s = sclF x (cf a)) : Dv c s := ha.mul [x] (by rw [hs, mulL_single])
theorem Dv.congr {c a b : List E} (ha : Dv c a) (h : cf a = cf b) : Dv c b := by
  obtain ⟨u, hu⟩ := ha
  exact ⟨u, by rw [← h, hu]⟩
theorem Dv.zero {c a : List E} (h : len1 a = 0) : Dv c a := ⟨[], by rw [(len1_zero_iff a).1 h, cf_nil, mulL_zero]⟩
theorem Dv.refl (c : List E) : Dv c c := ⟨[1], by rw [cf_one, mulL_oneF]⟩
/-- what divides leaves no rest -/
theorem Dv.rest {c a : List E} (h : Dv c a) (hc : len1 c ≠ 0) : (qr a c).2 = [] := by
  obtain ⟨u, hu⟩ := h
  have h1 : IsDiv a c (trim u) [] := ⟨trim_trim u, rfl, by rw [cf_trim, cf_nil, addF_zero]; exact hu, by
    have : len1 ([] : List E) = 0 := rfl
    omega⟩
  rw [h1.qr]
theorem monic_len {a : List E} (h : len1 a ≠ 0) : len1 (monic a) = len1 a ∧ cf (monic a) (len1 a - 1) = 1 := by
  have hm := (monic_norm h).2
  have h1 : cf (monic a) (len1 a - 1) = 1 := by
    rw [hm]
    show Gf.mul (Gf.inv (cf a (len1 a - 1))) (cf a (len1 a - 1)) = 1
    rw [Gf.mul_comm, Gf.mul_inv (len1_ne h)]
  refine ⟨len1_eq (fun i hi => ?_) (fun _ => ?_), h1⟩
  · rw [hm]
    show Gf.mul _ (cf a i) = 0
    rw [cf_len1 a hi, Gf.mul_zero]
  · rw [h1]
    decide
theorem Gcd.main {a b g : List E} (h : Gcd a b g) : ((len1 a = 0 ∧ len1 b = 0) → g = []) ∧ (¬ (len1 a = 0 ∧ len1 b = 0) → len1 g ≠ 0 ∧ cf g (len1 g - 1) = 1 ∧ len1 g = g.length ∧ Dv g a ∧ Dv g b ∧ ∀ c, Dv c a → Dv c b → Dv c g) := by
  induction h with
  | @base a b hb =>
    constructor
    · rintro ⟨ha, _⟩
      rw [monic, if_pos ha]
    · intro hn
      have ha : len1 a ≠ 0 := fun e => hn ⟨e, hb⟩
      obtain ⟨h1, h2⟩ := monic_len ha
      have hm := (monic_norm ha).2
      refine ⟨by omega, by rw [h1]; exact h2, ?_, ⟨[cf a (len1 a - 1)], ?_⟩, Dv.zero hb, fun c hc _ => hc.scl _ hm⟩
      · have := (monic_norm ha).len1
        exact this
      · rw [mulL_comm, mulL_single, hm]
        funext i
        show cf a i = Gf.mul (cf a (len1 a - 1)) (Gf.mul (Gf.inv (cf a (len1 a - 1))) (cf a i))
        rw [← Gf.mul_assoc, Gf.mul_inv (len1_ne ha), Gf.one_mul]
  | @step a b g hb hg ih =>
    refine ⟨fun h => absurd h.2 hb, fun _ => ?_⟩
    obtain ⟨h1, h2, h3, h4, h5, h6⟩ := ih.2 (fun h => hb h.1)
    have hs := qr_spec a hb
    refine ⟨h1, h2, h3, ?_, h4, fun c hca hcb => h6 c hcb ?_⟩
    · obtain ⟨t, ht⟩ := lmul (qr a b).1 b
      exact Dv.add (h4.mul (qr a b).1 ht) h5 (by rw [ht, mulL_comm]; exact hs.eq)
    · obtain ⟨t, ht⟩ := lmul (qr a b).1 b
      refine Dv.add hca (hcb.mul (qr a b).1 ht) ?_
      rw [ht, mulL_comm, hs.eq, addF_comm (mulL b _), addF_assoc, addF_self, addF_zero]

/-! ### the polynomial of roots -/
def cnt (l : List E) (y : E) : Nat := (l.filter (· == y)).length
theorem cnt_snoc (l : List E) (r y : E) : cnt (l ++ [r]) y = cnt l y + (if r = y then 1 else 0) := by
  unfold cnt
  rw [List.filter_append, List.length_append]
  congr 1
  by_cases h : r = y
  · subst h; simp
  · simp [h]
theorem ev_lin (r y : E) : ev [r, 1] y = r ^^^ y := by
  show r ^^^ Gf.mul y ((1 : E) ^^^ Gf.mul y 0) = r ^^^ y
  rw [Gf.mul_zero, xz, Gf.mul_one]
theorem fromL_snoc (l : List E) (r : E) : fromL (l ++ [r]) = mulR (fromL l) [r, 1] := by
  rw [fromL, List.foldl_append]
  rfl
theorem mulL_lin (r : E) (f : Nat → E) : mulL [r, 1] f = addF (sclF r f) (X f) := by
  rw [mulL, mulL_single, sclF_one]
theorem dvF_lin (r : E) (f : Nat → E) : dvF (addF (sclF r f) (X f)) = addF (addF (sclF r (dvF f)) (X (dvF f))) f := by
  funext i
  show (if i % 2 = 0 then Gf.mul r (f (i + 1)) ^^^ f i else 0) = (Gf.mul r (dvF f i) ^^^ X (dvF f) i) ^^^ f i
  cases i with
  | zero =>
    show Gf.mul r (f 1) ^^^ f 0 = (Gf.mul r (f 1) ^^^ 0) ^^^ f 0
    rw [xz]
  | succ i =>
    show (if (i + 1) % 2 = 0 then Gf.mul r (f (i + 1 + 1)) ^^^ f (i + 1) else 0) = (Gf.mul r (if (i + 1) % 2 = 0 then f (i + 1 + 1) else 0) ^^^ (if i % 2 = 0 then f (i + 1) else 0)) ^^^ f (i + 1)
    by_cases h : i % 2 = 0
    · rw [if_neg (by omega), if_neg (by omega), if_pos h, Gf.mul_zero, zx]
      exact BitVec.xor_self.symm
    · rw [if_pos (by omega), if_pos (by omega), if_neg h, xz]
theorem ev_der (l : List E) (r y : E) : ev (derL (fromL (l ++ [r]))) y = Gf.mul (r ^^^ y) (ev (derL (fromL l)) y) ^^^ ev (fromL l) y := by
  obtain ⟨t, ht⟩ := lmul [r, 1] (derL (fromL l))
  have h1 : cf (derL (fromL (l ++ [r]))) = addF (cf t) (cf (fromL l)) := by
    rw [(derL_norm _).2, fromL_snoc, cf_mulR, mulL_comm, mulL_lin, dvF_lin, ht, mulL_lin, (derL_norm _).2]
  rw [ev_add h1, ev_mul ht, ev_lin]
theorem ev_from (l : List E) (r y : E) : ev (fromL (l ++ [r])) y = Gf.mul (r ^^^ y) (ev (fromL l) y) := by
  rw [fromL_snoc, ev_mul (p := [r, 1]) (q := fromL l) (by rw [cf_mulR, mulL_comm]), ev_lin]
theorem mul_eq_zero {a b : E} : Gf.mul a b = 0 ↔ a = 0 ∨ b = 0 := by
  constructor
  · exact Gf.no_divisors
  · rintro (h | h)
    · rw [h, Gf.zero_mul]
    · rw [h, Gf.mul_zero]
theorem roots_aux (y : E) : ∀ (k : Nat) (l : List E), l.length = k → (ev (fromL l) y = 0 ↔ 0 < cnt l y) ∧ (0 < cnt l y → (ev (derL (fromL l)) y = 0 ↔ 1 < cnt l y))
  | 0, l, hl => by
    obtain rfl := List.length_eq_zero_iff.1 hl
    have h1 : ev (fromL []) y = 1 := by
      show (1 : E) ^^^ Gf.mul y 0 = 1
      rw [Gf.mul_zero, xz]
    have hc : cnt [] y = 0 := rfl
    rw [h1, hc]
    exact ⟨⟨fun h => absurd h (by decide), fun h => absurd h (by omega)⟩, fun h => absurd h (by omega)⟩
  | k + 1, l, hl => by
    obtain ⟨m, r, rfl⟩ : ∃ m r, l = m ++ [r] := ⟨l.dropLast, l.getLast (by intro e; subst e; cases hl), (List.dropLast_concat_getLast _).symm⟩
    obtain ⟨h1, h2⟩ := roots_aux y k m (by simpa using hl)
    rw [cnt_snoc, ev_from, ev_der, mul_eq_zero, xor_eq_zero, h1]
    by_cases h : r = y
    · subst h
      rw [if_pos rfl, BitVec.xor_self, show Gf.mul (0#32) (ev (derL (fromL m)) r) = 0 from Gf.zero_mul _, zx, h1]
      exact ⟨⟨fun _ => by omega, fun _ => .inl rfl⟩, fun _ => ⟨fun h => by omega, fun h => by omega⟩⟩
    · rw [if_neg h, Nat.add_zero]
      refine ⟨⟨fun hh => hh.resolve_left h, .inr⟩, fun hc => ?_⟩
      rw [h1.2 hc, xz, mul_eq_zero, xor_eq_zero, ← h2 hc]
      exact ⟨fun hh => hh.resolve_left h, .inr⟩
theorem roots_ev (l : List E) (y : E) : ev (fromL l) y = 0 ↔ 0 < cnt l y := (roots_aux y _ l rfl).1
theorem roots_der (l : List E) (y : E) (h : 0 < cnt l y) : ev (derL (fromL l)) y = 0 ↔ 1 < cnt l y := (roots_aux y _ l rfl).2 h
theorem fromL_all (l : List E) : (fromL l).length = l.length + 1 ∧ len1 (fromL l) = l.length + 1 := by
  have := fromL_len l l.length (Nat.le_refl _)
  rwa [List.take_length] at this
theorem fromL_lead : ∀ (k : Nat) (l : List E), l.length = k → cf (fromL l) k = 1
  | 0, l, hl => by
    obtain rfl := List.length_eq_zero_iff.1 hl
    rfl
  | k + 1, l, hl => by
    obtain ⟨m, r, rfl⟩ : ∃ m r, l = m ++ [r] := ⟨l.dropLast, l.getLast (by intro e; subst e; cases hl), (List.dropLast_concat_getLast _).symm⟩
    have h1 := fromL_lead k m (by simpa using hl)
    have h2 := (fromL_all m).2
    have h3 : m.length = k := by simpa using hl
    rw [fromL_snoc, cf_mulR, mulL_comm, mulL_lin]
    show Gf.mul r (cf (fromL m) (k + 1)) ^^^ cf (fromL m) k = 1
    rw [cf_len1 (fromL m) (by omega), Gf.mul_zero, zx, h1]
end Go.Proofs.Ytamigcbodplmcaa.Po
