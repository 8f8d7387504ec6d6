/- The shortest recurrence of all sums: its polynomial's roots are the set, and there is none if they are too few. Pure facts. -/
import Derived.Test.YtamigcbodplmcaaSkD
import Derived.Test.YtamigcbodplmcaaRoM
namespace Go.Proofs.Ytamigcbodplmcaa.Sk
open Go.Proofs.Ytamigcbodplmcaa Go.Proofs.Ytamigcbodplmcaa.Po Go.Proofs.Ytamigcbodplmcaa.Ms
/-- weighted sums of powers -/
def tq (w : E → E) (A : List E) : Nat → E := fun i => S (fun x => Gf.mul (w x) (Gf.pow x i)) A
theorem rev_cf {q : List E} {M : Nat} (hl : q.length = M + 1) : ∀ j, j ≤ M → cf q.reverse j = cf q (M - j) := fun j hj => by
  show q.reverse.getD j 0 = q.getD (M - j) 0
  rw [List.getD_eq_getElem?_getD, List.getD_eq_getElem?_getD, List.getElem?_reverse (by omega), hl, show M + 1 - 1 - j = M - j from by omega]
theorem tq_rec {w : E → E} {A q : List E} {M n : Nat} (hl : q.length = M + 1) (h1 : cf q M = 1) (hk : ∀ a, a ∈ A → ev q a = 0) : Rec q.reverse M (tq w A) n := by
  have hrl : q.reverse.length = M + 1 := by rw [List.length_reverse, hl]
  have hc := rev_cf hl
  refine ⟨by rw [hc 0 (Nat.zero_le _)]; exact h1, fun j hj => cf_ge (by omega), fun i h2 _ => ?_⟩
  have e := mulL_dot (c := q.reverse) (tq w A) (i := i) M (by omega) h2
  rw [List.take_of_length_le (by omega), hc 0 (Nat.zero_le _), Nat.sub_zero, h1, show Gf.mul 1 (tq w A i) = tq w A i from Gf.one_mul _] at e
  have e2 : dotN (fun j => tq w A (i - 1 - j)) (fun j => cf q.reverse (j + 1)) M = dotN (cf q) (fun m => tq w A (i - M + m)) M := by
    rw [dotN_comm, ← dotN_rev (cf q)]
    exact dotN_congr M (fun j hj => by rw [hc _ (by omega), show M - (j + 1) = M - 1 - j from by omega]) (fun j hj => by
      show tq w A (i - 1 - j) = tq w A (i - M + (M - 1 - j))
      rw [show i - 1 - j = i - M + (M - 1 - j) from by omega])
  have e3 := S_ev (fun x => Gf.mul (w x) (Gf.pow x (i - M))) A q (M + 1) (by omega)
  have e4 : ∀ m, S (fun x => Gf.mul (Gf.mul (w x) (Gf.pow x (i - M))) (Gf.pow x m)) A = tq w A (i - M + m) := fun m => S_congr fun x _ => by
    rw [Gf.mul_assoc, ← Gf.pow_add]
  rw [List.take_of_length_le (by omega), S_congr (g := fun _ => 0) (fun x hx => by rw [hk x hx]; exact Gf.mul_zero _), S_zero, dotN_congr (M + 1) (fun _ _ => rfl) (fun m _ => e4 m), dotN, h1, show ∀ y, Gf.mul 1 y = y from Gf.one_mul, show i - M + M = i from by omega] at e3
  rw [e, e2, BitVec.xor_comm]
  exact e3.symm
/-- whatever values there are, weights have them as their first moments -/
theorem interp : ∀ (A : List E), A.Nodup → ∀ t : Nat → E, ∃ w : E → E, ∀ i, i < A.length → tq w A i = t i
  | [], _, _ => ⟨fun _ => 0, fun i hi => absurd hi (Nat.not_lt_zero _)⟩
  | b :: A, hn, t => by
    obtain ⟨hb, hA⟩ := List.nodup_cons.1 hn
    obtain ⟨w', hw'⟩ := interp A hA (fun i => t (i + 1) ^^^ Gf.mul b (t i))
    obtain ⟨v, hv⟩ : ∃ v : E → E, v = fun x => Gf.mul (w' x) (Gf.inv (x ^^^ b)) := ⟨_, rfl⟩
    refine ⟨fun x => if x = b then t 0 ^^^ tq v A 0 else v x, fun i hi => ?_⟩
    have hne : ∀ x, x ∈ A → x ≠ b := fun x hx e => hb (e ▸ hx)
    have hq : ∀ i, tq (fun x => if x = b then t 0 ^^^ tq v A 0 else v x) (b :: A) i = Gf.mul (t 0 ^^^ tq v A 0) (Gf.pow b i) ^^^ tq v A i := fun i => by
      show Gf.mul (if b = b then _ else v b) (Gf.pow b i) ^^^ S _ A = _
      rw [if_pos rfl]
      congr 1
      exact S_congr fun x hx => by
        show Gf.mul (if x = b then _ else v x) _ = _
        rw [if_neg (hne x hx)]
    have hst : ∀ i, i < A.length → tq v A (i + 1) ^^^ Gf.mul b (tq v A i) = t (i + 1) ^^^ Gf.mul b (t i) := fun i hi => by
      rw [← hw' i hi]
      unfold tq
      rw [← S_scl, ← S_add]
      refine S_congr fun x hx => ?_
      have hx0 : x ^^^ b ≠ 0 := fun e => hne x hx (xor_eq_zero.1 e)
      have h1 : Gf.mul (v x) (x ^^^ b) = w' x := by
        rw [hv, Gf.mul_assoc, Gf.mul_comm (Gf.inv _), Gf.mul_inv hx0]
        exact Gf.mul_one _
      rw [Gf.pow, ← h1, Gf.mul_comm (Gf.pow x i) x, ← Gf.mul_assoc, ← Gf.mul_assoc, Gf.mul_comm b (v x), Gf.mul_assoc (v x) (x ^^^ b), Gf.mul_comm (x ^^^ b), Gf.mul_xor, Gf.mul_xor, Gf.mul_assoc, Gf.mul_assoc, Gf.mul_comm x, Gf.mul_comm b]
    induction i with
    | zero =>
      rw [hq]
      have : Gf.pow b 0 = 1 := rfl
      rw [this, show Gf.mul (t 0 ^^^ tq v A 0) 1 = t 0 ^^^ tq v A 0 from Gf.mul_one _, BitVec.xor_assoc, BitVec.xor_self]
      exact xz _
    | succ i ih =>
      have h1 := ih (by omega)
      have hi' : i < A.length := by simp only [List.length_cons] at hi; omega
      rw [hq] at h1 ⊢
      have h2 := hst i hi'
      have h3 : tq v A (i + 1) = (t (i + 1) ^^^ Gf.mul b (t i)) ^^^ Gf.mul b (tq v A i) := by
        rw [← h2, BitVec.xor_assoc, BitVec.xor_self]
        exact (xz _).symm
      rw [h3, ← h1, Gf.mul_xor, Gf.pow, ← Gf.mul_assoc, Gf.mul_comm _ b]
      generalize Gf.mul b (Gf.mul (t 0 ^^^ tq v A 0) (Gf.pow b i)) = x
      generalize Gf.mul b (tq v A i) = y
      rw [show x ^^^ (t (i + 1) ^^^ (x ^^^ y) ^^^ y) = t (i + 1) ^^^ ((x ^^^ x) ^^^ (y ^^^ y)) from by ac_rfl, BitVec.xor_self, BitVec.xor_self]
      show t (i + 1) ^^^ ((0 : E) ^^^ 0) = _
      rw [zx, xz]
theorem S_square (f : E → E) : ∀ l, S (fun x => Gf.square (f x)) l = Gf.square (S f l)
  | [] => by show (0 : E) = Gf.square 0; decide
  | x :: l => by
    show Gf.square (f x) ^^^ S _ l = Gf.square (f x ^^^ S f l)
    rw [Gf.lin_square, S_square f l]
theorem square_zero {x : E} (h : Gf.square x = 0) : x = 0 := by
  rw [Gf.square_eq] at h
  rcases Gf.no_divisors h with e | e <;> exact e
theorem S_erase (f : E → E) {A : List E} {b : E} (h : b ∈ A) : S f A = f b ^^^ S f (A.erase b) := S_perm f (List.perm_cons_erase h)
/-- the roots of the shortest recurrence's polynomial have the sums, if there are enough of them -/
theorem roots_is {l c : List E} {L : Nat} (hL : Least (cf (exL l)) (2 * l.length) L) (hc : Rec c L (cf (exL l)) (2 * l.length)) (hl : c.length = L + 1) (hle : L ≤ l.length) (hs : (rts c.reverse).length + 1 = len1 c.reverse) : Is l (rts c.reverse) := by
  obtain ⟨q, hq⟩ : ∃ q, q = c.reverse := ⟨_, rfl⟩
  have hqc : q.reverse = c := by rw [hq, List.reverse_reverse]
  have hql : q.length = L + 1 := by rw [hq, List.length_reverse, hl]
  have hq1 : cf q L = 1 := by
    have := rev_cf (q := c) hl L (Nat.le_refl _)
    rw [← hq, Nat.sub_self] at this
    rw [this, hc.one]
  have hlen : len1 q = L + 1 := len1_eq (fun i hi => cf_ge (by omega)) (fun _ => by rw [show L + 1 - 1 = L from rfl, hq1]; decide)
  rw [← hq] at hs ⊢
  obtain ⟨A, hA⟩ : ∃ A, A = rts q := ⟨_, rfl⟩
  have hAs : Srt A := by rw [hA]; exact rts_srt q
  have hAr : ∀ a, a ∈ A → ev q a = 0 := fun a h => rts_mem.1 (hA ▸ h)
  rw [← hA] at hs ⊢
  have hAL : A.length = L := by omega
  have hn := hAs.nodup
  obtain ⟨w, hw⟩ := interp A hn (cf (exL l))
  have hrec : Rec c L (tq w A) (2 * l.length) := by rw [← hqc]; exact tq_rec hql hq1 hAr
  have hdet := hc.det hrec fun i h1 _ => (hw i (by omega)).symm
  -- no weight is 0
  have hne : ∀ b, b ∈ A → w b ≠ 0 := fun b hb e => by
    have h1 : ∀ i, tq w A i = tq w (A.erase b) i := fun i => by
      unfold tq
      rw [S_erase _ hb, e, show Gf.mul 0 (Gf.pow b i) = 0 from Gf.zero_mul _]
      exact zx _
    have h2 : (A.erase b).length = A.length - 1 := List.length_erase_of_mem hb
    have h3 : Rec (fromL (A.erase b)).reverse (A.erase b).length (cf (exL l)) (2 * l.length) :=
      (tq_rec (w := w) (fromL_all (A.erase b)).1 (fromL_lead _ _ rfl) (fun a ha => mem_fromL.2 ha)).congr fun i hi => by rw [hdet i hi, h1]
    have h4 := hL.least _ _ h3
    have h5 := List.length_pos_of_mem hb
    omega
  -- each weight is its element
  have hsq : ∀ i, i < l.length → tq w A (2 * i + 1) = Gf.square (tq w A i) := fun i hi => by
    rw [← hdet (2 * i + 1) (by omega), ← hdet i (by omega), exL_cf l (by omega), exL_cf l (by omega), ex_odd l (by omega), show (2 * i + 1) / 2 = i from by omega, Gf.square_eq]
  have hwx : ∀ x, x ∈ A → w x = x := fun x hx => by
    have hv := vander (w := fun x => Gf.squares (Gf.mul (w x) x ^^^ Gf.square (w x)) 31) hn (fun j hj => by
      refine square_zero ?_
      have h1 : Gf.square (S (fun x => Gf.mul (Gf.squares (Gf.mul (w x) x ^^^ Gf.square (w x)) 31) (Gf.pow x j)) A) = tq w A (2 * j + 1) ^^^ Gf.square (tq w A j) := ?_
      · rw [h1, hsq j (by omega)]
        exact BitVec.xor_self
      unfold tq
      rw [← S_square, ← S_square, ← S_add]
      refine S_congr fun y _ => ?_
      rw [Gf.square_mul, show Gf.square (Gf.squares (Gf.mul (w y) y ^^^ Gf.square (w y)) 31) = _ from Gf.squares_32 _, Gf.square_mul, Gf.pow, Gf.square_eq (Gf.pow y j), ← Gf.pow_add, show j + j = 2 * j from by omega]
      rw [Gf.mul_comm (Gf.mul (w y) y ^^^ Gf.square (w y)), Gf.mul_xor, Gf.mul_comm (Gf.pow y (2 * j)) (Gf.mul (w y) y), Gf.mul_assoc, Gf.mul_comm y, Gf.mul_comm (Gf.pow y (2 * j)) (Gf.square (w y))]) x hx
    have h2 : Gf.mul (w x) x ^^^ Gf.square (w x) = 0 := by
      rw [← show Gf.square (Gf.squares (Gf.mul (w x) x ^^^ Gf.square (w x)) 31) = _ from Gf.squares_32 _, hv]
      decide
    rw [Gf.square_eq, ← Gf.mul_xor] at h2
    rcases Gf.no_divisors h2 with e | e
    · exact absurd e (hne x hx)
    · exact (xor_eq_zero.1 e).symm
  refine ⟨hAs, fun x hx e => hne x hx (by rw [hwx x hx, e]), by omega, fun k hk => ?_⟩
  have h1 := hdet (2 * k) (by omega)
  rw [exL_cf l (by omega), ex_even l (by omega), show 2 * k / 2 = k from by omega] at h1
  rw [h1]
  unfold tq ps
  exact S_congr fun x hx => by rw [hwx x hx, Gf.pow, Gf.mul_comm]
/-- a set that has the sums is the roots of the shortest recurrence's polynomial -/
theorem is_roots {l c A : List E} {L : Nat} (hA : Is l A) (hL : Least (cf (exL l)) (2 * l.length) L) (hc : Rec c L (cf (exL l)) (2 * l.length)) (hl : c.length = L + 1) : L = A.length ∧ c.reverse = fromL A := by
  have hx : ∀ i, i < 2 * l.length → cf (exL l) i = sq A i := fun i hi => by rw [exL_cf l hi, ex_ps hA i hi]
  have h1 := (hL.congr hx).eq (loc_least hA.srt.nodup hA.ne (by have := hA.le; omega))
  subst h1
  refine ⟨rfl, ?_⟩
  rw [loc_rec hA.srt.nodup hA.ne (n := 2 * l.length) (by have := hA.le; omega) (hc.congr hx) hl, List.reverse_reverse]
theorem dec_yes {l c A : List E} {L : Nat} (hA : Is l A) (hL : Least (cf (exL l)) (2 * l.length) L) (hc : Rec c L (cf (exL l)) (2 * l.length)) (hl : c.length = L + 1) :
    L = A.length ∧ rts c.reverse = A ∧ len1 c.reverse = L + 1 := by
  obtain ⟨h1, h2⟩ := is_roots hA hL hc hl
  exact ⟨h1, by rw [h2]; exact rts_from hA.srt, by rw [h2, (fromL_all A).2, h1]⟩
end Go.Proofs.Ytamigcbodplmcaa.Sk
