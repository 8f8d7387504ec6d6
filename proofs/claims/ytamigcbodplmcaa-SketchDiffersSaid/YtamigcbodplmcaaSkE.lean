/- elimination to the end: pure facts -/
import Derived.Test.YtamigcbodplmcaaSkM
import Derived.Test.YtamigcbodplmcaaMsS
namespace Go.Proofs.Ytamigcbodplmcaa.Sk
open Go.Proofs.Ytamigcbodplmcaa Go.Proofs.Ytamigcbodplmcaa.Po Go.Proofs.Ytamigcbodplmcaa.Ms
/-- a linear form of a row -/
structure Form (f : (Nat → E) → E) : Prop where
  add : ∀ r p, f (addF r p) = f r ^^^ f p
  scl : ∀ c p, f (sclF c p) = Gf.mul c (f p)
theorem form_ker (z : Nat → E) (L : Nat) : Form (fun r => dotN r z L) := ⟨fun r p => dotN_add r p z L, fun c p => dotN_scl c p z L⟩
theorem form_sol (x : Nat → E) (L : Nat) : Form (fun r => dotN r x L ^^^ r L) := ⟨fun r p => by
  show dotN (addF r p) x L ^^^ (r L ^^^ p L) = _
  rw [dotN_add]
  ac_rfl, fun c p => by
  show dotN (sclF c p) x L ^^^ Gf.mul c (p L) = _
  rw [dotN_scl]
  exact (Gf.mul_xor _ _ _).symm⟩
/-- all forms that vanish on the first m rows of one vanish on those of the other -/
def Eqv (m : Nat) (R R' : Nat → Nat → E) : Prop := ∀ f, Form f → ((∀ i, i < m → f (R i) = 0) ↔ (∀ i, i < m → f (R' i) = 0))
theorem Eqv.refl (m : Nat) (R : Nat → Nat → E) : Eqv m R R := fun _ _ => Iff.rfl
theorem Eqv.trans {m : Nat} {R R' R'' : Nat → Nat → E} (h : Eqv m R R') (h' : Eqv m R' R'') : Eqv m R R'' := fun f hf => (h f hf).trans (h' f hf)
theorem Eqv.swap {m u k : Nat} (R : Nat → Nat → E) (hu : u < m) (hk : k < m) : Eqv m R (fun i => R (swp u k i)) := fun f _ => by
  constructor
  · intro h i hi
    exact h _ (swp_lt hu hk hi)
  · intro h i hi
    have h1 : f (R (swp u k (swp u k i))) = 0 := h (swp u k i) (swp_lt hu hk hi)
    have : swp u k (swp u k i) = i := by unfold swp; split <;> split <;> (try split) <;> omega
    rwa [this] at h1
/-- row u, times c -/
def sclR (R : Nat → Nat → E) (u : Nat) (c : E) : Nat → Nat → E := fun i => if i = u then sclF c (R u) else R i
theorem Eqv.scale {m u : Nat} {c : E} (R : Nat → Nat → E) (hc : c ≠ 0) : Eqv m R (sclR R u c) := fun f hf => by
  constructor
  · intro h i hi
    unfold sclR
    split
    · next e => rw [hf.scl, ← e, h i hi]; exact Gf.mul_zero _
    · exact h i hi
  · intro h i hi
    have h1 := h i hi
    unfold sclR at h1
    split at h1
    · next e =>
      rw [hf.scl] at h1
      rcases Gf.no_divisors h1 with e2 | e2
      · exact absurd e2 hc
      · rw [e]; exact e2
    · exact h1
/-- rows below n but u, cleared by row u -/
def clrR (R : Nat → Nat → E) (u n : Nat) : Nat → Nat → E := fun i => if i ≠ u ∧ i < n then addF (R i) (sclF (R i u) (R u)) else R i
theorem clrR_u (R : Nat → Nat → E) (u n : Nat) : clrR R u n u = R u := by unfold clrR; rw [if_neg (by omega)]
theorem clrR_zero (R : Nat → Nat → E) (u : Nat) : clrR R u 0 = R := by funext i; unfold clrR; rw [if_neg (by omega)]
theorem Eqv.clear {m u : Nat} (R : Nat → Nat → E) (hu : u < m) : Eqv m R (clrR R u m) := fun f hf => by
  constructor
  · intro h i hi
    unfold clrR
    split
    · rw [hf.add, hf.scl, h i hi, h u hu, show Gf.mul (R i u) 0 = 0 from Gf.mul_zero _]; rfl
    · exact h i hi
  · intro h i hi
    have hu0 := h u hu
    rw [clrR_u] at hu0
    have h1 := h i hi
    unfold clrR at h1
    split at h1
    · rw [hf.add, hf.scl, hu0, show Gf.mul (R i u) 0 = 0 from Gf.mul_zero _, xz] at h1
      exact h1
    · exact h1
/-- the first columns are the unit's -/
def Unit (m col : Nat) (R : Nat → Nat → E) : Prop := ∀ i, i < m → ∀ j, j < col → R i j = if i = j then 1 else 0
theorem Unit.swap {m col k : Nat} {R : Nat → Nat → E} (h : Unit m col R) (hc : col < m) (hk : k < m) (hck : col ≤ k) : Unit m col (fun i => R (swp col k i)) := fun i hi j hj => by
  show R (swp col k i) j = _
  rw [h _ (swp_lt hc hk hi) j hj]
  unfold swp
  split
  · rw [if_neg (by omega), if_neg (by omega)]
  · split
    · rw [if_neg (by omega), if_neg (by omega)]
    · rfl
theorem Unit.scale {m col : Nat} {c : E} {R : Nat → Nat → E} (h : Unit m col R) (hc : col < m) : Unit m col (sclR R col c) := fun i hi j hj => by
  unfold sclR
  split
  · next e =>
    show Gf.mul c (R col j) = _
    rw [h col hc j hj, if_neg (by omega), if_neg (by omega)]
    exact Gf.mul_zero _
  · exact h i hi j hj
theorem Unit.clear {m col : Nat} {R : Nat → Nat → E} (h : Unit m col R) (hc : col < m) (h1 : R col col = 1) : Unit m (col + 1) (clrR R col m) := fun i hi j hj => by
  unfold clrR
  by_cases e : i = col
  · rw [if_neg (by omega), e]
    by_cases e2 : j = col
    · rw [e2, if_pos rfl]; exact h1
    · exact h col hc j (by omega)
  · rw [if_pos ⟨e, hi⟩]
    show R i j ^^^ Gf.mul (R i col) (R col j) = _
    by_cases e2 : j = col
    · rw [e2, h1, if_neg e, show Gf.mul (R i col) 1 = R i col from Gf.mul_one _]
      exact BitVec.xor_self
    · rw [h col hc j (by omega), if_neg (by omega), show Gf.mul (R i col) 0 = 0 from Gf.mul_zero _, h i hi j (by omega), xz]
theorem dotN_at (r : Nat → E) (x : Nat → E) (i : Nat) : ∀ k, (∀ j, j < k → r j = if i = j then 1 else 0) → dotN r x k = if i < k then x i else 0
  | 0, _ => by rw [if_neg (by omega)]; rfl
  | k + 1, h => by
    rw [dotN, dotN_at r x i k fun j hj => h j (by omega), h k (by omega)]
    by_cases e : i = k
    · subst e
      rw [if_neg (Nat.lt_irrefl _), if_pos rfl, if_pos (by omega), show Gf.mul 1 (x i) = x i from Gf.one_mul _]
      exact zx _
    · rw [if_neg e, show Gf.mul 0 (x k) = 0 from Gf.zero_mul _]
      by_cases e2 : i < k
      · rw [if_pos e2, if_pos (by omega)]; exact xz _
      · rw [if_neg e2, if_neg (by omega)]; rfl
/-- a column without a pivot: something else than 0 is sent to 0 -/
theorem Unit.stuck {m col : Nat} {R : Nat → Nat → E} (h : Unit m col R) (hc : col < m) (h0 : ∀ i, col ≤ i → i < m → R i col = 0) : ∃ z : Nat → E, z col = 1 ∧ ∀ i, i < m → dotN (R i) z m = 0 := by
  refine ⟨fun j => if j < col then R j col else if j = col then 1 else 0, ?_, fun i hi => ?_⟩
  · show (if col < col then _ else if col = col then (1 : E) else 0) = 1
    rw [if_neg (Nat.lt_irrefl _), if_pos rfl]
  · have hcut : ∀ k, col < k → dotN (R i) (fun j => if j < col then R j col else if j = col then 1 else 0) k = dotN (R i) (fun j => if j < col then R j col else if j = col then 1 else 0) (col + 1) := by
      intro k
      induction k with
      | zero => intro hk; omega
      | succ k ih =>
        intro hk
        by_cases e : k = col
        · rw [e]
        · rw [dotN, ih (by omega), if_neg (by omega), if_neg e, show Gf.mul (R i k) 0 = 0 from Gf.mul_zero _]
          exact xz _
    rw [hcut m hc, dotN, dotN_at (R i) _ i col (h i hi), if_neg (Nat.lt_irrefl _), if_pos rfl, show Gf.mul (R i col) 1 = R i col from Gf.mul_one _]
    by_cases e : i < col
    · rw [if_pos e, if_pos e]
      exact BitVec.xor_self
    · rw [if_neg e, h0 i (by omega) hi]
      rfl
/-- at the end the last column is the solution -/
theorem Unit.done {m : Nat} {R M : Nat → Nat → E} (h : Unit m m R) (he : Eqv m M R) : ∀ i, i < m → dotN (M i) (fun j => R j m) m = M i m := by
  have h1 := (he _ (form_sol (fun j => R j m) m)).2 fun i hi => by
    show dotN (R i) (fun j => R j m) m ^^^ R i m = 0
    rw [dotN_at (R i) _ i m (h i hi), if_pos hi]
    exact BitVec.xor_self
  intro i hi
  exact xor_eq_zero.1 (h1 i hi)
theorem inv_ne {x : E} (h : x ≠ 0) : Gf.inv x ≠ 0 := fun e => by
  have h1 := Gf.mul_inv h
  rw [e, show Gf.mul x 0 = 0 from Gf.mul_zero _] at h1
  exact absurd (show (0 : E) = 1 from h1) (by decide)
/-- row u, its first j entries times c -/
def scM (R : Nat → Nat → E) (u : Nat) (c : E) (j : Nat) : Nat → Nat → E := fun i' j' => if i' = u ∧ j' < j then Gf.mul (R u j') c else R i' j'
theorem scM_zero (R : Nat → Nat → E) (u : Nat) (c : E) : scM R u c 0 = R := by funext i' j'; unfold scM; rw [if_neg (by omega)]
theorem scM_at (R : Nat → Nat → E) (u : Nat) (c : E) (j : Nat) : scM R u c j u j = R u j := by unfold scM; rw [if_neg (by omega)]
theorem scM_step (R : Nat → Nat → E) (u : Nat) (c : E) (j : Nat) : setM (scM R u c j) u j (Gf.mul (R u j) c) = scM R u c (j + 1) := by
  funext i' j'
  unfold setM scM
  by_cases e : i' = u
  · by_cases e2 : j' = j
    · rw [if_pos ⟨e, e2⟩, if_pos ⟨e, by omega⟩, e2]
    · rw [if_neg (fun h => e2 h.2)]
      by_cases e3 : j' < j
      · rw [if_pos ⟨e, e3⟩, if_pos ⟨e, by omega⟩]
      · rw [if_neg (fun h => e3 h.2), if_neg (by omega)]
  · rw [if_neg (fun h => e h.1), if_neg (fun h => e h.1), if_neg (fun h => e h.1)]
theorem scM_end (R : Nat → Nat → E) (u : Nat) (c : E) (K : Nat) : ∀ i' j', j' < K → scM R u c K i' j' = sclR R u c i' j' := fun i' j' hj => by
  unfold scM sclR
  by_cases e : i' = u
  · rw [if_pos ⟨e, hj⟩, if_pos e]
    exact Gf.mul_comm _ _
  · rw [if_neg (fun h => e h.1), if_neg e]
/-- while row t is cleared: j entries are done -/
def clM (R : Nat → Nat → E) (u t j : Nat) : Nat → Nat → E := fun i' j' => if i' = t ∧ j' < j then R t j' ^^^ Gf.mul (R t u) (R u j') else clrR R u t i' j'
theorem clM_zero (R : Nat → Nat → E) (u t : Nat) : clM R u t 0 = clrR R u t := by funext i' j'; unfold clM; rw [if_neg (by omega)]
theorem clM_i (R : Nat → Nat → E) (u t j : Nat) : clM R u t j t j = R t j := by unfold clM clrR; rw [if_neg (by omega), if_neg (by omega)]
theorem clM_u (R : Nat → Nat → E) {u t j : Nat} (_h : t ≠ u) : clM R u t j u j = R u j := by unfold clM clrR; rw [if_neg (by omega), if_neg (by omega)]
theorem clM_step (R : Nat → Nat → E) {u t j : Nat} (_h : t ≠ u) : setM (clM R u t j) t j (R t j ^^^ Gf.mul (R t u) (R u j)) = clM R u t (j + 1) := by
  funext i' j'
  unfold setM clM
  by_cases e : i' = t
  · by_cases e2 : j' = j
    · rw [if_pos ⟨e, e2⟩, if_pos ⟨e, by omega⟩, e2]
    · rw [if_neg (fun h => e2 h.2)]
      by_cases e3 : j' < j
      · rw [if_pos ⟨e, e3⟩, if_pos ⟨e, by omega⟩]
      · rw [if_neg (fun h => e3 h.2), if_neg (by omega)]
  · rw [if_neg (fun h => e h.1), if_neg (fun h => e h.1), if_neg (fun h => e h.1)]
theorem clM_end (R : Nat → Nat → E) {u t : Nat} (h : t ≠ u) (K : Nat) : ∀ i' j', j' < K → clM R u t K i' j' = clrR R u (t + 1) i' j' := fun i' j' hj => by
  unfold clM clrR
  by_cases e : i' = t
  · rw [if_pos ⟨e, hj⟩, e, if_pos ⟨h, by omega⟩]
    rfl
  · rw [if_neg (fun h => e h.1)]
    by_cases e2 : i' ≠ u ∧ i' < t
    · rw [if_pos e2, if_pos ⟨e2.1, by omega⟩]
    · rw [if_neg e2, if_neg (by omega)]
end Go.Proofs.Ytamigcbodplmcaa.Sk
