/- the shortest recurrence: pure facts (Massey's lemma, the step, uniqueness) · elimination over the field, and the system of a recurrence of a given length: pure facts -/
import Derived.Test.YtamigcbodplmcaaPz
/-! the shortest recurrence: pure facts (Massey's lemma, the step, uniqueness) -/
namespace Go.Proofs.Ytamigcbodplmcaa.Ms
open Go.Proofs.Ytamigcbodplmcaa Go.Proofs.Ytamigcbodplmcaa.Po
theorem Xn_mulL (p : List E) (k : Nat) (f : Nat → E) : mulL p (Xn k f) = Xn k (mulL p f) := by
  induction k with
  | zero => rw [Xn_zero, Xn_zero]
  | succ k ih => rw [Xn_succ, Xn_succ, mulL_X, ih]
theorem at_zero (c : List E) (f : Nat → E) : ∀ n, (∀ j, j ≤ n → cf c j = 0 ∨ f (n - j) = 0) → mulL c f n = 0 := by
  induction c with
  | nil => intro n _; rfl
  | cons a p ih =>
    intro n h
    have h0 := h 0 (Nat.zero_le _)
    rw [cf_zero, Nat.sub_zero] at h0
    have e0 : Gf.mul a (f n) = 0 := by
      rcases h0 with h0 | h0
      · rw [h0]; exact Gf.zero_mul _
      · rw [h0]; exact Gf.mul_zero _
    show Gf.mul a (f n) ^^^ X (mulL p f) n = 0
    rw [e0]
    cases n with
    | zero => exact zx _
    | succ n =>
      show (0 : E) ^^^ mulL p f n = 0
      rw [zx]
      refine ih n fun j hj => ?_
      have := h (j + 1) (by omega)
      rwa [cf_cons, show n + 1 - (j + 1) = n - j from by omega] at this
theorem at_head (c : List E) (f : Nat → E) (n : Nat) (h : ∀ j, 1 ≤ j → j ≤ n → cf c j = 0 ∨ f (n - j) = 0) : mulL c f n = Gf.mul (cf c 0) (f n) := by
  cases c with
  | nil => rw [cf_nil]; exact (Gf.zero_mul _).symm
  | cons a p =>
    show Gf.mul a (f n) ^^^ X (mulL p f) n = Gf.mul (cf (a :: p) 0) (f n)
    rw [cf_zero]
    have : X (mulL p f) n = 0 := by
      cases n with
      | zero => rfl
      | succ n =>
        refine at_zero p f n fun j hj => ?_
        have := h (j + 1) (by omega) (by omega)
        rwa [cf_cons, show n + 1 - (j + 1) = n - j from by omega] at this
    rw [this, xz]
/-- the coefficient depends only on what lies up to it -/
theorem at_congr (c : List E) {f g : Nat → E} : ∀ n, (∀ i, i ≤ n → f i = g i) → mulL c f n = mulL c g n := by
  induction c with
  | nil => intro n _; rfl
  | cons a p ih =>
    intro n h
    show Gf.mul a (f n) ^^^ X (mulL p f) n = Gf.mul a (g n) ^^^ X (mulL p g) n
    rw [h n (Nat.le_refl _)]
    cases n with
    | zero => rfl
    | succ n =>
      show _ ^^^ mulL p f n = _ ^^^ mulL p g n
      rw [ih n fun i hi => h i (by omega)]

/-- c is a recurrence of length L that the first n elements of f keep -/
structure Rec (c : List E) (L : Nat) (f : Nat → E) (n : Nat) : Prop where
  one : cf c 0 = 1
  top : ∀ j, L < j → cf c j = 0
  zero : ∀ i, L ≤ i → i < n → mulL c f i = 0
theorem Rec.mono {c : List E} {L n m : Nat} {f : Nat → E} (h : Rec c L f n) (hm : m ≤ n) : Rec c L f m := ⟨h.one, h.top, fun i h1 h2 => h.zero i h1 (by omega)⟩
theorem Rec.more {c : List E} {L M n : Nat} {f : Nat → E} (h : Rec c L f n) (hm : L ≤ M) : Rec c M f n := ⟨h.one, fun j hj => h.top j (by omega), fun i h1 h2 => h.zero i (by omega) h2⟩
theorem Rec.congr {c : List E} {L n : Nat} {f g : Nat → E} (h : Rec c L f n) (hf : ∀ i, i < n → f i = g i) : Rec c L g n :=
  ⟨h.one, h.top, fun i h1 h2 => by rw [← h.zero i h1 h2]; exact at_congr c i fun k hk => (hf k (by omega)).symm⟩
theorem Rec.triv (c : List E) (L : Nat) (f : Nat → E) {n : Nat} (h1 : cf c 0 = 1) (ht : ∀ j, L < j → cf c j = 0) (hn : n ≤ L) : Rec c L f n := ⟨h1, ht, fun i h1 h2 => by omega⟩
theorem Rec.step0 {c : List E} {L n : Nat} {f : Nat → E} (h : Rec c L f n) (hd : mulL c f n = 0) : Rec c L f (n + 1) :=
  ⟨h.one, h.top, fun i h1 h2 => by
    by_cases hi : i = n
    · rw [hi]; exact hd
    · exact h.zero i h1 (by omega)⟩
/-- Massey's lemma -/
theorem Rec.massey {c c' : List E} {L L' n : Nat} {f : Nat → E} (h : Rec c L f n) (hd : mulL c f n ≠ 0) (h' : Rec c' L' f (n + 1)) : n + 1 ≤ L + L' := by
  rcases Nat.lt_or_ge n (L + L') with hlt | hge
  · omega
  · exfalso
    have e := congrFun (mulL_swap c' c f) n
    have e1 : mulL c' (mulL c f) n = Gf.mul (cf c' 0) (mulL c f n) := by
      refine at_head _ _ _ fun j h1 h2 => ?_
      by_cases hj : L' < j
      · exact Or.inl (h'.top j hj)
      · exact Or.inr (h.zero (n - j) (by omega) (by omega))
    have e2 : mulL c (mulL c' f) n = 0 := by
      refine at_zero _ _ _ fun j h2 => ?_
      by_cases hj : L < j
      · exact Or.inl (h.top j hj)
      · exact Or.inr (h'.zero (n - j) (by omega) (by omega))
    rw [e1, e2, h'.one] at e
    rw [show Gf.mul 1 (mulL c f n) = mulL c f n from Gf.one_mul _] at e
    exact hd e
/-- the least length -/
structure Least (f : Nat → E) (n L : Nat) : Prop where
  ex : ∃ c, Rec c L f n
  least : ∀ c' L', Rec c' L' f n → L ≤ L'
theorem Least.eq {f : Nat → E} {n L M : Nat} (h : Least f n L) (h' : Least f n M) : L = M := by
  obtain ⟨c, hc⟩ := h.ex
  obtain ⟨d, hd⟩ := h'.ex
  exact Nat.le_antisymm (h.least _ _ hd) (h'.least _ _ hc)
theorem cf_one1 : cf [(1 : E)] = oneF := by
  funext i
  cases i with
  | zero => rw [cf_zero]; rfl
  | succ i => rw [cf_cons, cf_nil]; rfl
theorem one_rec (f : Nat → E) (n : Nat) : Rec [1] n f n := Rec.triv _ _ _ (by rw [cf_one1]; rfl) (fun j hj => by rw [cf_one1]; show (if j = 0 then (1 : E) else 0) = 0; rw [if_neg (by omega)]) (Nat.le_refl _)
theorem Least.ofn (f : Nat → E) (n : Nat) : ∃ L, Least f n L ∧ L ≤ n := by
  suffices h : ∀ k, (∃ c, Rec c k f n) → ∃ L, Least f n L ∧ L ≤ k by exact h n ⟨_, one_rec f n⟩
  intro k
  induction k using Nat.strongRecOn with
  | ind k ih =>
    intro hk
    by_cases h : ∃ j, j < k ∧ ∃ c, Rec c j f n
    · obtain ⟨j, hj, hc⟩ := h
      obtain ⟨L, hL, hle⟩ := ih j hj hc
      exact ⟨L, hL, by omega⟩
    · exact ⟨k, ⟨hk, fun c' L' hr => by
        rcases Nat.lt_or_ge L' k with h1 | h1
        · exact (h ⟨L', h1, c', hr⟩).elim
        · exact h1⟩, Nat.le_refl _⟩
theorem Least.congr {f g : Nat → E} {n L : Nat} (h : Least f n L) (hf : ∀ i, i < n → f i = g i) : Least g n L := by
  obtain ⟨c, hc⟩ := h.ex
  exact ⟨⟨c, hc.congr hf⟩, fun c' L' h' => h.least c' L' (h'.congr fun i hi => (hf i hi).symm)⟩

/-- one step of the search: c keeps n, b kept m < n and failed there -/
theorem Rec.step {c b c' : List E} {L M n m : Nat} {s : List E} {k : E} (hc : Rec c L (cf s) n) (hb : Rec b M (cf s) m) (hm : m < n)
    (hk : Gf.mul k (mulL b (cf s) m) = mulL c (cf s) n) (hc' : cf c' = addF (cf c) (Xn (n - m) (sclF k (cf b)))) :
    Rec c' (max L (M + (n - m))) (cf s) (n + 1) := by
  have hmul : mulL c' (cf s) = addF (mulL c (cf s)) (Xn (n - m) (sclF k (mulL b (cf s)))) := by
    rw [mulL_comm, hc', mulL_add, Xn_mulL, mulL_scl, mulL_comm s c, mulL_comm s b]
  refine ⟨?_, ?_, ?_⟩
  · rw [hc']
    show cf c 0 ^^^ (if n - m ≤ 0 then _ else 0) = 1
    rw [if_neg (by omega), xz, hc.one]
  · intro j hj
    rw [hc']
    show cf c j ^^^ (if n - m ≤ j then Gf.mul k (cf b (j - (n - m))) else 0) = 0
    rw [hc.top j (by omega), zx, if_pos (by omega), hb.top _ (by omega)]
    exact Gf.mul_zero _
  · intro i h1 h2
    rw [hmul]
    show mulL c (cf s) i ^^^ (if n - m ≤ i then Gf.mul k (mulL b (cf s) (i - (n - m))) else 0) = 0
    rw [if_pos (by omega)]
    by_cases hi : i = n
    · rw [hi, show n - (n - m) = m from by omega, hk]
      exact BitVec.xor_self
    · rw [hc.zero i (by omega) (by omega), zx, hb.zero _ (by omega) (by omega)]
      exact Gf.mul_zero _
theorem inv_scale {d e : E} (he : e ≠ 0) : Gf.mul (Gf.mul d (Gf.inv e)) e = d := by
  rw [Gf.mul_assoc, Gf.mul_comm (Gf.inv e), Gf.mul_inv he]
  exact Gf.mul_one d

/-- what the search holds before element n: c, L; b, at its failing place: shift sh, value e -/
structure St (s : List E) (n : Nat) (c : List E) (L : Nat) (b : List E) (sh : Nat) (e : E) : Prop where
  rc : Rec c L (cf s) n
  least : ∀ c' L', Rec c' L' (cf s) n → L ≤ L'
  ne : e ≠ 0
  prev : (L = 0 ∧ sh = n + 1 ∧ b = [1]) ∨ ∃ m M, m < n ∧ sh = n - m ∧ Rec b M (cf s) m ∧ mulL b (cf s) m = e ∧ L + M = m + 1
theorem St.start (s : List E) : St s 0 [1] 0 [1] 1 1 :=
  ⟨one_rec _ _, fun _ _ _ => Nat.zero_le _, by decide, Or.inl ⟨rfl, rfl, rfl⟩⟩
theorem St.least' {s c b : List E} {n L sh : Nat} {e : E} (h : St s n c L b sh e) : Least (cf s) n L := ⟨⟨c, h.rc⟩, h.least⟩
theorem St.le {s c b : List E} {n L sh : Nat} {e : E} (h : St s n c L b sh e) : L ≤ n := h.least _ _ (one_rec _ n)
theorem St.same {s c b : List E} {n L sh : Nat} {e : E} (h : St s n c L b sh e) (hd : mulL c (cf s) n = 0) : St s (n + 1) c L b (sh + 1) e :=
  ⟨h.rc.step0 hd, fun c' L' h' => h.least c' L' (h'.mono (by omega)), h.ne, by
    rcases h.prev with ⟨h1, h2, h3⟩ | ⟨m, M, h1, h2, h3, h4, h5⟩
    · exact Or.inl ⟨h1, by omega, h3⟩
    · exact Or.inr ⟨m, M, by omega, by omega, h3, h4, h5⟩⟩
/-- the next recurrence, and its least length -/
theorem St.next {s c b c' : List E} {n L sh : Nat} {e : E} (h : St s n c L b sh e) (hd : mulL c (cf s) n ≠ 0)
    (hc' : cf c' = addF (cf c) (Xn sh (sclF (Gf.mul (mulL c (cf s) n) (Gf.inv e)) (cf b)))) :
    Rec c' (max L (n + 1 - L)) (cf s) (n + 1) ∧ ∀ d M, Rec d M (cf s) (n + 1) → max L (n + 1 - L) ≤ M := by
  refine ⟨?_, fun d M hr => ?_⟩
  · have hle := h.le
    rcases h.prev with ⟨h1, h2, h3⟩ | ⟨m, M, h1, h2, h3, h4, h5⟩
    · subst h1 h2 h3
      refine Rec.triv _ _ _ ?_ ?_ (by omega)
      · rw [hc']
        show cf c 0 ^^^ (if n + 1 ≤ 0 then _ else 0) = 1
        rw [if_neg (by omega), xz, h.rc.one]
      · intro j hj
        rw [hc']
        show cf c j ^^^ (if n + 1 ≤ j then Gf.mul _ (cf [1] (j - (n + 1))) else 0) = 0
        rw [h.rc.top j (by omega), zx, if_pos (by omega), cf_one1]
        show Gf.mul _ (if j - (n + 1) = 0 then (1 : E) else 0) = 0
        rw [if_neg (by omega)]
        exact Gf.mul_zero _
    · subst h2
      have := h.rc.step (k := Gf.mul (mulL c (cf s) n) (Gf.inv e)) h3 h1 (by rw [h4]; exact inv_scale h.ne) hc'
      rwa [show M + (n - m) = n + 1 - L from by omega] at this
  · have e1 := h.rc.massey hd hr
    have e2 := h.least d M (hr.mono (by omega))
    omega
theorem St.keep {s c b c' : List E} {n L sh : Nat} {e : E} (h : St s n c L b sh e) (hd : mulL c (cf s) n ≠ 0) (hl : n < 2 * L)
    (hc' : cf c' = addF (cf c) (Xn sh (sclF (Gf.mul (mulL c (cf s) n) (Gf.inv e)) (cf b)))) : St s (n + 1) c' L b (sh + 1) e := by
  obtain ⟨h1, h2⟩ := h.next hd hc'
  rw [show max L (n + 1 - L) = L from by omega] at h1 h2
  refine ⟨h1, h2, h.ne, ?_⟩
  rcases h.prev with ⟨g1, g2, g3⟩ | ⟨m, M, g1, g2, g3, g4, g5⟩
  · omega
  · exact Or.inr ⟨m, M, by omega, by omega, g3, g4, g5⟩
theorem St.grow {s c b c' : List E} {n L sh : Nat} {e : E} (h : St s n c L b sh e) (hd : mulL c (cf s) n ≠ 0) (hl : 2 * L ≤ n)
    (hc' : cf c' = addF (cf c) (Xn sh (sclF (Gf.mul (mulL c (cf s) n) (Gf.inv e)) (cf b)))) : St s (n + 1) c' (n + 1 - L) c 1 (mulL c (cf s) n) := by
  obtain ⟨h1, h2⟩ := h.next hd hc'
  rw [show max L (n + 1 - L) = n + 1 - L from by omega] at h1 h2
  exact ⟨h1, h2, hd, Or.inr ⟨n, L, by omega, by omega, h.rc, rfl, by omega⟩⟩
theorem St.ex (s : List E) : ∀ n, ∃ c L b sh e, St s n c L b sh e
  | 0 => ⟨_, _, _, _, _, St.start s⟩
  | n + 1 => by
    obtain ⟨c, L, b, sh, e, h⟩ := St.ex s n
    by_cases hd : mulL c (cf s) n = 0
    · exact ⟨_, _, _, _, _, h.same hd⟩
    · have hle := h.le
      obtain ⟨c', hc'⟩ : ∃ c', cf c' = addF (cf c) (Xn sh (sclF (Gf.mul (mulL c (cf s) n) (Gf.inv e)) (cf b))) := by
        refine ⟨Po.mk (c.length + (sh + b.length)) (addF (cf c) (Xn sh (sclF (Gf.mul (mulL c (cf s) n) (Gf.inv e)) (cf b)))), ?_⟩
        funext i
        rw [cf_mk]
        split
        · rfl
        · show (0 : E) = cf c i ^^^ (if sh ≤ i then Gf.mul _ (cf b (i - sh)) else 0)
          rw [cf_ge (by omega), zx]
          split
          · rw [cf_ge (l := b) (by omega)]; exact (Gf.mul_zero _).symm
          · rfl
      by_cases hl : 2 * L ≤ n
      · exact ⟨_, _, _, _, _, h.grow hd hl hc'⟩
      · exact ⟨_, _, _, _, _, h.keep hd (by omega) hc'⟩
/-- how the least length goes on -/
theorem Least.succ {s : List E} {n L L' : Nat} (h : Least (cf s) n L) (h' : Least (cf s) (n + 1) L') : L' = L ∨ (L < L' ∧ L' = n + 1 - L) := by
  obtain ⟨c, K, b, sh, e, hs⟩ := St.ex s n
  obtain rfl := h.eq hs.least'
  by_cases hd : mulL c (cf s) n = 0
  · exact Or.inl (h'.eq (hs.same hd).least')
  · obtain ⟨c2, K2, b2, sh2, e2, hs2⟩ := St.ex s (n + 1)
    have e3 := h'.eq hs2.least'
    obtain ⟨c', hc'⟩ : ∃ c', cf c' = addF (cf c) (Xn sh (sclF (Gf.mul (mulL c (cf s) n) (Gf.inv e)) (cf b))) := by
      refine ⟨Po.mk (c.length + (sh + b.length)) (addF (cf c) (Xn sh (sclF (Gf.mul (mulL c (cf s) n) (Gf.inv e)) (cf b)))), ?_⟩
      funext i
      rw [cf_mk]
      split
      · rfl
      · show (0 : E) = cf c i ^^^ (if sh ≤ i then Gf.mul _ (cf b (i - sh)) else 0)
        rw [cf_ge (by omega), zx]
        split
        · rw [cf_ge (l := b) (by omega)]; exact (Gf.mul_zero _).symm
        · rfl
    obtain ⟨h1, h2⟩ := hs.next hd hc'
    have e4 := h'.least _ _ h1
    obtain ⟨d, hdr⟩ := h'.ex
    have e5 := h2 d L' hdr
    omega
theorem Least.le {f : Nat → E} {n L : Nat} (h : Least f n L) : L ≤ n := h.least _ _ (one_rec _ n)

/-- a recurrence whose first coefficients fail: the difference of two of the same length, moved down and made monic -/
theorem Rec.unique {c c' : List E} {L n : Nat} {s : List E} (hL : Least (cf s) n L) (h : Rec c L (cf s) n) (h' : Rec c' L (cf s) n) (h2 : 2 * L ≤ n) : cf c = cf c' := by
  by_cases hne : ∃ j, cf c j ≠ cf c' j
  case neg => funext j; exact Classical.byContradiction fun h => hne ⟨j, h⟩
  exfalso
  -- the first place of difference
  obtain ⟨j0, hj0, hmin⟩ : ∃ j0, cf c j0 ≠ cf c' j0 ∧ ∀ j, j < j0 → cf c j = cf c' j := by
    obtain ⟨j, hj⟩ := hne
    induction j using Nat.strongRecOn with
    | ind j ih =>
      by_cases h : ∃ i, i < j ∧ cf c i ≠ cf c' i
      · obtain ⟨i, hi, hn⟩ := h
        exact ih i hi hn
      · exact ⟨j, hj, fun i hi => Classical.byContradiction fun hn => h ⟨i, hi, hn⟩⟩
  have hj1 : 1 ≤ j0 := by
    rcases Nat.eq_zero_or_pos j0 with h0 | h0
    · rw [h0, h.one, h'.one] at hj0; exact (hj0 rfl).elim
    · exact h0
  have hjL : j0 ≤ L := by
    rcases Nat.lt_or_ge L j0 with h0 | h0
    · rw [h.top _ h0, h'.top _ h0] at hj0; exact (hj0 rfl).elim
    · exact h0
  obtain ⟨D, hD⟩ : ∃ D : Nat → E, D = fun i => cf c (i + j0) ^^^ cf c' (i + j0) := ⟨_, rfl⟩
  have hD0 : D 0 ≠ 0 := by rw [hD]; intro e; exact hj0 (xor_eq_zero.1 (by simpa using e))
  obtain ⟨g, hg⟩ : ∃ g : List E, cf g = sclF (Gf.inv (D 0)) D := by
    refine ⟨Po.mk (L + 1) (sclF (Gf.inv (D 0)) D), ?_⟩
    funext i
    rw [cf_mk]
    split
    · rfl
    · show (0 : E) = Gf.mul _ (D i)
      rw [hD]
      simp only []
      rw [h.top (i + j0) (by omega), h'.top (i + j0) (by omega), BitVec.xor_self]
      exact (Gf.mul_zero _).symm
  have hXD : Xn j0 (cf g) = sclF (Gf.inv (D 0)) (addF (cf c) (cf c')) := by
    funext i
    show (if j0 ≤ i then cf g (i - j0) else 0) = Gf.mul _ (cf c i ^^^ cf c' i)
    split
    · rw [hg]
      show Gf.mul _ (D (i - j0)) = _
      rw [hD]
      simp only []
      rw [show i - j0 + j0 = i from by omega]
    · rw [hmin i (by omega), BitVec.xor_self]; exact (Gf.mul_zero _).symm
  have hmul : Xn j0 (mulL g (cf s)) = sclF (Gf.inv (D 0)) (addF (mulL c (cf s)) (mulL c' (cf s))) := by
    rw [mulL_comm g, ← Xn_mulL, hXD, mulL_scl, mulL_add, mulL_comm s c, mulL_comm s c']
  have hrg : Rec g (L - j0) (cf s) (n - j0) := by
    refine ⟨?_, ?_, ?_⟩
    · rw [hg]
      show Gf.mul (Gf.inv (D 0)) (D 0) = 1
      rw [Gf.mul_comm, Gf.mul_inv hD0]
    · intro j hj
      rw [hg]
      show Gf.mul _ (D j) = 0
      rw [hD]
      simp only []
      rw [h.top (j + j0) (by omega), h'.top (j + j0) (by omega), BitVec.xor_self]
      exact Gf.mul_zero _
    · intro i h1 h2
      have e := congrFun hmul (i + j0)
      rw [show Xn j0 (mulL g (cf s)) (i + j0) = mulL g (cf s) i from by show (if j0 ≤ i + j0 then _ else _) = _; rw [if_pos (by omega), Nat.add_sub_cancel]] at e
      rw [e]
      show Gf.mul _ (mulL c (cf s) (i + j0) ^^^ mulL c' (cf s) (i + j0)) = 0
      rw [h.zero (i + j0) (by omega) (by omega), h'.zero (i + j0) (by omega) (by omega), BitVec.xor_self]
      exact Gf.mul_zero _
  -- g must fail somewhere in [n - j0, n)
  have key : ∀ k, n - j0 + k ≤ n → Rec g (L - j0) (cf s) (n - j0 + k) := by
    intro k
    induction k with
    | zero => intro _; exact hrg
    | succ k ih =>
      intro hk
      have hr := ih (by omega)
      by_cases hd : mulL g (cf s) (n - j0 + k) = 0
      · exact hr.step0 hd
      · have := hr.massey hd (h.mono (show n - j0 + k + 1 ≤ n from by omega))
        omega
  have := hL.least _ _ (key j0 (by omega) |>.mono (show n ≤ n - j0 + j0 from by omega))
  omega
end Go.Proofs.Ytamigcbodplmcaa.Ms

/-! elimination over the field, and the system of a recurrence of a given length: pure facts -/
namespace Go.Proofs.Ytamigcbodplmcaa.Ms
open Go.Proofs.Ytamigcbodplmcaa Go.Proofs.Ytamigcbodplmcaa.Po
/-- the sum of r j times x j, j below k -/
def dotN (r x : Nat → E) : Nat → E
  | 0 => 0
  | k + 1 => dotN r x k ^^^ Gf.mul (r k) (x k)
theorem dotN_congr {r q x y : Nat → E} : ∀ k, (∀ j, j < k → r j = q j) → (∀ j, j < k → x j = y j) → dotN r x k = dotN q y k
  | 0, _, _ => rfl
  | k + 1, h, h' => by
    rw [dotN, dotN, dotN_congr k (fun j hj => h j (by omega)) (fun j hj => h' j (by omega)), h k (by omega), h' k (by omega)]
theorem dotN_add (r p x : Nat → E) : ∀ k, dotN (addF r p) x k = dotN r x k ^^^ dotN p x k
  | 0 => (zx 0).symm
  | k + 1 => by
    rw [dotN, dotN, dotN, dotN_add r p x k]
    show (_ ^^^ _) ^^^ Gf.mul (r k ^^^ p k) (x k) = _
    rw [Gf.xor_mul, xor_swap]
theorem dotN_scl (c : E) (p x : Nat → E) : ∀ k, dotN (sclF c p) x k = Gf.mul c (dotN p x k)
  | 0 => (Gf.mul_zero c).symm
  | k + 1 => by
    rw [dotN, dotN, dotN_scl c p x k, Gf.mul_xor]
    show _ ^^^ Gf.mul (Gf.mul c (p k)) (x k) = _
    rw [Gf.mul_assoc]
theorem dotN_zero (r x : Nat → E) : ∀ k, (∀ j, j < k → r j = 0) → dotN r x k = 0
  | 0, _ => rfl
  | k + 1, h => by
    rw [dotN, dotN_zero r x k fun j hj => h j (by omega), h k (by omega), zx]
    exact Gf.zero_mul _
def upd (x : Nat → E) (c : Nat) (v : E) : Nat → E := fun j => if j = c then x j ^^^ v else x j
theorem dotN_upd (p x : Nat → E) (c : Nat) (v : E) : ∀ k, dotN p (upd x c v) k = dotN p x k ^^^ (if c < k then Gf.mul (p c) v else 0)
  | 0 => (xz 0).symm
  | k + 1 => by
    rw [dotN, dotN, dotN_upd p x c v k]
    by_cases h : k = c
    · subst h
      rw [if_neg (Nat.lt_irrefl k), if_pos (Nat.lt_succ_self k), xz]
      unfold upd
      rw [if_pos rfl, Gf.mul_xor, BitVec.xor_assoc]
    · unfold upd
      rw [if_neg h]
      by_cases h2 : c < k
      · rw [if_pos h2, if_pos (by omega), BitVec.xor_assoc, BitVec.xor_assoc, BitVec.xor_comm (Gf.mul (p c) v)]
      · rw [if_neg h2, if_neg (by omega), xz, xz]
/-- the equations of the rows lo to hi-1 have a common solution -/
def Sol (L : Nat) (R : Nat → Nat → E) (lo hi : Nat) : Prop := ∃ x : Nat → E, ∀ i, lo ≤ i → i < hi → dotN (R i) x L = R i L
/-- all entries left of col are 0 in the rows lo to hi-1 -/
def Zc (col : Nat) (R : Nat → Nat → E) (lo hi : Nat) : Prop := ∀ i, lo ≤ i → i < hi → ∀ j, j < col → R i j = 0
def swapR (R : Nat → Nat → E) (u k : Nat) : Nat → Nat → E := fun i => if i = u then R k else if i = k then R u else R i
theorem Sol.swap {L lo hi u k : Nat} {R : Nat → Nat → E} (hu : lo ≤ u ∧ u < hi) (hk : lo ≤ k ∧ k < hi) : Sol L (swapR R u k) lo hi ↔ Sol L R lo hi := by
  constructor
  · rintro ⟨x, hx⟩
    refine ⟨x, fun i h1 h2 => ?_⟩
    by_cases e1 : i = k
    · have := hx u hu.1 hu.2
      rw [show swapR R u k u = R k from if_pos rfl] at this
      rwa [e1]
    · by_cases e2 : i = u
      · have := hx k hk.1 hk.2
        rw [show swapR R u k k = R u from by unfold swapR; by_cases e : k = u; (· rw [if_pos e, e]); (· rw [if_neg e, if_pos rfl])] at this
        rwa [e2]
      · have := hx i h1 h2
        rwa [show swapR R u k i = R i from by unfold swapR; rw [if_neg e2, if_neg e1]] at this
  · rintro ⟨x, hx⟩
    refine ⟨x, fun i h1 h2 => ?_⟩
    unfold swapR
    split
    · exact hx k hk.1 hk.2
    · split
      · exact hx u hu.1 hu.2
      · exact hx i h1 h2
theorem Zc.swap {col lo hi u k : Nat} {R : Nat → Nat → E} (hu : lo ≤ u ∧ u < hi) (hk : lo ≤ k ∧ k < hi) (h : Zc col R lo hi) : Zc col (swapR R u k) lo hi := by
  intro i h1 h2 j hj
  unfold swapR
  split
  · exact h k hk.1 hk.2 j hj
  · split
    · exact h u hu.1 hu.2 j hj
    · exact h i h1 h2 j hj
/-- a row less the pivot's row -/
def elim1 (p r : Nat → E) (col : Nat) : Nat → E := addF r (sclF (Gf.mul (r col) (Gf.inv (p col))) p)
theorem elim1_col {p : Nat → E} (r : Nat → E) {col : Nat} (h : p col ≠ 0) : elim1 p r col col = 0 := by
  show r col ^^^ Gf.mul (Gf.mul (r col) (Gf.inv (p col))) (p col) = 0
  rw [inv_scale h]
  exact BitVec.xor_self
theorem elim1_low {p r : Nat → E} {col j : Nat} (hp : p j = 0) (hr : r j = 0) : elim1 p r col j = 0 := by
  show r j ^^^ Gf.mul _ (p j) = 0
  rw [hp, hr, zx]
  exact Gf.mul_zero _
def elimR (R : Nat → Nat → E) (u col m : Nat) : Nat → Nat → E := fun i => if u < i ∧ i < m then elim1 (R u) (R i) col else R i
theorem Zc.pivot {col u m : Nat} {R : Nat → Nat → E} (h : Zc col R u m) (hu : u < m) (hp : R u col ≠ 0) : Zc (col + 1) (elimR R u col m) (u + 1) m := by
  intro i h1 h2 j hj
  unfold elimR
  rw [if_pos ⟨by omega, h2⟩]
  by_cases e : j = col
  · rw [e]; exact elim1_col _ hp
  · exact elim1_low (h u (Nat.le_refl _) hu j (by omega)) (h i (by omega) h2 j (by omega))
theorem Sol.pivot {L col u m : Nat} {R : Nat → Nat → E} (hu : u < m) (hp : R u col ≠ 0) (hc : col < L) : Sol L (elimR R u col m) (u + 1) m ↔ Sol L R u m := by
  have hel : ∀ i x, dotN (elim1 (R u) (R i) col) x L = dotN (R i) x L ^^^ Gf.mul (Gf.mul (R i col) (Gf.inv (R u col))) (dotN (R u) x L) := fun i x => by
    unfold elim1
    rw [dotN_add, dotN_scl]
  constructor
  · rintro ⟨x, hx⟩
    refine ⟨upd x col (Gf.mul (Gf.inv (R u col)) (R u L ^^^ dotN (R u) x L)), ?_⟩
    have e1 : dotN (R u) (upd x col (Gf.mul (Gf.inv (R u col)) (R u L ^^^ dotN (R u) x L))) L = R u L := by
      rw [dotN_upd, if_pos hc, ← Gf.mul_assoc, Gf.mul_inv hp, show ∀ y, Gf.mul 1 y = y from Gf.one_mul, BitVec.xor_comm, BitVec.xor_assoc, BitVec.xor_self, BitVec.xor_zero]
    intro i h1 h2
    by_cases e : i = u
    · rw [e]; exact e1
    · have h3 := hx i (by omega) h2
      unfold elimR at h3
      rw [if_pos ⟨by omega, h2⟩] at h3
      have h4 : dotN (elim1 (R u) (R i) col) (upd x col (Gf.mul (Gf.inv (R u col)) (R u L ^^^ dotN (R u) x L))) L = elim1 (R u) (R i) col L := by
        rw [dotN_upd, elim1_col _ hp, h3]
        rw [show ∀ y, Gf.mul 0 y = 0 from Gf.zero_mul]
        split <;> exact xz _
      rw [hel, e1] at h4
      have h5 : ∀ a b c : E, a ^^^ c = b ^^^ c → a = b := fun a b c h => by
        have := congrArg (· ^^^ c) h
        simpa [BitVec.xor_assoc] using this
      exact h5 _ _ _ h4
  · rintro ⟨x, hx⟩
    refine ⟨x, fun i h1 h2 => ?_⟩
    unfold elimR
    rw [if_pos ⟨by omega, h2⟩, hel, hx i (by omega) h2, hx u (Nat.le_refl _) hu]
    rfl
theorem Zc.skip {col u m : Nat} {R : Nat → Nat → E} (h : Zc col R u m) (hz : ∀ i, u ≤ i → i < m → R i col = 0) : Zc (col + 1) R u m := by
  intro i h1 h2 j hj
  by_cases e : j = col
  · rw [e]; exact hz i h1 h2
  · exact h i h1 h2 j (by omega)
theorem Sol.last {L u m : Nat} {R : Nat → Nat → E} (h : Zc L R u m) : Sol L R u m ↔ ∀ i, u ≤ i → i < m → R i L = 0 := by
  constructor
  · rintro ⟨x, hx⟩ i h1 h2
    rw [← hx i h1 h2]
    exact dotN_zero _ _ _ (h i h1 h2)
  · intro hz
    exact ⟨fun _ => 0, fun i h1 h2 => by rw [hz i h1 h2]; exact dotN_zero _ _ _ (h i h1 h2)⟩
theorem Sol.congr {L lo hi : Nat} {R R' : Nat → Nat → E} (h : ∀ i, lo ≤ i → i < hi → ∀ j, j ≤ L → R i j = R' i j) : Sol L R lo hi ↔ Sol L R' lo hi := by
  constructor
  · rintro ⟨x, hx⟩
    exact ⟨x, fun i h1 h2 => by rw [← h i h1 h2 L (Nat.le_refl _), ← hx i h1 h2]; exact (dotN_congr L (fun j hj => h i h1 h2 j (by omega)) (fun _ _ => rfl)).symm⟩
  · rintro ⟨x, hx⟩
    exact ⟨x, fun i h1 h2 => by rw [h i h1 h2 L (Nat.le_refl _), ← hx i h1 h2]; exact (dotN_congr L (fun j hj => h i h1 h2 j (by omega)) (fun _ _ => rfl))⟩

/-- the product at i, the first k + 1 coefficients alone -/
theorem mulL_dot {c : List E} (f : Nat → E) {i : Nat} : ∀ k, k < c.length → k ≤ i → mulL (c.take (k + 1)) f i = Gf.mul (cf c 0) (f i) ^^^ dotN (fun j => f (i - 1 - j)) (fun j => cf c (j + 1)) k
  | 0, hk, _ => by
    rw [mulL_take hk]
    show (mulL (c.take 0) f i) ^^^ Xn 0 (sclF (cf c 0) f) i = _
    rw [Xn_zero, List.take_zero]
    show (0 : E) ^^^ Gf.mul _ _ = _ ^^^ (0 : E)
    rw [zx, xz]
  | k + 1, hk, hi => by
    rw [mulL_take hk]
    show (mulL (c.take (k + 1)) f i) ^^^ (if k + 1 ≤ i then Gf.mul (cf c (k + 1)) (f (i - (k + 1))) else 0) = _
    rw [if_pos hi, mulL_dot f k (by omega) (by omega), dotN, ← BitVec.xor_assoc, Gf.mul_comm (cf c (k + 1)), show i - (k + 1) = i - 1 - k from by omega]
/-- the row of element i: what stands before it, backwards, then itself -/
def sysR (f : Nat → E) (L : Nat) : Nat → Nat → E := fun i j => if j < L then f (i + L - 1 - j) else f (i + L)
theorem sys_rec {f : Nat → E} {L n : Nat} : Sol L (sysR f L) 0 (n - L) ↔ ∃ c, Rec c L f n := by
  constructor
  · rintro ⟨x, hx⟩
    obtain ⟨c, hc⟩ : ∃ c, c = Po.mk (L + 1) (fun j => if j = 0 then 1 else x (j - 1)) := ⟨_, rfl⟩
    have hl : c.length = L + 1 := by rw [hc, mk_length]
    have hcf : ∀ j, j ≤ L → cf c j = if j = 0 then 1 else x (j - 1) := fun j hj => by rw [hc, cf_mk, if_pos (by omega)]
    refine ⟨c, by rw [hcf 0 (by omega)]; rfl, fun j hj => cf_ge (by omega), fun i h1 h2 => ?_⟩
    have e := mulL_dot (c := c) f (i := i) L (by omega) h1
    rw [List.take_of_length_le (by omega), hcf 0 (by omega), if_pos rfl] at e
    have e2 := hx (i - L) (Nat.zero_le _) (by omega)
    rw [e, show Gf.mul 1 (f i) = f i from Gf.one_mul _]
    have e3 : sysR f L (i - L) L = f i := by unfold sysR; rw [if_neg (Nat.lt_irrefl _), show i - L + L = i from by omega]
    have e4 : dotN (fun j => f (i - 1 - j)) (fun j => cf c (j + 1)) L = dotN (sysR f L (i - L)) x L := dotN_congr L (fun j hj => by
      unfold sysR
      rw [if_pos hj, show i - L + L - 1 - j = i - 1 - j from by omega]) (fun j hj => by rw [hcf _ (by omega), if_neg (by omega)]; rfl)
    rw [e4, e2, e3]
    exact BitVec.xor_self
  · rintro ⟨c0, h0⟩
    obtain ⟨c, hc⟩ : ∃ c, c = Po.mk (L + 1) (cf c0) := ⟨_, rfl⟩
    have hl : c.length = L + 1 := by rw [hc, mk_length]
    have hcf : cf c = cf c0 := by
      funext j
      rw [hc, cf_mk]
      split
      · rfl
      · exact (h0.top j (by omega)).symm
    refine ⟨fun j => cf c (j + 1), fun i _ h2 => ?_⟩
    have h3 := h0.zero (i + L) (by omega) (by omega)
    have e := mulL_dot (c := c) f (i := i + L) L (by omega) (by omega)
    rw [List.take_of_length_le (by omega), hcf, h0.one, show Gf.mul 1 (f (i + L)) = f (i + L) from Gf.one_mul _] at e
    have e5 : mulL c f (i + L) = 0 := by
      rw [← h3]
      -- the product depends on the coefficients alone
      have : ∀ (g : Nat → E), mulL c g (i + L) = mulL c0 g (i + L) := fun g => by
        have e6 := mulL_congr hcf (Po.mk (i + L + 1) g)
        have e7 : ∀ q, mulL q g (i + L) = mulL q (cf (Po.mk (i + L + 1) g)) (i + L) := fun q => at_congr q _ fun k hk => by rw [cf_mk, if_pos (by omega)]
        rw [e7, e7, e6]
      exact this f
    rw [e5] at e
    have e4 : dotN (fun j => f (i + L - 1 - j)) (fun j => cf c (j + 1)) L = dotN (sysR f L i) (fun j => cf c (j + 1)) L := dotN_congr L (fun j hj => by
      unfold sysR
      rw [if_pos hj]) (fun _ _ => rfl)
    rw [← e4]
    rw [show sysR f L i L = f (i + L) from by unfold sysR; rw [if_neg (Nat.lt_irrefl _)]]
    rw [← hcf] at e
    exact (xor_eq_zero.1 e.symm).symm

/-- what goes on by a recurrence is told by its beginning -/
theorem Rec.det {c : List E} {L n : Nat} {f g : Nat → E} (h : Rec c L f n) (h' : Rec c L g n) (hb : ∀ i, i < L → i < n → f i = g i) : ∀ i, i < n → f i = g i := by
  intro i
  induction i using Nat.strongRecOn with
  | ind i ih =>
    intro hi
    by_cases hl : i < L
    · exact hb i hl hi
    · have e1 := h.zero i (by omega) hi
      have e2 := h'.zero i (by omega) hi
      have e3 : mulL c (addF f g) i = Gf.mul (cf c 0) (addF f g i) := at_head _ _ _ fun j h1 h2 => Or.inr (by
        show f (i - j) ^^^ g (i - j) = 0
        rw [ih (i - j) (by omega) (by omega)]
        exact BitVec.xor_self)
      rw [mulL_add, h.one] at e3
      rw [show addF (mulL c f) (mulL c g) i = mulL c f i ^^^ mulL c g i from rfl, e1, e2, show Gf.mul 1 (addF f g i) = addF f g i from Gf.one_mul _] at e3
      exact xor_eq_zero.1 (by rw [← show addF f g i = f i ^^^ g i from rfl, ← e3]; exact zx 0)
theorem top_len {c : List E} {L : Nat} (h : c.length = L + 1) : ∀ j, L < j → cf c j = 0 := fun j hj => cf_ge (by omega)
/-- what a sequence of n elements that begins so and goes on by c is -/
structure Goes (c b : List E) (n : Nat) (l : List E) : Prop where
  len : l.length = n
  beg : ∀ i, i < b.length → i < n → cf l i = cf b i
  rc : Rec c b.length (cf l) n
theorem Goes.unique {c b l l' : List E} {n : Nat} (h : Goes c b n l) (h' : Goes c b n l') : l = l' :=
  list_ext (by rw [h.len, h'.len]) fun i hi => h.rc.det h'.rc (fun i h1 h2 => by rw [h.beg i h1 h2, h'.beg i h1 h2]) i (by rw [← h.len]; exact hi)
end Go.Proofs.Ytamigcbodplmcaa.Ms
