/- the shortest recurrence: pure facts (Massey's lemma, the step, uniqueness) -/
import Derived.Test.YtmjboiaopihjeaaPoM
namespace Go.Proofs.Ytmjboiaopihjeaa.Ms
open Go.Proofs.Ytmjboiaopihjeaa Go.Proofs.Ytmjboiaopihjeaa.Po
theorem Xn_mulL (p : List E) (k : Nat) (f : Nat → E) : mulL p (Xn k f) = Xn k (mulL p f) := by
  induction k with
  | zero => rw [Xn_zero, Xn_zero]
  | succ k ih => rw [Xn_succ, Xn_succ, mulL_X, ih]
theorem at_zero (c : List E) (f : Nat → E) : ∀ n, (∀ j, j ≤ n → cf c j = 0 ∨ f (n - j) = 0) → mulL c f n = 0 := by
  induction c with
  | nil => intro n _; rfl
  | cons a p ih =>
    intro n h
    have h0 := h 0 (Nat.zero_le _)
    rw [cf_zero, Nat.sub_zero] at h0
    have e0 : Gf.mul a (f n) = 0 := by
      rcases h0 with h0 | h0
      · rw [h0]; exact Gf.zero_mul _
      · rw [h0]; exact Gf.mul_zero _
    show Gf.mul a (f n) ^^^ X (mulL p f) n = 0
    rw [e0]
    cases n with
    | zero => exact zx _
    | succ n =>
      show (0 : E) ^^^ mulL p f n = 0
      rw [zx]
      refine ih n fun j hj => ?_
      have := h (j + 1) (by omega)
      rwa [cf_cons, show n + 1 - (j + 1) = n - j from by omega] at this
theorem at_head (c : List E) (f : Nat → E) (n : Nat) (h : ∀ j, 1 ≤ j → j ≤ n → cf c j = 0 ∨ f (n - j) = 0) : mulL c f n = Gf.mul (cf c 0) (f n) := by
  cases c with
  | nil => rw [cf_nil]; exact (Gf.zero_mul _).symm
  | cons a p =>
    show Gf.mul a (f n) ^^^ X (mulL p f) n = Gf.mul (cf (a :: p) 0) (f n)
    rw [cf_zero]
    have : X (mulL p f) n = 0 := by
      cases n with
      | zero => rfl
      | succ n =>
        refine at_zero p f n fun j hj => ?_
        have := h (j + 1) (by omega) (by omega)
        rwa [cf_cons, show n + 1 - (j + 1) = n - j from by omega] at this
    rw [this, xz]
/-- the coefficient depends only on what lies up to it -/
theorem at_congr (c : List E) {f g : Nat → E} : ∀ n, (∀ i, i ≤ n → f i = g i) → mulL c f n = mulL c g n := by
  induction c with
  | nil => intro n _; rfl
  | cons a p ih =>
    intro n h
    show Gf.mul a (f n) ^^^ X (mulL p f) n = Gf.mul a (g n) ^^^ X (mulL p g) n
    rw [h n (Nat.le_refl _)]
    cases n with
    | zero => rfl
    | succ n =>
      show _ ^^^ mulL p f n = _ ^^^ mulL p g n
      rw [ih n fun i hi => h i (by omega)]

/-- c is a recurrence of length L that the first n elements of f keep -/
structure Rec (c : List E) (L : Nat) (f : Nat → E) (n : Nat) : Prop where
  one : cf c 0 = 1
  top : ∀ j, L < j → cf c j = 0
  zero : ∀ i, L ≤ i → i < n → mulL c f i = 0
theorem Rec.mono {c : List E} {L n m : Nat} {f : Nat → E} (h : Rec c L f n) (hm : m ≤ n) : Rec c L f m := ⟨h.one, h.top, fun i h1 h2 => h.zero i h1 (by omega)⟩
theorem Rec.more {c : List E} {L M n : Nat} {f : Nat → E} (h : Rec c L f n) (hm : L ≤ M) : Rec c M f n := ⟨h.one, fun j hj => h.top j (by omega), fun i h1 h2 => h.zero i (by omega) h2⟩
theorem Rec.congr {c : List E} {L n : Nat} {f g : Nat → E} (h : Rec c L f n) (hf : ∀ i, i < n → f i = g i) : Rec c L g n :=
  ⟨h.one, h.top, fun i h1 h2 => by rw [← h.zero i h1 h2]; exact at_congr c i fun k hk => (hf k (by omega)).symm⟩
theorem Rec.triv (c : List E) (L : Nat) (f : Nat → E) {n : Nat} (h1 : cf c 0 = 1) (ht : ∀ j, L < j → cf c j = 0) (hn : n ≤ L) : Rec c L f n := ⟨h1, ht, fun i h1 h2 => by omega⟩
theorem Rec.step0 {c : List E} {L n : Nat} {f : Nat → E} (h : Rec c L f n) (hd : mulL c f n = 0) : Rec c L f (n + 1) :=
  ⟨h.one, h.top, fun i h1 h2 => by
    by_cases hi : i = n
    · rw [hi]; exact hd
    · exact h.zero i h1 (by omega)⟩
/-- Massey's lemma -/
theorem Rec.massey {c c' : List E} {L L' n : Nat} {f : Nat → E} (h : Rec c L f n) (hd : mulL c f n ≠ 0) (h' : Rec c' L' f (n + 1)) : n + 1 ≤ L + L' := by
  rcases Nat.lt_or_ge n (L + L') with hlt | hge
  · omega
  · exfalso
    have e := congrFun (mulL_swap c' c f) n
    have e1 : mulL c' (mulL c f) n = Gf.mul (cf c' 0) (mulL c f n) := by
      refine at_head _ _ _ fun j h1 h2 => ?_
      by_cases hj : L' < j
      · exact Or.inl (h'.top j hj)
      · exact Or.inr (h.zero (n - j) (by omega) (by omega))
    have e2 : mulL c (mulL c' f) n = 0 := by
      refine at_zero _ _ _ fun j h2 => ?_
      by_cases hj : L < j
      · exact Or.inl (h.top j hj)
      · exact Or.inr (h'.zero (n - j) (by omega) (by omega))
    rw [e1, e2, h'.one] at e
    rw [show Gf.mul 1 (mulL c f n) = mulL c f n from Gf.one_mul _] at e
    exact hd e
/-- the least length -/
structure Least (f : Nat → E) (n L : Nat) : Prop where
  ex : ∃ c, Rec c L f n
  least : ∀ c' L', Rec c' L' f n → L ≤ L'
theorem Least.eq {f : Nat → E} {n L M : Nat} (h : Least f n L) (h' : Least f n M) : L = M := by
  obtain ⟨c, hc⟩ := h.ex
  obtain ⟨d, hd⟩ := h'.ex
  exact Nat.le_antisymm (h.least _ _ hd) (h'.least _ _ hc)
theorem cf_one1 : cf [(1 : E)] = oneF := by
  funext i
  cases i with
  | zero => rw [cf_zero]; rfl
  | succ i => rw [cf_cons, cf_nil]; rfl
theorem one_rec (f : Nat → E) (n : Nat) : Rec [1] n f n := Rec.triv _ _ _ (by rw [cf_one1]; rfl) (fun j hj => by rw [cf_one1]; show (if j = 0 then (1 : E) else 0) = 0; rw [if_neg (by omega)]) (Nat.le_refl _)
theorem Least.ofn (f : Nat → E) (n : Nat) : ∃ L, Least f n L ∧ L ≤ n := by
  suffices h : ∀ k, (∃ c, Rec c k f n) → ∃ L, Least f n L ∧ L ≤ k by exact h n ⟨_, one_rec f n⟩
  intro k
  induction k using Nat.strongRecOn with
  | ind k ih =>
    intro hk
    by_cases h : ∃ j, j < k ∧ ∃ c, Rec c j f n
    · obtain ⟨j, hj, hc⟩ := h
      obtain ⟨L, hL, hle⟩ := ih j hj hc
      exact ⟨L, hL, by omega⟩
    · exact ⟨k, ⟨hk, fun c' L' hr => by
        rcases Nat.lt_or_ge L' k with h1 | h1
        · exact (h ⟨L', h1, c', hr⟩).elim
        · exact h1⟩, Nat.le_refl _⟩
theorem Least.congr {f g : Nat → E} {n L : Nat} (h : Least f n L) (hf : ∀ i, i < n → f i = g i) : Least g n L := by
  obtain ⟨c, hc⟩ := h.ex
  exact ⟨⟨c, hc.congr hf⟩, fun c' L' h' => h.least c' L' (h'.congr fun i hi => (hf i hi).symm)⟩

/-- one step of the search: c keeps n, b kept m < n and failed there -/
theorem Rec.step {c b c' : List E} {L M n m : Nat} {s : List E} {k : E} (hc : Rec c L (cf s) n) (hb : Rec b M (cf s) m) (hm : m < n)
    (hk : Gf.mul k (mulL b (cf s) m) = mulL c (cf s) n) (hc' : cf c' = addF (cf c) (Xn (n - m) (sclF k (cf b)))) :
    Rec c' (max L (M + (n - m))) (cf s) (n + 1) := by
  have hmul : mulL c' (cf s) = addF (mulL c (cf s)) (Xn (n - m) (sclF k (mulL b (cf s)))) := by
    rw [mulL_comm, hc', mulL_add, Xn_mulL, mulL_scl, mulL_comm s c, mulL_comm s b]
  refine ⟨?_, ?_, ?_⟩
  · rw [hc']
    show cf c 0 ^^^ (if n - m ≤ 0 then _ else 0) = 1
    rw [if_neg (by omega), xz, hc.one]
  · intro j hj
    rw [hc']
    show cf c j ^^^ (if n - m ≤ j then Gf.mul k (cf b (j - (n - m))) else 0) = 0
    rw [hc.top j (by omega), zx, if_pos (by omega), hb.top _ (by omega)]
    exact Gf.mul_zero _
  · intro i h1 h2
    rw [hmul]
    show mulL c (cf s) i ^^^ (if n - m ≤ i then Gf.mul k (mulL b (cf s) (i - (n - m))) else 0) = 0
    rw [if_pos (by omega)]
    by_cases hi : i = n
    · rw [hi, show n - (n - m) = m from by omega, hk]
      exact BitVec.xor_self
    · rw [hc.zero i (by omega) (by omega), zx, hb.zero _ (by omega) (by omega)]
      exact Gf.mul_zero _
theorem inv_scale {d e : E} (he : e ≠ 0) : Gf.mul (Gf.mul d (Gf.inv e)) e = d := by
  rw [Gf.mul_assoc, Gf.mul_comm (Gf.inv e), Gf.mul_inv he]
  exact Gf.mul_one d

/-- what the search holds before element n: c, L; b, at its failing place: shift sh, value e -/
structure St (s : List E) (n : Nat) (c : List E) (L : Nat) (b : List E) (sh : Nat) (e : E) : Prop where
  rc : Rec c L (cf s) n
  least : ∀ c' L', Rec c' L' (cf s) n → L ≤ L'
  ne : e ≠ 0
  prev : (L = 0 ∧ sh = n + 1 ∧ b = [1]) ∨ ∃ m M, m < n ∧ sh = n - m ∧ Rec b M (cf s) m ∧ mulL b (cf s) m = e ∧ L + M = m + 1
theorem St.start (s : List E) : St s 0 [1] 0 [1] 1 1 :=
  ⟨one_rec _ _, fun _ _ _ => Nat.zero_le _, by decide, Or.inl ⟨rfl, rfl, rfl⟩⟩
theorem St.least' {s c b : List E} {n L sh : Nat} {e : E} (h : St s n c L b sh e) : Least (cf s) n L := ⟨⟨c, h.rc⟩, h.least⟩
theorem St.le {s c b : List E} {n L sh : Nat} {e : E} (h : St s n c L b sh e) : L ≤ n := h.least _ _ (one_rec _ n)
theorem St.same {s c b : List E} {n L sh : Nat} {e : E} (h : St s n c L b sh e) (hd : mulL c (cf s) n = 0) : St s (n + 1) c L b (sh + 1) e :=
  ⟨h.rc.step0 hd, fun c' L' h' => h.least c' L' (h'.mono (by omega)), h.ne, by
    rcases h.prev with ⟨h1, h2, h3⟩ | ⟨m, M, h1, h2, h3, h4, h5⟩
    · exact Or.inl ⟨h1, by omega, h3⟩
    · exact Or.inr ⟨m, M, by omega, by omega, h3, h4, h5⟩⟩
/-- the next recurrence, and its least length -/
theorem St.next {s c b c' : List E} {n L sh : Nat} {e : E} (h : St s n c L b sh e) (hd : mulL c (cf s) n ≠ 0)
    (hc' : cf c' = addF (cf c) (Xn sh (sclF (Gf.mul (mulL c (cf s) n) (Gf.inv e)) (cf b)))) :
    Rec c' (max L (n + 1 - L)) (cf s) (n + 1) ∧ ∀ d M, Rec d M (cf s) (n + 1) → max L (n + 1 - L) ≤ M := by
  refine ⟨?_, fun d M hr => ?_⟩
  · have hle := h.le
    rcases h.prev with ⟨h1, h2, h3⟩ | ⟨m, M, h1, h2, h3, h4, h5⟩
    · subst h1 h2 h3
      refine Rec.triv _ _ _ ?_ ?_ (by omega)
      · rw [hc']
        show cf c 0 ^^^ (if n + 1 ≤ 0 then _ else 0) = 1
        rw [if_neg (by omega), xz, h.rc.one]
      · intro j hj
        rw [hc']
        show cf c j ^^^ (if n + 1 ≤ j then Gf.mul _ (cf [1] (j - (n + 1))) else 0) = 0
        rw [h.rc.top j (by omega), zx, if_pos (by omega), cf_one1]
        show Gf.mul _ (if j - (n + 1) = 0 then (1 : E) else 0) = 0
        rw [if_neg (by omega)]
        exact Gf.mul_zero _
    · subst h2
      have := h.rc.step (k := Gf.mul (mulL c (cf s) n) (Gf.inv e)) h3 h1 (by rw [h4]; exact inv_scale h.ne) hc'
      rwa [show M + (n - m) = n + 1 - L from by omega] at this
  · have e1 := h.rc.massey hd hr
    have e2 := h.least d M (hr.mono (by omega))
    omega
theorem St.keep {s c b c' : List E} {n L sh : Nat} {e : E} (h : St s n c L b sh e) (hd : mulL c (cf s) n ≠ 0) (hl : n < 2 * L)
    (hc' : cf c' = addF (cf c) (Xn sh (sclF (Gf.mul (mulL c (cf s) n) (Gf.inv e)) (cf b)))) : St s (n + 1) c' L b (sh + 1) e := by
  obtain ⟨h1, h2⟩ := h.next hd hc'
  rw [show max L (n + 1 - L) = L from by omega] at h1 h2
  refine ⟨h1, h2, h.ne, ?_⟩
  rcases h.prev with ⟨g1, g2, g3⟩ | ⟨m, M, g1, g2, g3, g4, g5⟩
  · omega
  · exact Or.inr ⟨m, M, by omega, by omega, g3, g4, g5⟩
theorem St.grow {s c b c' : List E} {n L sh : Nat} {e : E} (h : St s n c L b sh e) (hd : mulL c (cf s) n ≠ 0) (hl : 2 * L ≤ n)
    (hc' : cf c' = addF (cf c) (Xn sh (sclF (Gf.mul (mulL c (cf s) n) (Gf.inv e)) (cf b)))) : St s (n + 1) c' (n + 1 - L) c 1 (mulL c (cf s) n) := by
  obtain ⟨h1, h2⟩ := h.next hd hc'
  rw [show max L (n + 1 - L) = n + 1 - L from by omega] at h1 h2
  exact ⟨h1, h2, hd, Or.inr ⟨n, L, by omega, by omega, h.rc, rfl, by omega⟩⟩
theorem St.ex (s : List E) : ∀ n, ∃ c L b sh e, St s n c L b sh e
  | 0 => ⟨_, _, _, _, _, St.start s⟩
  | n + 1 => by
    obtain ⟨c, L, b, sh, e, h⟩ := St.ex s n
    by_cases hd : mulL c (cf s) n = 0
    · exact ⟨_, _, _, _, _, h.same hd⟩
    · have hle := h.le
      obtain ⟨c', hc'⟩ : ∃ c', cf c' = addF (cf c) (Xn sh (sclF (Gf.mul (mulL c (cf s) n) (Gf.inv e)) (cf b))) := by
        refine ⟨Po.mk (c.length + (sh + b.length)) (addF (cf c) (Xn sh (sclF (Gf.mul (mulL c (cf s) n) (Gf.inv e)) (cf b)))), ?_⟩
        funext i
        rw [cf_mk]
        split
        · rfl
        · show (0 : E) = cf c i ^^^ (if sh ≤ i then Gf.mul _ (cf b (i - sh)) else 0)
          rw [cf_ge (by omega), zx]
          split
          · rw [cf_ge (l := b) (by omega)]; exact (Gf.mul_zero _).symm
          · rfl
      by_cases hl : 2 * L ≤ n
      · exact ⟨_, _, _, _, _, h.grow hd hl hc'⟩
      · exact ⟨_, _, _, _, _, h.keep hd (by omega) hc'⟩
/-- how the least length goes on -/
theorem Least.succ {s : List E} {n L L' : Nat} (h : Least (cf s) n L) (h' : Least (cf s) (n + 1) L') : L' = L ∨ (L < L' ∧ L' = n + 1 - L) := by
  obtain ⟨c, K, b, sh, e, hs⟩ := St.ex s n
  obtain rfl := h.eq hs.least'
  by_cases hd : mulL c (cf s) n = 0
  · exact Or.inl (h'.eq (hs.same hd).least')
  · obtain ⟨c2, K2, b2, sh2, e2, hs2⟩ := St.ex s (n + 1)
    have e3 := h'.eq hs2.least'
    obtain ⟨c', hc'⟩ : ∃ c', cf c' = addF (cf c) (Xn sh (sclF (Gf.mul (mulL c (cf s) n) (Gf.inv e)) (cf b))) := by
      refine ⟨Po.mk (c.length + (sh + b.length)) (addF (cf c) (Xn sh (sclF (Gf.mul (mulL c (cf s) n) (Gf.inv e)) (cf b)))), ?_⟩
      funext i
      rw [cf_mk]
      split
      · rfl
      · show (0 : E) = cf c i ^^^ (if sh ≤ i then Gf.mul _ (cf b (i - sh)) else 0)
        rw [cf_ge (by omega), zx]
        split
        · rw [cf_ge (l := b) (by omega)]; exact (Gf.mul_zero _).symm
        · rfl
    obtain ⟨h1, h2⟩ := hs.next hd hc'
    have e4 := h'.least _ _ h1
    obtain ⟨d, hdr⟩ := h'.ex
    have e5 := h2 d L' hdr
    omega
theorem Least.le {f : Nat → E} {n L : Nat} (h : Least f n L) : L ≤ n := h.least _ _ (one_rec _ n)

/-- a recurrence whose first coefficients fail: the difference of two of the same length, moved down and made monic -/
theorem Rec.unique {c c' : List E} {L n : Nat} {s : List E} (hL : Least (cf s) n L) (h : Rec c L (cf s) n) (h' : Rec c' L (cf s) n) (h2 : 2 * L ≤ n) : cf c = cf c' := by
  by_cases hne : ∃ j, cf c j ≠ cf c' j
  case neg => funext j; exact Classical.byContradiction fun h => hne ⟨j, h⟩
  exfalso
  -- the first place of difference
  obtain ⟨j0, hj0, hmin⟩ : ∃ j0, cf c j0 ≠ cf c' j0 ∧ ∀ j, j < j0 → cf c j = cf c' j := by
    obtain ⟨j, hj⟩ := hne
    induction j using Nat.strongRecOn with
    | ind j ih =>
      by_cases h : ∃ i, i < j ∧ cf c i ≠ cf c' i
      · obtain ⟨i, hi, hn⟩ := h
        exact ih i hi hn
      · exact ⟨j, hj, fun i hi => Classical.byContradiction fun hn => h ⟨i, hi, hn⟩⟩
  have hj1 : 1 ≤ j0 := by
    rcases Nat.eq_zero_or_pos j0 with h0 | h0
    · rw [h0, h.one, h'.one] at hj0; exact (hj0 rfl).elim
    · exact h0
  have hjL : j0 ≤ L := by
    rcases Nat.lt_or_ge L j0 with h0 | h0
    · rw [h.top _ h0, h'.top _ h0] at hj0; exact (hj0 rfl).elim
    · exact h0
  obtain ⟨D, hD⟩ : ∃ D : Nat → E, D = fun i => cf c (i + j0) ^^^ cf c' (i + j0) := ⟨_, rfl⟩
  have hD0 : D 0 ≠ 0 := by rw [hD]; intro e; exact hj0 (xor_eq_zero.1 (by simpa using e))
  obtain ⟨g, hg⟩ : ∃ g : List E, cf g = sclF (Gf.inv (D 0)) D := by
    refine ⟨Po.mk (L + 1) (sclF (Gf.inv (D 0)) D), ?_⟩
    funext i
    rw [cf_mk]
    split
    · rfl
    · show (0 : E) = Gf.mul _ (D i)
      rw [hD]
      simp only []
      rw [h.top (i + j0) (by omega), h'.top (i + j0) (by omega), BitVec.xor_self]
      exact (Gf.mul_zero _).symm
  have hXD : Xn j0 (cf g) = sclF (Gf.inv (D 0)) (addF (cf c) (cf c')) := by
    funext i
    show (if j0 ≤ i then cf g (i - j0) else 0) = Gf.mul _ (cf c i ^^^ cf c' i)
    split
    · rw [hg]
      show Gf.mul _ (D (i - j0)) = _
      rw [hD]
      simp only []
      rw [show i - j0 + j0 = i from by omega]
    · rw [hmin i (by omega), BitVec.xor_self]; exact (Gf.mul_zero _).symm
  have hmul : Xn j0 (mulL g (cf s)) = sclF (Gf.inv (D 0)) (addF (mulL c (cf s)) (mulL c' (cf s))) := by
    rw [mulL_comm g, ← Xn_mulL, hXD, mulL_scl, mulL_add, mulL_comm s c, mulL_comm s c']
  have hrg : Rec g (L - j0) (cf s) (n - j0) := by
    refine ⟨?_, ?_, ?_⟩
    · rw [hg]
      show Gf.mul (Gf.inv (D 0)) (D 0) = 1
      rw [Gf.mul_comm, Gf.mul_inv hD0]
    · intro j hj
      rw [hg]
      show Gf.mul _ (D j) = 0
      rw [hD]
      simp only []
      rw [h.top (j + j0) (by omega), h'.top (j + j0) (by omega), BitVec.xor_self]
      exact Gf.mul_zero _
    · intro i h1 h2
      have e := congrFun hmul (i + j0)
      rw [show Xn j0 (mulL g (cf s)) (i + j0) = mulL g (cf s) i from by show (if j0 ≤ i + j0 then _ else _) = _; rw [if_pos (by omega), Nat.add_sub_cancel]] at e
      rw [e]
      show Gf.mul _ (mulL c (cf s) (i + j0) ^^^ mulL c' (cf s) (i + j0)) = 0
      rw [h.zero (i + j0) (by omega) (by omega), h'.zero (i + j0) (by omega) (by omega), BitVec.xor_self]
      exact Gf.mul_zero _
  -- g must fail somewhere in [n - j0, n)
  have key : ∀ k, n - j0 + k ≤ n → Rec g (L - j0) (cf s) (n - j0 + k) := by
    intro k
    induction k with
    | zero => intro _; exact hrg
    | succ k ih =>
      intro hk
      have hr := ih (by omega)
      by_cases hd : mulL g (cf s) (n - j0 + k) = 0
      · exact hr.step0 hd
      · have := hr.massey hd (h.mono (show n - j0 + k + 1 ≤ n from by omega))
        omega
  have := hL.least _ _ (key j0 (by omega) |>.mono (show n ≤ n - j0 + j0 from by omega))
  omega
end Go.Proofs.Ytmjboiaopihjeaa.Ms
