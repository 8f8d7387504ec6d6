/- elimination over the field, and the system of a recurrence of a given length: pure facts -/
import Derived.Test.YtmjboiaopihjeaaMsM
namespace Go.Proofs.Ytmjboiaopihjeaa.Ms
open Go.Proofs.Ytmjboiaopihjeaa Go.Proofs.Ytmjboiaopihjeaa.Po
/-- the sum of r j times x j, j below k -/
def dotN (r x : Nat → E) : Nat → E
  | 0 => 0
  | k + 1 => dotN r x k ^^^ Gf.mul (r k) (x k)
theorem dotN_congr {r q x y : Nat → E} : ∀ k, (∀ j, j < k → r j = q j) → (∀ j, j < k → x j = y j) → dotN r x k = dotN q y k
  | 0, _, _ => rfl
  | k + 1, h, h' => by
    rw [dotN, dotN, dotN_congr k (fun j hj => h j (by omega)) (fun j hj => h' j (by omega)), h k (by omega), h' k (by omega)]
theorem dotN_add (r p x : Nat → E) : ∀ k, dotN (addF r p) x k = dotN r x k ^^^ dotN p x k
  | 0 => (zx 0).symm
  | k + 1 => by
    rw [dotN, dotN, dotN, dotN_add r p x k]
    show (_ ^^^ _) ^^^ Gf.mul (r k ^^^ p k) (x k) = _
    rw [Gf.xor_mul, xor_swap]
theorem dotN_scl (c : E) (p x : Nat → E) : ∀ k, dotN (sclF c p) x k = Gf.mul c (dotN p x k)
  | 0 => (Gf.mul_zero c).symm
  | k + 1 => by
    rw [dotN, dotN, dotN_scl c p x k, Gf.mul_xor]
    show _ ^^^ Gf.mul (Gf.mul c (p k)) (x k) = _
    rw [Gf.mul_assoc]
theorem dotN_zero (r x : Nat → E) : ∀ k, (∀ j, j < k → r j = 0) → dotN r x k = 0
  | 0, _ => rfl
  | k + 1, h => by
    rw [dotN, dotN_zero r x k fun j hj => h j (by omega), h k (by omega), zx]
    exact Gf.zero_mul _
def upd (x : Nat → E) (c : Nat) (v : E) : Nat → E := fun j => if j = c then x j ^^^ v else x j
theorem dotN_upd (p x : Nat → E) (c : Nat) (v : E) : ∀ k, dotN p (upd x c v) k = dotN p x k ^^^ (if c < k then Gf.mul (p c) v else 0)
  | 0 => (xz 0).symm
  | k + 1 => by
    rw [dotN, dotN, dotN_upd p x c v k]
    by_cases h : k = c
    · subst h
      rw [if_neg (Nat.lt_irrefl k), if_pos (Nat.lt_succ_self k), xz]
      unfold upd
      rw [if_pos rfl, Gf.mul_xor, BitVec.xor_assoc]
    · unfold upd
      rw [if_neg h]
      by_cases h2 : c < k
      · rw [if_pos h2, if_pos (by omega), BitVec.xor_assoc, BitVec.xor_assoc, BitVec.xor_comm (Gf.mul (p c) v)]
      · rw [if_neg h2, if_neg (by omega), xz, xz]
/-- the equations of the rows lo to hi-1 have a common solution -/
def Sol (L : Nat) (R : Nat → Nat → E) (lo hi : Nat) : Prop := ∃ x : Nat → E, ∀ i, lo ≤ i → i < hi → dotN (R i) x L = R i L
/-- all entries left of col are 0 in the rows lo to hi-1 -/
def Zc (col : Nat) (R : Nat → Nat → E) (lo hi : Nat) : Prop := ∀ i, lo ≤ i → i < hi → ∀ j, j < col → R i j = 0
def swapR (R : Nat → Nat → E) (u k : Nat) : Nat → Nat → E := fun i => if i = u then R k else if i = k then R u else R i
theorem Sol.swap {L lo hi u k : Nat} {R : Nat → Nat → E} (hu : lo ≤ u ∧ u < hi) (hk : lo ≤ k ∧ k < hi) : Sol L (swapR R u k) lo hi ↔ Sol L R lo hi := by
  constructor
  · rintro ⟨x, hx⟩
    refine ⟨x, fun i h1 h2 => ?_⟩
    by_cases e1 : i = k
    · have := hx u hu.1 hu.2
      rw [show swapR R u k u = R k from if_pos rfl] at this
      rwa [e1]
    · by_cases e2 : i = u
      · have := hx k hk.1 hk.2
        rw [show swapR R u k k = R u from by unfold swapR; by_cases e : k = u; (· rw [if_pos e, e]); (· rw [if_neg e, if_pos rfl])] at this
        rwa [e2]
      · have := hx i h1 h2
        rwa [show swapR R u k i = R i from by unfold swapR; rw [if_neg e2, if_neg e1]] at this
  · rintro ⟨x, hx⟩
    refine ⟨x, fun i h1 h2 => ?_⟩
    unfold swapR
    split
    · exact hx k hk.1 hk.2
    · split
      · exact hx u hu.1 hu.2
      · exact hx i h1 h2
theorem Zc.swap {col lo hi u k : Nat} {R : Nat → Nat → E} (hu : lo ≤ u ∧ u < hi) (hk : lo ≤ k ∧ k < hi) (h : Zc col R lo hi) : Zc col (swapR R u k) lo hi := by
  intro i h1 h2 j hj
  unfold swapR
  split
  · exact h k hk.1 hk.2 j hj
  · split
    · exact h u hu.1 hu.2 j hj
    · exact h i h1 h2 j hj
/-- a row less the pivot's row -/
def elim1 (p r : Nat → E) (col : Nat) : Nat → E := addF r (sclF (Gf.mul (r col) (Gf.inv (p col))) p)
theorem elim1_col {p : Nat → E} (r : Nat → E) {col : Nat} (h : p col ≠ 0) : elim1 p r col col = 0 := by
  show r col ^^^ Gf.mul (Gf.mul (r col) (Gf.inv (p col))) (p col) = 0
  rw [inv_scale h]
  exact BitVec.xor_self
theorem elim1_low {p r : Nat → E} {col j : Nat} (hp : p j = 0) (hr : r j = 0) : elim1 p r col j = 0 := by
  show r j ^^^ Gf.mul _ (p j) = 0
  rw [hp, hr, zx]
  exact Gf.mul_zero _
def elimR (R : Nat → Nat → E) (u col m : Nat) : Nat → Nat → E := fun i => if u < i ∧ i < m then elim1 (R u) (R i) col else R i
theorem Zc.pivot {col u m : Nat} {R : Nat → Nat → E} (h : Zc col R u m) (hu : u < m) (hp : R u col ≠ 0) : Zc (col + 1) (elimR R u col m) (u + 1) m := by
  intro i h1 h2 j hj
  unfold elimR
  rw [if_pos ⟨by omega, h2⟩]
  by_cases e : j = col
  · rw [e]; exact elim1_col _ hp
  · exact elim1_low (h u (Nat.le_refl _) hu j (by omega)) (h i (by omega) h2 j (by omega))
theorem Sol.pivot {L col u m : Nat} {R : Nat → Nat → E} (hu : u < m) (hp : R u col ≠ 0) (hc : col < L) : Sol L (elimR R u col m) (u + 1) m ↔ Sol L R u m := by
  have hel : ∀ i x, dotN (elim1 (R u) (R i) col) x L = dotN (R i) x L ^^^ Gf.mul (Gf.mul (R i col) (Gf.inv (R u col))) (dotN (R u) x L) := fun i x => by
    unfold elim1
    rw [dotN_add, dotN_scl]
  constructor
  · rintro ⟨x, hx⟩
    refine ⟨upd x col (Gf.mul (Gf.inv (R u col)) (R u L ^^^ dotN (R u) x L)), ?_⟩
    have e1 : dotN (R u) (upd x col (Gf.mul (Gf.inv (R u col)) (R u L ^^^ dotN (R u) x L))) L = R u L := by
      rw [dotN_upd, if_pos hc, ← Gf.mul_assoc, Gf.mul_inv hp, show ∀ y, Gf.mul 1 y = y from Gf.one_mul, BitVec.xor_comm, BitVec.xor_assoc, BitVec.xor_self, BitVec.xor_zero]
    intro i h1 h2
    by_cases e : i = u
    · rw [e]; exact e1
    · have h3 := hx i (by omega) h2
      unfold elimR at h3
      rw [if_pos ⟨by omega, h2⟩] at h3
      have h4 : dotN (elim1 (R u) (R i) col) (upd x col (Gf.mul (Gf.inv (R u col)) (R u L ^^^ dotN (R u) x L))) L = elim1 (R u) (R i) col L := by
        rw [dotN_upd, elim1_col _ hp, h3]
        rw [show ∀ y, Gf.mul 0 y = 0 from Gf.zero_mul]
        split <;> exact xz _
      rw [hel, e1] at h4
      have h5 : ∀ a b c : E, a ^^^ c = b ^^^ c → a = b := fun a b c h => by
        have := congrArg (· ^^^ c) h
        simpa [BitVec.xor_assoc] using this
      exact h5 _ _ _ h4
  · rintro ⟨x, hx⟩
    refine ⟨x, fun i h1 h2 => ?_⟩
    unfold elimR
    rw [if_pos ⟨by omega, h2⟩, hel, hx i (by omega) h2, hx u (Nat.le_refl _) hu]
    rfl
theorem Zc.skip {col u m : Nat} {R : Nat → Nat → E} (h : Zc col R u m) (hz : ∀ i, u ≤ i → i < m → R i col = 0) : Zc (col + 1) R u m := by
  intro i h1 h2 j hj
  by_cases e : j = col
  · rw [e]; exact hz i h1 h2
  · exact h i h1 h2 j (by omega)
theorem Sol.last {L u m : Nat} {R : Nat → Nat → E} (h : Zc L R u m) : Sol L R u m ↔ ∀ i, u ≤ i → i < m → R i L = 0 := by
  constructor
  · rintro ⟨x, hx⟩ i h1 h2
    rw [← hx i h1 h2]
    exact dotN_zero _ _ _ (h i h1 h2)
  · intro hz
    exact ⟨fun _ => 0, fun i h1 h2 => by rw [hz i h1 h2]; exact dotN_zero _ _ _ (h i h1 h2)⟩
theorem Sol.congr {L lo hi : Nat} {R R' : Nat → Nat → E} (h : ∀ i, lo ≤ i → i < hi → ∀ j, j ≤ L → R i j = R' i j) : Sol L R lo hi ↔ Sol L R' lo hi := by
  constructor
  · rintro ⟨x, hx⟩
    exact ⟨x, fun i h1 h2 => by rw [← h i h1 h2 L (Nat.le_refl _), ← hx i h1 h2]; exact (dotN_congr L (fun j hj => h i h1 h2 j (by omega)) (fun _ _ => rfl)).symm⟩
  · rintro ⟨x, hx⟩
    exact ⟨x, fun i h1 h2 => by rw [h i h1 h2 L (Nat.le_refl _), ← hx i h1 h2]; exact (dotN_congr L (fun j hj => h i h1 h2 j (by omega)) (fun _ _ => rfl))⟩

/-- the product at i, the first k + 1 coefficients alone -/
theorem mulL_dot {c : List E} (f : Nat → E) {i : Nat} : ∀ k, k < c.length → k ≤ i → mulL (c.take (k + 1)) f i = Gf.mul (cf c 0) (f i) ^^^ dotN (fun j => f (i - 1 - j)) (fun j => cf c (j + 1)) k
  | 0, hk, _ => by
    rw [mulL_take hk]
    show (mulL (c.take 0) f i) ^^^ Xn 0 (sclF (cf c 0) f) i = _
    rw [Xn_zero, List.take_zero]
    show (0 : E) ^^^ Gf.mul _ _ = _ ^^^ (0 : E)
    rw [zx, xz]
  | k + 1, hk, hi => by
    rw [mulL_take hk]
    show (mulL (c.take (k + 1)) f i) ^^^ (if k + 1 ≤ i then Gf.mul (cf c (k + 1)) (f (i - (k + 1))) else 0) = _
    rw [if_pos hi, mulL_dot f k (by omega) (by omega), dotN, ← BitVec.xor_assoc, Gf.mul_comm (cf c (k + 1)), show i - (k + 1) = i - 1 - k from by omega]
/-- the row of element i: what stands before it, backwards, then itself -/
def sysR (f : Nat → E) (L : Nat) : Nat → Nat → E := fun i j => if j < L then f (i + L - 1 - j) else f (i + L)
theorem sys_rec {f : Nat → E} {L n : Nat} : Sol L (sysR f L) 0 (n - L) ↔ ∃ c, Rec c L f n := by
  constructor
  · rintro ⟨x, hx⟩
    obtain ⟨c, hc⟩ : ∃ c, c = Po.mk (L + 1) (fun j => if j = 0 then 1 else x (j - 1)) := ⟨_, rfl⟩
    have hl : c.length = L + 1 := by rw [hc, mk_length]
    have hcf : ∀ j, j ≤ L → cf c j = if j = 0 then 1 else x (j - 1) := fun j hj => by rw [hc, cf_mk, if_pos (by omega)]
    refine ⟨c, by rw [hcf 0 (by omega)]; rfl, fun j hj => cf_ge (by omega), fun i h1 h2 => ?_⟩
    have e := mulL_dot (c := c) f (i := i) L (by omega) h1
    rw [List.take_of_length_le (by omega), hcf 0 (by omega), if_pos rfl] at e
    have e2 := hx (i - L) (Nat.zero_le _) (by omega)
    rw [e, show Gf.mul 1 (f i) = f i from Gf.one_mul _]
    have e3 : sysR f L (i - L) L = f i := by unfold sysR; rw [if_neg (Nat.lt_irrefl _), show i - L + L = i from by omega]
    have e4 : dotN (fun j => f (i - 1 - j)) (fun j => cf c (j + 1)) L = dotN (sysR f L (i - L)) x L := dotN_congr L (fun j hj => by
      unfold sysR
      rw [if_pos hj, show i - L + L - 1 - j = i - 1 - j from by omega]) (fun j hj => by rw [hcf _ (by omega), if_neg (by omega)]; rfl)
    rw [e4, e2, e3]
    exact BitVec.xor_self
  · rintro ⟨c0, h0⟩
    obtain ⟨c, hc⟩ : ∃ c, c = Po.mk (L + 1) (cf c0) := ⟨_, rfl⟩
    have hl : c.length = L + 1 := by rw [hc, mk_length]
    have hcf : cf c = cf c0 := by
      funext j
      rw [hc, cf_mk]
      split
      · rfl
      · exact (h0.top j (by omega)).symm
    refine ⟨fun j => cf c (j + 1), fun i _ h2 => ?_⟩
    have h3 := h0.zero (i + L) (by omega) (by omega)
    have e := mulL_dot (c := c) f (i := i + L) L (by omega) (by omega)
    rw [List.take_of_length_le (by omega), hcf, h0.one, show Gf.mul 1 (f (i + L)) = f (i + L) from Gf.one_mul _] at e
    have e5 : mulL c f (i + L) = 0 := by
      rw [← h3]
      -- the product depends on the coefficients alone
      have : ∀ (g : Nat → E), mulL c g (i + L) = mulL c0 g (i + L) := fun g => by
        have e6 := mulL_congr hcf (Po.mk (i + L + 1) g)
        have e7 : ∀ q, mulL q g (i + L) = mulL q (cf (Po.mk (i + L + 1) g)) (i + L) := fun q => at_congr q _ fun k hk => by rw [cf_mk, if_pos (by omega)]
        rw [e7, e7, e6]
      exact this f
    rw [e5] at e
    have e4 : dotN (fun j => f (i + L - 1 - j)) (fun j => cf c (j + 1)) L = dotN (sysR f L i) (fun j => cf c (j + 1)) L := dotN_congr L (fun j hj => by
      unfold sysR
      rw [if_pos hj]) (fun _ _ => rfl)
    rw [← e4]
    rw [show sysR f L i L = f (i + L) from by unfold sysR; rw [if_neg (Nat.lt_irrefl _)]]
    rw [← hcf] at e
    exact (xor_eq_zero.1 e.symm).symm

/-- what goes on by a recurrence is told by its beginning -/
theorem Rec.det {c : List E} {L n : Nat} {f g : Nat → E} (h : Rec c L f n) (h' : Rec c L g n) (hb : ∀ i, i < L → i < n → f i = g i) : ∀ i, i < n → f i = g i := by
  intro i
  induction i using Nat.strongRecOn with
  | ind i ih =>
    intro hi
    by_cases hl : i < L
    · exact hb i hl hi
    · have e1 := h.zero i (by omega) hi
      have e2 := h'.zero i (by omega) hi
      have e3 : mulL c (addF f g) i = Gf.mul (cf c 0) (addF f g i) := at_head _ _ _ fun j h1 h2 => Or.inr (by
        show f (i - j) ^^^ g (i - j) = 0
        rw [ih (i - j) (by omega) (by omega)]
        exact BitVec.xor_self)
      rw [mulL_add, h.one] at e3
      rw [show addF (mulL c f) (mulL c g) i = mulL c f i ^^^ mulL c g i from rfl, e1, e2, show Gf.mul 1 (addF f g i) = addF f g i from Gf.one_mul _] at e3
      exact xor_eq_zero.1 (by rw [← show addF f g i = f i ^^^ g i from rfl, ← e3]; exact zx 0)
theorem top_len {c : List E} {L : Nat} (h : c.length = L + 1) : ∀ j, L < j → cf c j = 0 := fun j hj => cf_ge (by omega)
/-- what a sequence of n elements that begins so and goes on by c is -/
structure Goes (c b : List E) (n : Nat) (l : List E) : Prop where
  len : l.length = n
  beg : ∀ i, i < b.length → i < n → cf l i = cf b i
  rc : Rec c b.length (cf l) n
theorem Goes.unique {c b l l' : List E} {n : Nat} (h : Goes c b n l) (h' : Goes c b n l') : l = l' :=
  list_ext (by rw [h.len, h'.len]) fun i hi => h.rc.det h'.rc (fun i h1 h2 => by rw [h.beg i h1 h2, h'.beg i h1 h2]) i (by rw [← h.len]; exact hi)
end Go.Proofs.Ytmjboiaopihjeaa.Ms
