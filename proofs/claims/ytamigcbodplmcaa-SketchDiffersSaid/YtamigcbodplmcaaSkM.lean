/- Sums of powers, and which sets have them: pure facts. Nothing of the program. -/
import Derived.Test.YtamigcbodplmcaaRoT
import Derived.Test.YtamigcbodplmcaaMz
namespace Go.Proofs.Ytamigcbodplmcaa.Sk
open Go.Proofs.Ytamigcbodplmcaa Go.Proofs.Ytamigcbodplmcaa.Po
/-- the sum of f over a list -/
def S (f : E → E) : List E → E
  | [] => 0
  | x :: l => f x ^^^ S f l
theorem S_append (f : E → E) : ∀ l m, S f (l ++ m) = S f l ^^^ S f m
  | [], m => (zx _).symm
  | x :: l, m => by
    show f x ^^^ S f (l ++ m) = (f x ^^^ S f l) ^^^ S f m
    rw [S_append f l m, BitVec.xor_assoc]
theorem S_perm (f : E → E) {l m : List E} (h : l.Perm m) : S f l = S f m := by
  induction h with
  | nil => rfl
  | cons x _ ih => show _ ^^^ _ = _ ^^^ _; rw [ih]
  | swap x y l => show f y ^^^ (f x ^^^ S f l) = f x ^^^ (f y ^^^ S f l); rw [← BitVec.xor_assoc, ← BitVec.xor_assoc, BitVec.xor_comm (f y)]
  | trans _ _ h1 h2 => exact h1.trans h2
theorem S_congr {f g : E → E} : ∀ {l : List E}, (∀ x, x ∈ l → f x = g x) → S f l = S g l
  | [], _ => rfl
  | x :: l, h => by
    show _ ^^^ _ = _ ^^^ _
    rw [h x (List.mem_cons_self ..), S_congr fun y hy => h y (List.mem_cons_of_mem _ hy)]
theorem S_zero : ∀ (l : List E), S (fun _ => 0) l = 0
  | [] => rfl
  | _ :: l => by show 0 ^^^ S _ l = 0; rw [S_zero l]; rfl
theorem S_add (f g : E → E) : ∀ l, S (fun x => f x ^^^ g x) l = S f l ^^^ S g l
  | [] => (zx 0).symm
  | x :: l => by
    show (f x ^^^ g x) ^^^ S _ l = (f x ^^^ S f l) ^^^ (g x ^^^ S g l)
    rw [S_add f g l]
    ac_rfl
theorem S_scl (c : E) (f : E → E) : ∀ l, S (fun x => Gf.mul c (f x)) l = Gf.mul c (S f l)
  | [] => (Gf.mul_zero c).symm
  | x :: l => by
    show Gf.mul c (f x) ^^^ S _ l = Gf.mul c (f x ^^^ S f l)
    rw [S_scl c f l]
    exact (Gf.mul_xor _ _ _).symm
theorem S_one {f : E → E} {a : E} : ∀ {l : List E}, l.Nodup → a ∈ l → (∀ x, x ∈ l → x ≠ a → f x = 0) → S f l = f a
  | [], _, h, _ => by cases h
  | x :: l, hn, ha, hz => by
    obtain ⟨h1, h2⟩ := List.nodup_cons.1 hn
    show f x ^^^ S f l = f a
    rcases List.mem_cons.1 ha with e | e
    · subst e
      have : S f l = 0 := by
        rw [S_congr (g := fun _ => 0) fun y hy => hz y (List.mem_cons_of_mem _ hy) fun e => h1 (e ▸ hy)]
        exact S_zero l
      rw [this]
      exact xz _
    · rw [hz x (List.mem_cons_self ..) fun e2 => h1 (e2 ▸ e), S_one h2 e fun y hy => hz y (List.mem_cons_of_mem _ hy)]
      exact zx _
/-- weights whose moments are 0 are 0 -/
theorem moments {w : E → E} {l : List E} (h : ∀ j, j < l.length → S (fun x => Gf.mul (w x) (Gf.pow x j)) l = 0) : ∀ (p : List E) (i : Nat), i + p.length ≤ l.length → S (fun x => Gf.mul (w x) (Gf.mul (Gf.pow x i) (ev p x))) l = 0
  | [], i, _ => by
    rw [S_congr (g := fun _ => 0) fun x _ => by
      show Gf.mul (w x) (Gf.mul (Gf.pow x i) 0) = 0
      rw [show Gf.mul (Gf.pow x i) 0 = 0 from Gf.mul_zero _]; exact Gf.mul_zero _]
    exact S_zero l
  | c :: p, i, hi => by
    have h1 : ∀ x, Gf.mul (w x) (Gf.mul (Gf.pow x i) (ev (c :: p) x)) = Gf.mul c (Gf.mul (w x) (Gf.pow x i)) ^^^ Gf.mul (w x) (Gf.mul (Gf.pow x (i + 1)) (ev p x)) := fun x => by
      show Gf.mul (w x) (Gf.mul (Gf.pow x i) (c ^^^ Gf.mul x (ev p x))) = _
      rw [Gf.mul_xor, Gf.mul_xor, Gf.pow]
      congr 1
      · rw [← Gf.mul_assoc, Gf.mul_comm _ c]
      · rw [← Gf.mul_assoc (Gf.pow x i), Gf.mul_comm (Gf.pow x i) x]
    rw [S_congr fun x _ => h1 x, S_add, S_scl, h i (by simp at hi; omega), moments h p (i + 1) (by simp at hi; omega)]
    rw [show Gf.mul c 0 = 0 from Gf.mul_zero _]
    rfl
theorem vander {w : E → E} {l : List E} (hn : l.Nodup) (h : ∀ j, j < l.length → S (fun x => Gf.mul (w x) (Gf.pow x j)) l = 0) : ∀ a, a ∈ l → w a = 0 := by
  intro a ha
  have hlen : (l.erase a).length + 1 = l.length := by
    rw [List.length_erase_of_mem ha]
    have := List.length_pos_of_mem ha
    omega
  have h1 := moments h (fromL (l.erase a)) 0 (by rw [(fromL_all _).1]; omega)
  have h2 : S (fun x => Gf.mul (w x) (Gf.mul (Gf.pow x 0) (ev (fromL (l.erase a)) x))) l = Gf.mul (w a) (Gf.mul (Gf.pow a 0) (ev (fromL (l.erase a)) a)) := S_one hn ha fun x hx hxa => by
    have : ev (fromL (l.erase a)) x = 0 := mem_fromL.2 ((List.mem_erase_of_ne hxa).2 hx)
    rw [this, show Gf.mul (Gf.pow x 0) 0 = 0 from Gf.mul_zero _]
    exact Gf.mul_zero _
  rw [h2] at h1
  rcases Gf.no_divisors h1 with e | e
  · exact e
  · rcases Gf.no_divisors e with e2 | e2
    · exact absurd (show (1 : E) = 0 from e2) (by decide)
    · exact absurd (mem_fromL.1 e2) (hn.not_mem_erase)
/-- the sum of the powers to k -/
def ps (l : List E) (k : Nat) : E := S (fun x => Gf.pow x k) l
theorem ps_double (l : List E) (k : Nat) : ps l (2 * k) = Gf.square (ps l k) := by
  unfold ps
  induction l with
  | nil => show (0 : E) = Gf.square 0; decide
  | cons x l ih =>
    show Gf.pow x (2 * k) ^^^ S _ l = Gf.square (Gf.pow x k ^^^ S _ l)
    rw [Gf.lin_square, ih, Gf.square_eq (Gf.pow x k), show 2 * k = k + k from by omega, Gf.pow_add]
/-- a list whose odd powers' sums are 0 up to twice its length is none -/
theorem odd_none {l : List E} {c : Nat} (hn : l.Nodup) (h0 : ∀ x, x ∈ l → x ≠ 0) (hl : l.length ≤ 2 * c) (h : ∀ k, k < c → ps l (2 * k + 1) = 0) : l = [] := by
  have hall : ∀ k, 1 ≤ k → k ≤ 2 * c → ps l k = 0 := by
    intro k
    induction k using Nat.strongRecOn with
    | ind k ih =>
      intro h1 h2
      by_cases e : k % 2 = 0
      · rw [show k = 2 * (k / 2) from by omega, ps_double, ih (k / 2) (by omega) (by omega) (by omega)]
        decide
      · rw [show k = 2 * (k / 2) + 1 from by omega]
        exact h (k / 2) (by omega)
  have hv := vander (w := fun x => x) hn fun j hj => by
    have h1 := hall (j + 1) (by omega) (by omega)
    unfold ps at h1
    rw [← h1]
    exact S_congr fun x _ => by rw [Gf.pow, Gf.mul_comm]
  cases l with
  | nil => rfl
  | cons x l => exact absurd (hv x (List.mem_cons_self ..)) (h0 x (List.mem_cons_self ..))
/-- a set with these sums -/
structure Is (l A : List E) : Prop where
  srt : Srt A
  ne : ∀ x, x ∈ A → x ≠ 0
  le : A.length ≤ l.length
  sums : ∀ k, k < l.length → ps A (2 * k + 1) = cf l k
/-- the elements of just one of two -/
def dif (A B : List E) : List E := A.filter (fun x => decide (x ∉ B)) ++ B.filter (fun x => decide (x ∉ A))
theorem dif_mem {A B : List E} {x : E} : x ∈ dif A B ↔ (x ∈ A ∧ x ∉ B) ∨ (x ∈ B ∧ x ∉ A) := by
  unfold dif
  rw [List.mem_append, List.mem_filter, List.mem_filter, decide_eq_true_iff, decide_eq_true_iff]
theorem dif_nodup {A B : List E} (hA : A.Nodup) (hB : B.Nodup) : (dif A B).Nodup := by
  unfold dif
  refine List.nodup_append.2 ⟨hA.filter _, hB.filter _, fun a ha b hb e => ?_⟩
  have h1 := (List.mem_filter.1 ha).2
  have h2 := (List.mem_filter.1 hb).1
  rw [decide_eq_true_iff] at h1
  exact h1 (e ▸ h2)
theorem dif_len (A B : List E) : (dif A B).length ≤ A.length + B.length := by
  unfold dif
  rw [List.length_append]
  exact Nat.add_le_add (List.length_filter_le _ _) (List.length_filter_le _ _)
theorem filter_split (p : E → Bool) (f : E → E) : ∀ l : List E, S f l = S f (l.filter p) ^^^ S f (l.filter fun x => !p x)
  | [] => (zx 0).symm
  | x :: l => by
    rw [List.filter_cons, List.filter_cons]
    show f x ^^^ S f l = _
    rw [filter_split p f l]
    cases h : p x
    · show _ = S f (l.filter p) ^^^ (f x ^^^ S f _)
      ac_rfl
    · show _ = (f x ^^^ S f (l.filter p)) ^^^ S f _
      ac_rfl
theorem dif_sum {A B : List E} (hA : A.Nodup) (hB : B.Nodup) (f : E → E) : S f (dif A B) = S f A ^^^ S f B := by
  unfold dif
  rw [S_append, filter_split (fun x => decide (x ∉ B)) f A, filter_split (fun x => decide (x ∉ A)) f B]
  have hp : (A.filter fun x => !decide (x ∉ B)).Perm (B.filter fun x => !decide (x ∉ A)) := by
    refine (List.perm_ext_iff_of_nodup (hA.filter _) (hB.filter _)).2 fun x => ?_
    rw [List.mem_filter, List.mem_filter]
    simp only [decide_not, Bool.not_not, decide_eq_true_eq]
    exact ⟨fun h => ⟨h.2, h.1⟩, fun h => ⟨h.2, h.1⟩⟩
  rw [S_perm f hp]
  generalize S f (A.filter _) = a
  generalize S f (B.filter fun x => decide (x ∉ A)) = b
  generalize S f (B.filter fun x => !decide (x ∉ A)) = c
  rw [show (a ^^^ c) ^^^ (b ^^^ c) = (a ^^^ b) ^^^ (c ^^^ c) from by ac_rfl, BitVec.xor_self]
  exact (xz _).symm
theorem Is.unique {l A B : List E} (hA : Is l A) (hB : Is l B) : A = B := by
  have h := odd_none (l := dif A B) (c := l.length) (dif_nodup hA.srt.nodup hB.srt.nodup) (fun x hx => by
    rcases dif_mem.1 hx with h | h
    · exact hA.ne x h.1
    · exact hB.ne x h.1) (by have := dif_len A B; have := hA.le; have := hB.le; omega) (fun k hk => by
    have h1 := hA.sums k hk
    have h2 := hB.sums k hk
    unfold ps at h1 h2 ⊢
    rw [dif_sum hA.srt.nodup hB.srt.nodup, h1, h2]
    exact BitVec.xor_self)
  refine hA.srt.ext hB.srt fun x => ?_
  have hx : x ∉ dif A B := by rw [h]; exact fun h => by cases h
  rw [dif_mem] at hx
  constructor
  · intro ha
    exact Decidable.byContradiction fun hb => hx (.inl ⟨ha, hb⟩)
  · intro hb
    exact Decidable.byContradiction fun ha => hx (.inr ⟨hb, ha⟩)
/-! ### the equations of a set -/
theorem S_ev (g : E → E) (A p : List E) : ∀ k, k ≤ p.length → S (fun x => Gf.mul (g x) (ev (p.take k) x)) A = Ms.dotN (cf p) (fun m => S (fun x => Gf.mul (g x) (Gf.pow x m)) A) k
  | 0, _ => by
    rw [S_congr (g := fun _ => 0) fun x _ => by
      show Gf.mul (g x) 0 = 0
      exact Gf.mul_zero _]
    exact S_zero A
  | k + 1, hk => by
    rw [Ms.dotN, ← S_ev g A p k (by omega), ← S_scl, ← S_add]
    refine S_congr fun x _ => ?_
    rw [ev_take (show k < p.length by omega), Gf.mul_xor]
    congr 1
    rw [← Gf.mul_assoc, ← Gf.mul_assoc, Gf.mul_comm (g x)]
theorem dotN_head (r x : Nat → E) : ∀ k, Ms.dotN r x (k + 1) = Gf.mul (r 0) (x 0) ^^^ Ms.dotN (fun j => r (j + 1)) (fun j => x (j + 1)) k
  | 0 => by show (0 : E) ^^^ _ = _ ^^^ (0 : E); rw [zx, xz]
  | k + 1 => by
    rw [Ms.dotN, dotN_head r x k, Ms.dotN, BitVec.xor_assoc]
theorem dotN_rev (r x : Nat → E) : ∀ k, Ms.dotN (fun j => r (k - 1 - j)) (fun j => x (k - 1 - j)) k = Ms.dotN r x k
  | 0 => rfl
  | k + 1 => by
    rw [dotN_head, Ms.dotN, BitVec.xor_comm]
    congr 1
    rw [← dotN_rev r x k]
    exact Ms.dotN_congr k (fun j hj => by show r (k + 1 - 1 - (j + 1)) = r (k - 1 - j); rw [show k + 1 - 1 - (j + 1) = k - 1 - j from by omega]) (fun j hj => by show x (k + 1 - 1 - (j + 1)) = x (k - 1 - j); rw [show k + 1 - 1 - (j + 1) = k - 1 - j from by omega])
/-- the moments of a polynomial over a set -/
theorem ps_ev (A p : List E) (i : Nat) : S (fun x => Gf.mul (Gf.pow x (i + 1)) (ev p x)) A = Ms.dotN (cf p) (fun m => ps A (i + m + 1)) p.length := by
  have h := S_ev (fun x => Gf.pow x (i + 1)) A p p.length (Nat.le_refl _)
  rw [List.take_length] at h
  rw [h]
  refine Ms.dotN_congr _ (fun _ _ => rfl) (fun m _ => ?_)
  unfold ps
  exact S_congr fun x _ => by rw [← Gf.pow_add, show i + 1 + m = i + m + 1 from by omega]
/-- the sums of all powers, from the first on -/
def sq (A : List E) : Nat → E := fun i => ps A (i + 1)
/-- the set's polynomial solves its equations -/
theorem loc_sol (A : List E) (i : Nat) : Ms.dotN (Ms.sysR (sq A) A.length i) (fun j => cf (fromL A) (A.length - 1 - j)) A.length = sq A (i + A.length) := by
  have h := ps_ev A (fromL A) i
  rw [S_congr (g := fun _ => 0) fun x hx => by
    rw [mem_fromL.2 hx]
    exact Gf.mul_zero _, S_zero, (fromL_all A).1, Ms.dotN, fromL_lead _ A rfl] at h
  have h2 : Ms.dotN (Ms.sysR (sq A) A.length i) (fun j => cf (fromL A) (A.length - 1 - j)) A.length = Ms.dotN (cf (fromL A)) (fun m => ps A (i + m + 1)) A.length := by
    rw [← dotN_rev (cf (fromL A)) (fun m => ps A (i + m + 1)) A.length]
    -- swap the two factors
    have hc : ∀ (r x : Nat → E) k, Ms.dotN r x k = Ms.dotN x r k := by
      intro r x k
      induction k with
      | zero => rfl
      | succ k ih => rw [Ms.dotN, Ms.dotN, ih, Gf.mul_comm]
    rw [hc]
    refine Ms.dotN_congr _ (fun j _ => rfl) (fun j hj => ?_)
    show Ms.sysR (sq A) A.length i j = ps A (i + (A.length - 1 - j) + 1)
    unfold Ms.sysR sq
    rw [if_pos hj, show i + A.length - 1 - j + 1 = i + (A.length - 1 - j) + 1 from by omega]
  rw [h2]
  show _ = ps A (i + A.length + 1)
  rw [show Gf.mul 1 (ps A (i + A.length + 1)) = ps A (i + A.length + 1) from Gf.one_mul _] at h
  exact xor_eq_zero.1 h.symm
/-- only 0 is sent to 0 by a set's equations -/
theorem loc_inj {A : List E} (hn : A.Nodup) (h0 : ∀ x, x ∈ A → x ≠ 0) {z : Nat → E} (hz : ∀ i, i < A.length → Ms.dotN (Ms.sysR (sq A) A.length i) z A.length = 0) : ∀ j, j < A.length → z j = 0 := by
  obtain ⟨p, hp⟩ : ∃ p, p = Po.mk A.length (fun m => z (A.length - 1 - m)) := ⟨_, rfl⟩
  have hpl : p.length = A.length := by rw [hp, mk_length]
  have hcf : ∀ m, m < A.length → cf p m = z (A.length - 1 - m) := fun m hm => by rw [hp, cf_mk, if_pos hm]
  have hs : ∀ i, i < A.length → S (fun x => Gf.mul (Gf.pow x (i + 1)) (ev p x)) A = 0 := fun i hi => by
    rw [ps_ev, hpl, ← hz i hi, ← dotN_rev _ _ A.length]
    have hc : ∀ (r x : Nat → E) k, Ms.dotN r x k = Ms.dotN x r k := by
      intro r x k
      induction k with
      | zero => rfl
      | succ k ih => rw [Ms.dotN, Ms.dotN, ih, Gf.mul_comm]
    rw [hc]
    refine Ms.dotN_congr _ (fun j hj => ?_) (fun j hj => ?_)
    · show ps A (i + (A.length - 1 - j) + 1) = Ms.sysR (sq A) A.length i j
      unfold Ms.sysR sq
      rw [if_pos hj, show i + A.length - 1 - j + 1 = i + (A.length - 1 - j) + 1 from by omega]
    · show cf p (A.length - 1 - j) = z j
      rw [hcf _ (by omega), show A.length - 1 - (A.length - 1 - j) = j from by omega]
  have hv := vander (w := fun x => Gf.mul x (ev p x)) hn fun i hi => by
    rw [← hs i hi]
    refine S_congr fun x _ => ?_
    show Gf.mul (Gf.mul x (ev p x)) (Gf.pow x i) = Gf.mul (Gf.pow x (i + 1)) (ev p x)
    rw [Gf.pow, Gf.mul_assoc, Gf.mul_assoc, Gf.mul_comm (ev p x), ← Gf.mul_assoc x, Gf.mul_comm x, Gf.mul_assoc]
  have hr : ∀ x, x ∈ A → ev p x = 0 := fun x hx => by
    rcases Gf.no_divisors (hv x hx) with e | e
    · exact absurd e (h0 x hx)
    · exact e
  have hl : len1 p = 0 := by
    refine Decidable.byContradiction fun hl => ?_
    have h1 := count_le hl hn hr
    have h2 := len1_le p
    omega
  intro j hj
  have h1 := hcf (A.length - 1 - j) (by omega)
  rw [show A.length - 1 - (A.length - 1 - j) = j from by omega, (len1_zero_iff p).1 hl] at h1
  exact h1.symm
theorem loc_one {A : List E} (hn : A.Nodup) (h0 : ∀ x, x ∈ A → x ≠ 0) {x : Nat → E} (hx : ∀ i, i < A.length → Ms.dotN (Ms.sysR (sq A) A.length i) x A.length = sq A (i + A.length)) : ∀ j, j < A.length → x j = cf (fromL A) (A.length - 1 - j) := by
  intro j hj
  have h := loc_inj hn h0 (z := fun j => x j ^^^ cf (fromL A) (A.length - 1 - j)) (fun i hi => by
    have hc : ∀ (r x : Nat → E) k, Ms.dotN r x k = Ms.dotN x r k := by
      intro r x k
      induction k with
      | zero => rfl
      | succ k ih => rw [Ms.dotN, Ms.dotN, ih, Gf.mul_comm]
    rw [hc, show (fun j => x j ^^^ cf (fromL A) (A.length - 1 - j)) = addF x (fun j => cf (fromL A) (A.length - 1 - j)) from rfl, Ms.dotN_add, hc x, hc (fun j => cf (fromL A) (A.length - 1 - j)), hx i hi, loc_sol]
    exact BitVec.xor_self) j hj
  exact xor_eq_zero.1 h
theorem dotN_comm (r x : Nat → E) : ∀ k, Ms.dotN r x k = Ms.dotN x r k
  | 0 => rfl
  | k + 1 => by rw [Ms.dotN, Ms.dotN, dotN_comm r x k, Gf.mul_comm]
/-- a solution of M equations of a set's sums, as a polynomial -/
theorem sol_poly {A : List E} {M : Nat} {x : Nat → E} {q : List E} (hq : q = Po.mk (M + 1) (fun m => if m < M then x (M - 1 - m) else 1)) {i : Nat} (h : Ms.dotN (Ms.sysR (sq A) M i) x M = Ms.sysR (sq A) M i M) : S (fun a => Gf.mul (Gf.pow a (i + 1)) (ev q a)) A = 0 := by
  have hl : q.length = M + 1 := by rw [hq, mk_length]
  have hcf : ∀ m, m ≤ M → cf q m = if m < M then x (M - 1 - m) else 1 := fun m hm => by rw [hq, cf_mk, if_pos (by omega)]
  rw [ps_ev, hl, Ms.dotN, hcf M (Nat.le_refl _), if_neg (Nat.lt_irrefl _), show ∀ y, Gf.mul 1 y = y from Gf.one_mul]
  have h2 : Ms.dotN (cf q) (fun m => ps A (i + m + 1)) M = Ms.dotN (Ms.sysR (sq A) M i) x M := by
    rw [← dotN_rev, dotN_comm]
    refine Ms.dotN_congr _ (fun j hj => ?_) (fun j hj => ?_)
    · show ps A (i + (M - 1 - j) + 1) = Ms.sysR (sq A) M i j
      unfold Ms.sysR sq
      rw [if_pos hj, show i + M - 1 - j + 1 = i + (M - 1 - j) + 1 from by omega]
    · show cf q (M - 1 - j) = x j
      rw [hcf _ (by omega), if_pos (by omega), show M - 1 - (M - 1 - j) = j from by omega]
  rw [h2, h]
  show Ms.sysR (sq A) M i M ^^^ ps A (i + M + 1) = 0
  unfold Ms.sysR sq
  rw [if_neg (Nat.lt_irrefl _)]
  exact BitVec.xor_self
theorem kills {A q : List E} (hn : A.Nodup) (h0 : ∀ x, x ∈ A → x ≠ 0) (h : ∀ i, i < A.length → S (fun a => Gf.mul (Gf.pow a (i + 1)) (ev q a)) A = 0) : ∀ a, a ∈ A → ev q a = 0 := by
  have hv := vander (w := fun x => Gf.mul x (ev q x)) hn fun i hi => by
    rw [← h i hi]
    refine S_congr fun x _ => ?_
    show Gf.mul (Gf.mul x (ev q x)) (Gf.pow x i) = Gf.mul (Gf.pow x (i + 1)) (ev q x)
    rw [Gf.pow, Gf.mul_assoc, Gf.mul_assoc, Gf.mul_comm (ev q x), ← Gf.mul_assoc x, Gf.mul_comm x, Gf.mul_assoc]
  intro x hx
  rcases Gf.no_divisors (hv x hx) with e | e
  · exact absurd e (h0 x hx)
  · exact e
/-- the shortest recurrence of a set's sums is as long as the set -/
theorem loc_least {A : List E} (hn : A.Nodup) (h0 : ∀ x, x ∈ A → x ≠ 0) {n : Nat} (h2 : 2 * A.length ≤ n) : Ms.Least (sq A) n A.length := by
  refine ⟨Ms.sys_rec.1 ⟨fun j => cf (fromL A) (A.length - 1 - j), fun i _ _ => ?_⟩, fun c M hc => Decidable.byContradiction fun hlt => ?_⟩
  · rw [loc_sol A i]
    unfold Ms.sysR
    rw [if_neg (Nat.lt_irrefl _)]
  · obtain ⟨x, hx⟩ := Ms.sys_rec.2 ⟨c, hc⟩
    obtain ⟨q, hq⟩ : ∃ q, q = Po.mk (M + 1) (fun m => if m < M then x (M - 1 - m) else 1) := ⟨_, rfl⟩
    have hk := kills (q := q) hn h0 fun i hi => sol_poly hq (hx i (Nat.zero_le _) (by omega))
    have hl : q.length = M + 1 := by rw [hq, mk_length]
    have hlead : cf q M = 1 := by rw [hq, cf_mk, if_pos (by omega), if_neg (Nat.lt_irrefl _)]
    have hne : len1 q ≠ 0 := fun e => by
      rw [(len1_zero_iff q).1 e] at hlead
      exact absurd (show (0 : E) = 1 from hlead) (by decide)
    have h3 := count_le hne hn hk
    have h4 := len1_le q
    omega
/-- and it is the set's polynomial, backwards -/
theorem loc_rec {A c : List E} (hn : A.Nodup) (h0 : ∀ x, x ∈ A → x ≠ 0) {n : Nat} (h2 : 2 * A.length ≤ n) (hc : Ms.Rec c A.length (sq A) n) (hl : c.length = A.length + 1) : c = (fromL A).reverse := by
  obtain ⟨q, hq⟩ : ∃ q, q = c.reverse := ⟨_, rfl⟩
  have hql : q.length = A.length + 1 := by rw [hq, List.length_reverse, hl]
  have hqc : ∀ m, m ≤ A.length → cf q m = cf c (A.length - m) := fun m hm => by
    show q.getD m 0 = c.getD (A.length - m) 0
    rw [hq, List.getD_eq_getElem?_getD, List.getD_eq_getElem?_getD, List.getElem?_reverse (by omega), hl, show A.length + 1 - 1 - m = A.length - m from by omega]
  have hm : q = Po.mk (A.length + 1) (fun m => if m < A.length then cf c (A.length - 1 - m + 1) else 1) := by
    refine list_ext (by rw [hql, mk_length]) fun m hm => ?_
    rw [hqc m (by omega), cf_mk, if_pos (by omega)]
    split
    · rw [show A.length - 1 - m + 1 = A.length - m from by omega]
    · rw [show A.length - m = 0 from by omega]
      exact hc.one
  have hk := kills (q := q) hn h0 fun i hi => sol_poly (x := fun j => cf c (j + 1)) hm (by
    have h3 := hc.zero (i + A.length) (by omega) (by omega)
    have e := Ms.mulL_dot (c := c) (sq A) (i := i + A.length) A.length (by omega) (by omega)
    rw [List.take_of_length_le (by omega), h3, hc.one, show ∀ y, Gf.mul 1 y = y from Gf.one_mul] at e
    have e4 : Ms.dotN (fun j => sq A (i + A.length - 1 - j)) (fun j => cf c (j + 1)) A.length = Ms.dotN (Ms.sysR (sq A) A.length i) (fun j => cf c (j + 1)) A.length := Ms.dotN_congr _ (fun j hj => by
      unfold Ms.sysR
      rw [if_pos hj]) (fun _ _ => rfl)
    rw [← e4]
    rw [show Ms.sysR (sq A) A.length i A.length = sq A (i + A.length) from by unfold Ms.sysR; rw [if_neg (Nat.lt_irrefl _)]]
    exact (xor_eq_zero.1 e.symm).symm)
  -- q and the set's polynomial are monic, as long, and have the same roots
  obtain ⟨u, hu⟩ := all_factors _ A q rfl hn hk
  have hlead : cf q A.length = 1 := by rw [hqc _ (Nat.le_refl _), Nat.sub_self]; exact hc.one
  have hne : len1 q ≠ 0 := fun e => by
    rw [(len1_zero_iff q).1 e] at hlead
    exact absurd (show (0 : E) = 1 from hlead) (by decide)
  have hlq : len1 q = A.length + 1 := by
    have h4 := len1_le q
    have h5 := count_le hne hn hk
    omega
  obtain ⟨hf, hu0⟩ := mul_ne hu hne
  have hlm := len_mul hu hf hu0
  rw [(fromL_all A).2] at hlm
  have hu1 : len1 u = 1 := by omega
  have huc : cf u = sclF (cf u 0) oneF := by
    funext i
    show cf u i = Gf.mul (cf u 0) (if i = 0 then 1 else 0)
    cases i with
    | zero => rw [if_pos rfl]; exact (Gf.mul_one _).symm
    | succ i => rw [cf_len1 u (by omega), if_neg (by omega)]; exact (Gf.mul_zero _).symm
  rw [huc, mulL_scl, mulL_oneF] at hu
  have h1 : cf u 0 = 1 := by
    have h6 := congrFun hu A.length
    rw [hlead] at h6
    have h7 : (1 : E) = Gf.mul (cf u 0) (cf (fromL A) A.length) := h6
    rw [fromL_lead _ A rfl] at h7
    rw [h7]
    exact (Gf.mul_one _).symm
  rw [h1, sclF_one] at hu
  have : q = fromL A := list_ext (by rw [hql, (fromL_all A).1]) fun i _ => congrFun hu i
  rw [← this, hq, List.reverse_reverse]
end Go.Proofs.Ytamigcbodplmcaa.Sk
