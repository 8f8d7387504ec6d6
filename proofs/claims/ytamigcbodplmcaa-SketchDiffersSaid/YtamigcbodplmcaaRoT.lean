/- Traces of polynomials, and what they part: pure facts. Nothing of the program. -/
import Derived.Test.YtamigcbodplmcaaRoM
namespace Go.Proofs.Ytamigcbodplmcaa.Po
open Go.Proofs.Ytamigcbodplmcaa
/-- the square's rests -/
noncomputable def tm (p : List E) (b : E) : Nat → List E
  | 0 => (qr [0, b] p).2
  | i + 1 => (qr (mulR (tm p b i) (tm p b i)) p).2
/-- their sums -/
noncomputable def trc (p : List E) (b : E) : Nat → List E
  | 0 => []
  | k + 1 => addL (trc p b k) (tm p b k)
theorem rest_ev {p x : List E} {a : E} (hp : len1 p ≠ 0) (ha : ev p a = 0) : ev (qr x p).2 a = ev x a := by
  have hs := qr_spec x hp
  obtain ⟨t, ht⟩ := lmul p (qr x p).1
  rw [ev_add (by rw [ht]; exact hs.eq) a (r := x) (p := t) (q := (qr x p).2), ev_mul ht, ha, show ∀ y, Gf.mul 0 y = 0 from Gf.zero_mul]
  exact (zx _).symm
theorem tm_ev {p : List E} {a : E} (hp : len1 p ≠ 0) (ha : ev p a = 0) (b : E) : ∀ i, ev (tm p b i) a = Gf.squares (Gf.mul b a) i
  | 0 => by
    rw [tm, rest_ev hp ha]
    show (0 : E) ^^^ Gf.mul a (b ^^^ Gf.mul a 0) = Gf.mul b a
    rw [show Gf.mul a 0 = 0 from Gf.mul_zero a, xz, zx, Gf.mul_comm]
  | i + 1 => by
    rw [tm, rest_ev hp ha, ev_mul (p := tm p b i) (q := tm p b i) (cf_mulR _ _), tm_ev hp ha b i, Gf.squares, Gf.square_eq]
theorem trc_ev {p : List E} {a : E} (hp : len1 p ≠ 0) (ha : ev p a = 0) (b : E) : ∀ k, ev (trc p b k) a = Gf.trace (Gf.mul b a) k
  | 0 => rfl
  | k + 1 => by rw [trc, ev_add (addL_norm _ _).2, trc_ev hp ha b k, tm_ev hp ha b k, Gf.trace]
theorem tm_norm (p : List E) (hp : len1 p ≠ 0) (b : E) (i : Nat) : trim (tm p b i) = tm p b i ∧ len1 (tm p b i) < len1 p := by
  cases i with
  | zero => exact ⟨(qr_spec _ hp).tr, (qr_spec _ hp).lt⟩
  | succ i => exact ⟨(qr_spec _ hp).tr, (qr_spec _ hp).lt⟩
/-! ### x to the 2^32 -/
theorem Xn_Xn (m n : Nat) (f : Nat → E) : Xn m (Xn n f) = Xn (m + n) f := by
  induction m with
  | zero => rw [Xn_zero, Nat.zero_add]
  | succ m ih => rw [Xn_succ, ih, show m + 1 + n = (m + n) + 1 from by omega, Xn_succ]
theorem sq_add {s a y : List E} {m : Nat} (hs : cf s = addF (cf a) (cf y)) (hy : cf y = Xn m oneF) : mulL s (cf s) = addF (mulL a (cf a)) (Xn (2 * m) oneF) := by
  have h1 : mulL y (cf y) = Xn (2 * m) oneF := by
    rw [hy, mulL_Xn, mulL_oneF, hy, Xn_Xn, Nat.two_mul]
  have h2 : mulL s (cf a) = addF (mulL a (cf a)) (mulL a (cf y)) := by rw [mulL_comm s a, hs, mulL_add]
  have h3 : mulL s (cf y) = addF (mulL a (cf y)) (mulL y (cf y)) := by rw [mulL_comm s y, hs, mulL_add, mulL_comm y a]
  have h4 : mulL s (cf s) = addF (mulL s (cf a)) (mulL s (cf y)) := by
    have := mulL_add s (cf a) (cf y)
    rw [← hs] at this
    exact this
  rw [h4, h2, h3, ← h1]
  funext i
  show (_ ^^^ _) ^^^ (_ ^^^ _) = _ ^^^ _
  rw [BitVec.xor_assoc, ← BitVec.xor_assoc (mulL a (cf y) i), BitVec.xor_self, BitVec.zero_xor]
theorem rest_dv {p x : List E} (hp : len1 p ≠ 0) : ∃ s, cf s = addF (cf x) (cf (qr x p).2) ∧ Dv p s := by
  have hs := qr_spec x hp
  obtain ⟨t, ht⟩ := lmul p (qr x p).1
  refine ⟨t, ?_, ⟨_, ht⟩⟩
  rw [ht, hs.eq, addF_assoc, addF_self, addF_zero]
theorem lXn (n : Nat) : ∃ y, cf y = Xn n oneF := mk_of (n := n + 1) fun i hi => by
  show (if n ≤ i then oneF (i - n) else 0) = 0
  rw [if_pos (by omega)]
  show (if i - n = 0 then (1 : E) else 0) = 0
  rw [if_neg (by omega)]
theorem tm_dv {p : List E} (hp : len1 p ≠ 0) : ∀ i, ∃ s, cf s = addF (cf (tm p 1 i)) (Xn (2 ^ i) oneF) ∧ Dv p s
  | 0 => by
    obtain ⟨s, h1, h2⟩ := rest_dv (x := [0, 1]) hp
    refine ⟨s, ?_, h2⟩
    rw [h1, addF_comm]
    show addF (cf (tm p 1 0)) _ = _
    congr 1
    funext i
    rcases i with _ | _ | i
    · rfl
    · rfl
    · rw [cf_cons, cf_cons, cf_nil]
      show (0 : E) = (if 2 ^ 0 ≤ i + 1 + 1 then oneF (i + 1 + 1 - 2 ^ 0) else 0)
      rw [if_pos (by omega)]
      show (0 : E) = if i + 1 + 1 - 2 ^ 0 = 0 then 1 else 0
      rw [if_neg (by omega)]
  | i + 1 => by
    obtain ⟨s, h1, h2⟩ := tm_dv hp i
    obtain ⟨y, hy⟩ := lXn (2 ^ i)
    rw [← hy] at h1
    have h3 := sq_add h1 hy
    obtain ⟨u, h4, h5⟩ := rest_dv (x := mulR (tm p 1 i) (tm p 1 i)) hp
    obtain ⟨z, hz⟩ := lmul s s
    have h6 : Dv p z := h2.mul s hz
    obtain ⟨v, hv⟩ := sumL z u
    refine ⟨v, ?_, h6.add h5 hv⟩
    rw [hv, hz, h3, h4, cf_mulR]
    show addF (addF _ _) (addF _ (cf (tm p 1 (i + 1)))) = _
    rw [addF_swap, addF_self, zero_addF, addF_comm, show 2 * 2 ^ i = 2 ^ (i + 1) from by rw [Nat.pow_succ]; omega]
theorem linear_eq {p t g : List E} (hp : len1 p ≠ 0) (ht : cf t = addF (cf (tm p 1 32)) (cf [0, 1])) (h : Gcd p t g) : g = fromL (rts p) := by
  obtain ⟨q, hq⟩ : ∃ q, q = 4294967296 := ⟨_, rfl⟩
  obtain ⟨f, hf⟩ := fx_ex q
  obtain ⟨s, hs1, hs2⟩ := tm_dv hp 32
  rw [show 2 ^ 32 = q from hq.symm] at hs1
  obtain ⟨h1, h2, h3, h4, h5, h6⟩ := h.main.2 (fun h => hp h.1)
  have hx : cf [0, 1] = X oneF := by
    funext i
    rcases i with _ | _ | i
    · rfl
    · rfl
    · rw [cf_cons, cf_cons, cf_nil]; rfl
  have hfs : cf f = addF (cf t) (cf s) := by
    rw [hf.cfs, ht, hs1, hx, addF_swap, addF_self, zero_addF, addF_comm]
  have hd : Dv g f := h5.add (h4.trans hs2) hfs
  have hg := splits_from hq hf hd h2 h3
  have hr : rts g = rts p := rts_congr fun a => by
    constructor
    · exact h4.evz
    · intro ha
      have e1 := ev_add hfs a
      rw [hf.evz hq, hs2.evz ha, xz] at e1
      exact (h6 [a, 1] (factor ha) (factor e1.symm)).root
  rw [hr] at hg
  exact hg
/-! ### traces part -/
theorem tr_sep {x : E} (h : ∀ j, j < 32 → Gf.trace (Gf.mul (1#32 <<< j) x) 32 = 0) : x = 0 := by
  by_cases hx : x = 0
  · exact hx
  · exfalso
    have h1 : ∀ y, Gf.trace (Gf.mul y x) 32 = (fun _ : E => (0 : E)) y := fun y =>
      Gf.lin_ext (f := fun y => Gf.trace (Gf.mul y x) 32) (g := fun _ => 0) ((Gf.lin_trace 32).comp (Gf.lin_mul_left x)) Gf.Lin.const0 (fun i hi => by
        have := h i hi
        rw [BitVec.twoPow_eq]
        exact this) y
    have h2 : Gf.trace (Gf.mul (Gf.mul Gf.traced (Gf.inv x)) x) 32 = 0 := h1 (Gf.mul Gf.traced (Gf.inv x))
    rw [Gf.mul_assoc, Gf.mul_comm (Gf.inv x), Gf.mul_inv hx, Gf.mul_one] at h2
    exact absurd h2 (by decide +kernel)
theorem tr_xor (x y : E) : Gf.trace (x ^^^ y) 32 = Gf.trace x 32 ^^^ Gf.trace y 32 := Gf.lin_trace 32 x y
/-- the traces by the first bits are the same for all -/
def Agree (l : List E) (k : Nat) : Prop := ∀ a, a ∈ l → ∀ b, b ∈ l → ∀ j, j < k → Gf.trace (Gf.mul (1#32 <<< j) a) 32 = Gf.trace (Gf.mul (1#32 <<< j) b) 32
theorem Agree.start (l : List E) : Agree l 0 := fun _ _ _ _ j hj => by omega
theorem Agree.all {l : List E} (h : Agree l 32) (hs : Srt l) : l.length ≤ 1 := by
  match l, h, hs with
  | [], _, _ => exact Nat.zero_le _
  | [_], _, _ => exact Nat.le_refl _
  | a :: b :: l, h, hs =>
    exfalso
    have hab := (List.pairwise_cons.1 hs).1 b (List.mem_cons_self ..)
    have : a ^^^ b = 0 := tr_sep fun j hj => by
      rw [show Gf.mul (1#32 <<< j) (a ^^^ b) = Gf.mul (1#32 <<< j) a ^^^ Gf.mul (1#32 <<< j) b from Gf.mul_xor _ _ _]
      rw [tr_xor, h a (by simp) b (by simp) j hj]
      exact BitVec.xor_self
    rw [xor_eq_zero.1 this] at hab
    omega
theorem Agree.part {l : List E} {k : Nat} (h : Agree l k) (v : E) : Agree (l.filter fun a => Gf.trace (Gf.mul (1#32 <<< k) a) 32 == v) (k + 1) := by
  intro a ha b hb j hj
  obtain ⟨a1, a2⟩ := List.mem_filter.1 ha
  obtain ⟨b1, b2⟩ := List.mem_filter.1 hb
  by_cases e : j = k
  · rw [e, beq_iff_eq.1 a2, beq_iff_eq.1 b2]
  · exact h a a1 b b1 j (by omega)
theorem part_perm (l : List E) (c : E) : ((l.filter fun a => Gf.trace (Gf.mul c a) 32 == 0) ++ (l.filter fun a => Gf.trace (Gf.mul c a) 32 == 1)).Perm l := by
  have h : (l.filter fun a => Gf.trace (Gf.mul c a) 32 == 1) = l.filter fun a => !(Gf.trace (Gf.mul c a) 32 == 0) := List.filter_congr fun a _ => by
    rcases Gf.trace_bit (Gf.mul c a) with e | e <;> rw [e] <;> decide
  rw [h]
  exact List.filter_append_perm _ l
/-- the two halves -/
theorem half_zero {l g t : List E} (hs : Srt l) (c : E) (ht : ∀ a, ev (fromL l) a = 0 → ev t a = Gf.trace (Gf.mul c a) 32) (h : Gcd (fromL l) t g) : g = fromL (l.filter fun a => Gf.trace (Gf.mul c a) 32 == 0) := by
  have h1 := gcd_from hs.nodup h
  rw [rts_from hs] at h1
  rw [h1]
  congr 1
  exact List.filter_congr fun a ha => by rw [ht a (mem_fromL.2 ha)]
theorem half_one {l g t u : List E} (hs : Srt l) (c : E) (ht : ∀ a, ev (fromL l) a = 0 → ev t a = Gf.trace (Gf.mul c a) 32) (hu : cf u = addF (cf t) (cf [1])) (h : Gcd (fromL l) u g) : g = fromL (l.filter fun a => Gf.trace (Gf.mul c a) 32 == 1) := by
  have h1 := gcd_from hs.nodup h
  rw [rts_from hs] at h1
  rw [h1]
  congr 1
  exact List.filter_congr fun a ha => by
    have e1 : ev [(1 : E)] a = 1 := by
      show (1 : E) ^^^ Gf.mul a 0 = 1
      rw [show Gf.mul a 0 = 0 from Gf.mul_zero a]
      rfl
    rw [ev_add hu, ht a (mem_fromL.2 ha), e1]
    rcases Gf.trace_bit (Gf.mul c a) with e | e <;> rw [e] <;> decide
theorem fromL_one (r : E) : fromL [r] = [r, 1] := by
  have : cf (fromL [r]) = cf [r, 1] := by
    show cf (mulR [1] [r, 1]) = _
    rw [cf_mulR, mulL_single, sclF_one]
  exact list_ext (by rw [(fromL_all [r]).1]; rfl) fun i _ => congrFun this i
theorem fromL_two (r s : E) : fromL [r, s] = [Gf.mul r s, r ^^^ s, 1] := by
  have : cf (fromL [r, s]) = cf [Gf.mul r s, r ^^^ s, 1] := by
    have h : fromL [r, s] = mulR (fromL [r]) [s, 1] := rfl
    rw [h, cf_mulR, mulL_comm, fromL_one, mulL_lin]
    funext i
    show Gf.mul s (cf [r, 1] i) ^^^ X (cf [r, 1]) i = _
    rcases i with _ | _ | _ | i
    · show Gf.mul s r ^^^ 0 = Gf.mul r s
      rw [xz, Gf.mul_comm]
    · show Gf.mul s 1 ^^^ r = r ^^^ s
      rw [show Gf.mul s 1 = s from Gf.mul_one s, BitVec.xor_comm]
    · show Gf.mul s 0 ^^^ 1 = 1
      rw [show Gf.mul s 0 = 0 from Gf.mul_zero s]
      exact zx 1
    · show Gf.mul s 0 ^^^ cf [r, 1] (i + 2) = cf [Gf.mul r s, r ^^^ s, 1] (i + 3)
      rw [show Gf.mul s 0 = 0 from Gf.mul_zero s, cf_ge (l := [r, 1]) (by simp), cf_ge (by simp)]
      rfl
  exact list_ext (by rw [(fromL_all [r, s]).1]; rfl) fun i _ => congrFun this i
theorem pair_roots {r s y : E} (hrs : r ≠ s) (hy : Gf.square y ^^^ y = Gf.mul (Gf.mul r s) (Gf.mul (Gf.inv (r ^^^ s)) (Gf.inv (r ^^^ s)))) :
    (Gf.mul (r ^^^ s) y = r ∧ Gf.mul (r ^^^ s) (y ^^^ 1) = s) ∨ (Gf.mul (r ^^^ s) y = s ∧ Gf.mul (r ^^^ s) (y ^^^ 1) = r) := by
  obtain ⟨b, hb⟩ : ∃ b, b = r ^^^ s := ⟨_, rfl⟩
  have hb0 : b ≠ 0 := by rw [hb]; exact fun h => hrs (xor_eq_zero.1 h)
  have hs : s = r ^^^ b := by rw [hb, ← BitVec.xor_assoc, BitVec.xor_self, BitVec.zero_xor]
  rw [← hb] at hy ⊢
  obtain ⟨z, hz⟩ : ∃ z, z = Gf.mul r (Gf.inv b) := ⟨_, rfl⟩
  have hbz : Gf.mul b z = r := by rw [hz, Gf.mul_comm r, ← Gf.mul_assoc, Gf.mul_inv hb0]; exact Gf.one_mul _
  have hzz : Gf.square z ^^^ z = Gf.mul (Gf.mul r s) (Gf.mul (Gf.inv b) (Gf.inv b)) := by
    have e1 : Gf.mul (Gf.mul r s) (Gf.mul (Gf.inv b) (Gf.inv b)) = Gf.mul (Gf.mul r (Gf.inv b)) (Gf.mul s (Gf.inv b)) := by
      rw [Gf.mul_assoc, Gf.mul_assoc, ← Gf.mul_assoc s, Gf.mul_comm s (Gf.inv b), Gf.mul_assoc (Gf.inv b), Gf.mul_comm s (Gf.inv b)]
    rw [e1, ← hz, hs, Gf.xor_mul, ← hz, Gf.mul_inv hb0, Gf.square_eq]
    rw [show Gf.mul z (z ^^^ 1) = Gf.mul z z ^^^ Gf.mul z 1 from Gf.mul_xor _ _ _, show Gf.mul z 1 = z from Gf.mul_one z]
  have hyz : Gf.square (y ^^^ z) = y ^^^ z := by
    rw [Gf.lin_square]
    have h2 : Gf.square y ^^^ y = Gf.square z ^^^ z := hy.trans hzz.symm
    have h3 := congrArg (fun t => t ^^^ y ^^^ Gf.square z) h2
    have e1 : Gf.square y ^^^ y ^^^ y ^^^ Gf.square z = Gf.square y ^^^ Gf.square z := by rw [BitVec.xor_assoc (Gf.square y), BitVec.xor_self, BitVec.xor_zero]
    have e2 : Gf.square z ^^^ z ^^^ y ^^^ Gf.square z = y ^^^ z := by
      rw [show Gf.square z ^^^ z ^^^ y ^^^ Gf.square z = (Gf.square z ^^^ Gf.square z) ^^^ (y ^^^ z) from by ac_rfl, BitVec.xor_self, BitVec.zero_xor]
    simp only [e1, e2] at h3
    exact h3
  have hb1 : Gf.mul b 1 = b := Gf.mul_one b
  rcases Gf.zero_or_one hyz with h | h
  · have e : y = z := xor_eq_zero.1 h
    refine Or.inl ⟨by rw [e, hbz], ?_⟩
    rw [show Gf.mul b (y ^^^ 1) = Gf.mul b y ^^^ Gf.mul b 1 from Gf.mul_xor _ _ _, hb1, e, hbz, hs]
  · have e : y = z ^^^ 1 := by
      have := congrArg (· ^^^ z) h
      simp only [BitVec.xor_assoc, BitVec.xor_self, BitVec.xor_zero] at this
      rw [this]
      exact BitVec.xor_comm _ _
    have e1 : Gf.mul b y = s := by
      rw [e, show Gf.mul b (z ^^^ 1) = Gf.mul b z ^^^ Gf.mul b 1 from Gf.mul_xor _ _ _, hb1, hbz, hs]
    refine Or.inr ⟨e1, ?_⟩
    rw [show Gf.mul b (y ^^^ 1) = Gf.mul b y ^^^ Gf.mul b 1 from Gf.mul_xor _ _ _, hb1, e1, hs, BitVec.xor_assoc, BitVec.xor_self, BitVec.xor_zero]
theorem pair_trace {r s : E} (hrs : r ≠ s) : Gf.trace (Gf.mul (Gf.mul r s) (Gf.mul (Gf.inv (r ^^^ s)) (Gf.inv (r ^^^ s)))) 32 = 0 := by
  obtain ⟨b, hb⟩ : ∃ b, b = r ^^^ s := ⟨_, rfl⟩
  have hb0 : b ≠ 0 := by rw [hb]; exact fun h => hrs (xor_eq_zero.1 h)
  have hs : s = r ^^^ b := by rw [hb, ← BitVec.xor_assoc, BitVec.xor_self, BitVec.zero_xor]
  rw [← hb]
  obtain ⟨z, hz⟩ : ∃ z, z = Gf.mul r (Gf.inv b) := ⟨_, rfl⟩
  have hzz : Gf.square z ^^^ z = Gf.mul (Gf.mul r s) (Gf.mul (Gf.inv b) (Gf.inv b)) := by
    have e1 : Gf.mul (Gf.mul r s) (Gf.mul (Gf.inv b) (Gf.inv b)) = Gf.mul (Gf.mul r (Gf.inv b)) (Gf.mul s (Gf.inv b)) := by
      rw [Gf.mul_assoc, Gf.mul_assoc, ← Gf.mul_assoc s, Gf.mul_comm s (Gf.inv b), Gf.mul_assoc (Gf.inv b), Gf.mul_comm s (Gf.inv b)]
    rw [e1, ← hz, hs, Gf.xor_mul, ← hz, Gf.mul_inv hb0, Gf.square_eq]
    rw [show Gf.mul z (z ^^^ 1) = Gf.mul z z ^^^ Gf.mul z 1 from Gf.mul_xor _ _ _, show Gf.mul z 1 = z from Gf.mul_one z]
  rw [← hzz, tr_xor, Gf.trace_square]
  exact BitVec.xor_self
theorem tm_zero (p : List E) (b : E) : tm p b 0 = (qr [0, b] p).2 := rfl
theorem tm_succ (p : List E) (b : E) (i : Nat) : tm p b (i + 1) = (qr (mulR (tm p b i) (tm p b i)) p).2 := rfl
theorem trc_zero (p : List E) (b : E) : trc p b 0 = [] := rfl
theorem trc_succ (p : List E) (b : E) (k : Nat) : trc p b (k + 1) = addL (trc p b k) (tm p b k) := rfl
theorem tm_len {p : List E} (hp : len1 p ≠ 0) (b : E) (i : Nat) : (tm p b i).length < len1 p := by
  obtain ⟨h1, h2⟩ := tm_norm p hp b i
  have := trim_length (tm p b i)
  rw [h1] at this
  omega
theorem trc_top {p : List E} (hp : len1 p ≠ 0) (b : E) : ∀ (k i : Nat), len1 p ≤ i → cf (trc p b k) i = 0
  | 0, i, _ => cf_ge (Nat.zero_le _)
  | k + 1, i, h => by
    rw [trc_succ, (addL_norm _ _).2]
    show cf (trc p b k) i ^^^ cf (tm p b k) i = 0
    rw [trc_top hp b k i h, cf_ge (by have := tm_len hp b k; omega)]
    rfl
theorem trc_len {p : List E} (hp : len1 p ≠ 0) (b : E) (k : Nat) : (trc p b k).length ≤ len1 p := by
  cases k with
  | zero => exact Nat.zero_le _
  | succ k =>
    refine (addL_norm (trc p b k) (tm p b k)).len fun i hi => ?_
    have h := trc_top hp b (k + 1) i hi
    rw [trc_succ, (addL_norm (trc p b k) (tm p b k)).2] at h
    exact h
attribute [irreducible] tm trc
end Go.Proofs.Ytamigcbodplmcaa.Po
