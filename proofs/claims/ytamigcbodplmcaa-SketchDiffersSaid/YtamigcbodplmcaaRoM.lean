/- Roots of polynomials over the field: pure facts. Nothing of the program. -/
import Derived.Test.YtamigcbodplmcaaPz
import Derived.Test.YtamigcbodplmcaaGfTr
namespace Go.Proofs.Ytamigcbodplmcaa.Po
open Go.Proofs.Ytamigcbodplmcaa
/-- rising -/
def Srt (l : List E) : Prop := l.Pairwise fun a b => a.toNat < b.toNat
theorem Srt.nodup {l : List E} (h : Srt l) : l.Nodup := h.imp fun hab e => by rw [e] at hab; omega
theorem Srt.ext : ∀ {l m : List E}, Srt l → Srt m → (∀ a, a ∈ l ↔ a ∈ m) → l = m
  | [], [], _, _, _ => rfl
  | [], b :: m, _, _, h => by have := (h b).2 (List.mem_cons_self ..); cases this
  | a :: l, [], _, _, h => by have := (h a).1 (List.mem_cons_self ..); cases this
  | a :: l, b :: m, hl, hm, h => by
    have hl' := List.pairwise_cons.1 hl
    have hm' := List.pairwise_cons.1 hm
    have hab : a = b := by
      rcases List.mem_cons.1 ((h a).1 (List.mem_cons_self ..)) with e | e
      · exact e
      · rcases List.mem_cons.1 ((h b).2 (List.mem_cons_self ..)) with e2 | e2
        · exact e2.symm
        · have h1 := hm'.1 a e
          have h2 := hl'.1 b e2
          omega
    subst hab
    have : l = m := Srt.ext hl'.2 hm'.2 fun x => by
      constructor
      · intro hx
        rcases List.mem_cons.1 ((h x).1 (List.mem_cons_of_mem _ hx)) with e | e
        · have := hl'.1 x hx
          rw [e] at this
          omega
        · exact e
      · intro hx
        rcases List.mem_cons.1 ((h x).2 (List.mem_cons_of_mem _ hx)) with e | e
        · have := hm'.1 x hx
          rw [e] at this
          omega
        · exact e
    rw [this]
/-- the field's elements, rising; q: their number -/
def elsN (q : Nat) : List E := (List.range q).map (BitVec.ofNat 32)
theorem elsN_length (q : Nat) : (elsN q).length = q := by simp [elsN]
theorem elsN_mem {q : Nat} (hq : q = 4294967296) (a : E) : a ∈ elsN q := List.mem_map.2 ⟨a.toNat, List.mem_range.2 (by have := a.isLt; rw [hq]; exact this), by simp⟩
theorem elsN_srt {q : Nat} (hq : q = 4294967296) : Srt (elsN q) := by
  unfold Srt elsN
  rw [List.pairwise_map]
  refine (List.pairwise_lt_range (n := q)).imp_of_mem fun {a b} ha hb h => ?_
  have h1 := List.mem_range.1 ha
  have h2 := List.mem_range.1 hb
  rw [BitVec.toNat_ofNat, BitVec.toNat_ofNat, Nat.mod_eq_of_lt (by omega), Nat.mod_eq_of_lt (by omega)]
  exact h
/-- the roots, rising -/
def rtsN (q : Nat) (p : List E) : List E := (elsN q).filter fun a => ev p a == 0
def rts (p : List E) : List E := rtsN 4294967296 p
theorem rtsN_mem {q : Nat} (hq : q = 4294967296) {p : List E} {a : E} : a ∈ rtsN q p ↔ ev p a = 0 := by
  unfold rtsN
  rw [List.mem_filter, beq_iff_eq]
  exact ⟨fun h => h.2, fun h => ⟨elsN_mem hq a, h⟩⟩
theorem rtsN_srt {q : Nat} (hq : q = 4294967296) (p : List E) : Srt (rtsN q p) := (elsN_srt hq).filter _
theorem rts_mem {p : List E} {a : E} : a ∈ rts p ↔ ev p a = 0 := rtsN_mem rfl
theorem rts_srt (p : List E) : Srt (rts p) := rtsN_srt rfl p
theorem rts_congr {p q : List E} (h : ∀ a, ev p a = 0 ↔ ev q a = 0) : rts p = rts q := (rts_srt p).ext (rts_srt q) fun a => by rw [rts_mem, rts_mem, h]
attribute [irreducible] rts
/-! ### roots and factors -/
theorem len_mul {p a q : List E} (h : cf p = mulL a (cf q)) (ha : len1 a ≠ 0) (hq : len1 q ≠ 0) : len1 p = len1 a + len1 q - 1 := by
  rw [len1_congr (show cf p = cf (mulR a q) from by rw [h, cf_mulR]), mulR_len, mulR_length ha hq]
theorem mul_ne {p a q : List E} (h : cf p = mulL a (cf q)) (hp : len1 p ≠ 0) : len1 a ≠ 0 ∧ len1 q ≠ 0 := by
  have e : len1 p = len1 (mulR a q) := len1_congr (by rw [h, cf_mulR])
  constructor <;> intro h0 <;> apply hp <;> rw [e, mulR, if_pos (by omega)] <;> rfl
theorem ev_const {r : List E} (h : len1 r ≤ 1) (x : E) : ev r x = cf r 0 := by
  have : cf r = cf [cf r 0] := by
    funext i
    cases i with
    | zero => rfl
    | succ i => rw [cf_len1 r (by omega), cf_cons, cf_nil]
  rw [ev_congr this x]
  show cf r 0 ^^^ Gf.mul x 0 = _
  rw [show Gf.mul x 0 = 0 from Gf.mul_zero x, xz]
theorem factor {p : List E} {a : E} (h : ev p a = 0) : Dv [a, 1] p := by
  have hl : len1 [a, (1 : E)] ≠ 0 := by rw [len1_lin]; omega
  have hs := qr_spec p hl
  obtain ⟨t, ht⟩ := lmul [a, 1] (qr p [a, 1]).1
  have he := ev_add (by rw [ht]; exact hs.eq) a (r := p) (p := t) (q := (qr p [a, 1]).2)
  have hlt := hs.lt
  rw [len1_lin] at hlt
  rw [h, ev_mul ht, ev_lin, BitVec.xor_self, show ∀ y, Gf.mul 0#32 y = 0 from Gf.zero_mul, ev_const (by omega)] at he
  have h0 : cf (qr p [a, 1]).2 0 = 0 := by rw [he]; exact (zx _).symm
  have hz : cf (qr p [a, 1]).2 = fun _ => 0 := by
    funext i
    cases i with
    | zero => exact h0
    | succ i => exact cf_len1 _ (by omega)
  refine ⟨(qr p [a, 1]).1, ?_⟩
  rw [hs.eq, hz, addF_zero]
theorem Dv.root {p : List E} {a : E} (h : Dv [a, 1] p) : ev p a = 0 := by
  obtain ⟨u, hu⟩ := h
  rw [ev_mul hu, ev_lin, BitVec.xor_self]
  exact Gf.zero_mul _
theorem Dv.trans {a b c : List E} (h : Dv a b) (h' : Dv b c) : Dv a c := by
  obtain ⟨v, hv⟩ := h'
  exact h.mul v (by rw [hv, mulL_comm])
theorem Dv.evz {a b : List E} (h : Dv a b) {x : E} (hx : ev a x = 0) : ev b x = 0 := by
  obtain ⟨u, hu⟩ := h
  rw [ev_mul hu, hx]
  exact Gf.zero_mul _
theorem all_factors : ∀ (k : Nat) (l p : List E), l.length = k → l.Nodup → (∀ a, a ∈ l → ev p a = 0) → Dv (fromL l) p
  | 0, l, p, hl, _, _ => by
    obtain rfl := List.length_eq_zero_iff.1 hl
    exact ⟨p, by show cf p = mulL [1] (cf p); rw [mulL_single, sclF_one]⟩
  | k + 1, l, p, hl, hn, hr => by
    obtain ⟨m, r, rfl⟩ : ∃ m r, l = m ++ [r] := ⟨l.dropLast, l.getLast (by intro e; subst e; cases hl), (List.dropLast_concat_getLast _).symm⟩
    obtain ⟨q, hq⟩ := factor (hr r (by simp))
    obtain ⟨hm, _, hd⟩ := List.nodup_append.1 hn
    obtain ⟨u, hu⟩ := all_factors k m q (by simpa using hl) hm fun a ha => by
      have h1 := hr a (by simp [ha])
      rw [ev_mul hq, ev_lin] at h1
      rcases Gf.no_divisors h1 with h2 | h2
      · exact (hd a ha r (by simp) (xor_eq_zero.1 h2).symm).elim
      · exact h2
    refine ⟨u, ?_⟩
    rw [fromL_snoc, mulL_assoc (p := fromL m) (q := [r, 1]) (by rw [cf_mulR]) u, hq, hu, mulL_swap]
theorem count_le {p l : List E} (hp : len1 p ≠ 0) (hn : l.Nodup) (hr : ∀ a, a ∈ l → ev p a = 0) : l.length + 1 ≤ len1 p := by
  obtain ⟨u, hu⟩ := all_factors _ l p rfl hn hr
  obtain ⟨_, h2⟩ := mul_ne hu hp
  have := len_mul hu (by rw [(fromL_all l).2]; omega) h2
  rw [(fromL_all l).2] at this
  omega
theorem mem_fromL {l : List E} {a : E} : ev (fromL l) a = 0 ↔ a ∈ l := by
  rw [roots_ev, cnt, List.length_pos_iff_exists_mem]
  constructor
  · rintro ⟨x, hx⟩
    obtain ⟨h1, h2⟩ := List.mem_filter.1 hx
    rw [← beq_iff_eq.1 h2]
    exact h1
  · intro h
    exact ⟨a, List.mem_filter.2 ⟨h, beq_iff_eq.2 rfl⟩⟩
/-! ### the polynomial of all elements -/
theorem ev_Xn {p : List E} (x : E) : ∀ (k : Nat) {r : List E}, cf r = Xn k (cf p) → ev r x = Gf.mul (Gf.pow x k) (ev p x)
  | 0, r, h => by rw [ev_congr (by rw [h, Xn_zero]) x (q := p)]; exact (Gf.one_mul _).symm
  | k + 1, r, h => by
    obtain ⟨s, hs⟩ : ∃ s, cf s = Xn k (cf p) := mk_of (n := k + p.length) fun i hi => by
      show (if k ≤ i then cf p (i - k) else 0) = 0
      rw [if_pos (by omega), cf_ge (by omega)]
    rw [Xn_succ, ← hs] at h
    rw [ev_X h, ev_Xn x k hs, Gf.pow, ← Gf.mul_assoc, Gf.mul_comm x]
/-- x to the q, plus x -/
structure IsFx (q : Nat) (f : List E) : Prop where
  cfs : cf f = addF (Xn q oneF) (X oneF)
theorem fx_ex (q : Nat) : ∃ f, IsFx q f := by
  obtain ⟨f, hf⟩ := mk_of (F := addF (Xn q oneF) (X oneF)) (n := q + 2) fun i hi => by
    show (if q ≤ i then oneF (i - q) else 0) ^^^ X oneF i = 0
    rw [if_pos (by omega)]
    obtain ⟨j, rfl⟩ : ∃ j, i = j + 2 := ⟨i - 2, by omega⟩
    show (if j + 2 - q = 0 then (1 : E) else 0) ^^^ (if j + 1 = 0 then (1 : E) else 0) = 0
    rw [if_neg (by omega), if_neg (by omega)]
    rfl
  exact ⟨f, ⟨hf⟩⟩
theorem IsFx.len {q : Nat} {f : List E} (h : IsFx q f) (hq : 2 ≤ q) : len1 f = q + 1 := by
  refine len1_eq (fun i hi => ?_) (fun _ => ?_)
  · rw [h.cfs]
    show (if q ≤ i then oneF (i - q) else 0) ^^^ X oneF i = 0
    rw [if_pos (by omega)]
    obtain ⟨j, rfl⟩ : ∃ j, i = j + 2 := ⟨i - 2, by omega⟩
    show (if j + 2 - q = 0 then (1 : E) else 0) ^^^ (if j + 1 = 0 then (1 : E) else 0) = 0
    rw [if_neg (by omega), if_neg (by omega)]
    rfl
  · rw [h.cfs]
    show (if q ≤ q + 1 - 1 then oneF (q + 1 - 1 - q) else 0) ^^^ X oneF (q + 1 - 1) ≠ 0
    rw [if_pos (by omega)]
    obtain ⟨j, rfl⟩ : ∃ j, q = j + 2 := ⟨q - 2, by omega⟩
    show (if j + 2 + 1 - 1 - (j + 2) = 0 then (1 : E) else 0) ^^^ (if j + 1 = 0 then (1 : E) else 0) ≠ 0
    rw [if_pos (by omega), if_neg (by omega)]
    decide
theorem IsFx.evz {q : Nat} {f : List E} (h : IsFx q f) (hq : q = 4294967296) (a : E) : ev f a = 0 := by
  have h1 : cf [(1 : E)] = oneF := cf_one
  obtain ⟨s, hs⟩ : ∃ s, cf s = Xn q (cf [1]) := mk_of (n := q + 1) fun i hi => by
    show (if q ≤ i then cf [1] (i - q) else 0) = 0
    rw [if_pos (by omega), cf_ge (by show 1 ≤ i - q; omega)]
  obtain ⟨t, ht⟩ : ∃ t, cf t = X (cf [1]) := ⟨[0, 1], by
    funext i
    rcases i with _ | _ | i
    · rfl
    · rfl
    · show cf [0, 1] (i + 2) = cf [1] (i + 1)
      rw [cf_cons]⟩
  have h2 : cf f = addF (cf s) (cf t) := by rw [h.cfs, hs, ht, h1]
  have h3 : ev [(1 : E)] a = 1 := by
    show (1 : E) ^^^ Gf.mul a 0 = 1
    rw [show Gf.mul a 0 = 0 from Gf.mul_zero a]
    rfl
  rw [ev_add h2, ev_Xn a q hs, ev_X ht, h3, hq, Gf.pow_32]
  rw [show Gf.mul a 1 = a from Gf.mul_one a]
  exact BitVec.xor_self
theorem filter_cover {P Q : E → Bool} : ∀ (l : List E), (∀ a, a ∈ l → P a = true ∨ Q a = true) → l.length ≤ (l.filter P).length + (l.filter Q).length
  | [], _ => Nat.zero_le _
  | a :: l, h => by
    have ih := filter_cover l fun b hb => h b (List.mem_cons_of_mem _ hb)
    have ha := h a (List.mem_cons_self ..)
    rw [List.filter_cons, List.filter_cons, List.length_cons]
    rcases ha with e | e
    · rw [if_pos e, List.length_cons]
      split <;> simp <;> omega
    · rw [if_pos e, List.length_cons]
      split <;> simp <;> omega
/-- what divides it has as many roots as its degree -/
theorem splits {g f : List E} {q : Nat} (hq : q = 4294967296) (hf : IsFx q f) (hd : Dv g f) : len1 g ≠ 0 ∧ (rtsN q g).length + 1 = len1 g := by
  obtain ⟨u, hu⟩ := hd
  have hlf := hf.len (by omega)
  obtain ⟨hg, hu0⟩ := mul_ne hu (by omega)
  have hl := len_mul hu hg hu0
  have h1 := count_le hg (rtsN_srt hq g).nodup fun a ha => (rtsN_mem hq).1 ha
  have h2 := count_le hu0 (rtsN_srt hq u).nodup fun a ha => (rtsN_mem hq).1 ha
  have h3 := filter_cover (P := fun a => Po.ev g a == 0) (Q := fun a => Po.ev u a == 0) (elsN q) fun a _ => by
    have := hf.evz hq a
    rw [ev_mul hu] at this
    rcases Gf.no_divisors this with e | e
    · exact Or.inl (beq_iff_eq.2 e)
    · exact Or.inr (beq_iff_eq.2 e)
  rw [elsN_length] at h3
  change q ≤ (rtsN q g).length + (rtsN q u).length at h3
  exact ⟨hg, by omega⟩
theorem rts_eq (q : Nat) (hq : q = 4294967296) (p : List E) : rtsN q p = rts p := (rtsN_srt hq p).ext (rts_srt p) fun a => by rw [rtsN_mem hq, rts_mem]
theorem splits_from {g f : List E} {q : Nat} (hq : q = 4294967296) (hf : IsFx q f) (hd : Dv g f) (hm : cf g (len1 g - 1) = 1) (ht : len1 g = g.length) : g = fromL (rts g) := by
  obtain ⟨hg, hn⟩ := splits hq hf hd
  rw [rts_eq q hq] at hn
  obtain ⟨v, hv⟩ := all_factors _ (rts g) g rfl (rts_srt g).nodup fun a ha => rts_mem.1 ha
  obtain ⟨hfr, hv0⟩ := mul_ne hv hg
  have hl := len_mul hv hfr hv0
  rw [(fromL_all (rts g)).2] at hl
  have hv1 : len1 v = 1 := by omega
  have hvc : cf v = sclF (cf v 0) oneF := by
    funext i
    show cf v i = Gf.mul (cf v 0) (if i = 0 then 1 else 0)
    cases i with
    | zero => rw [if_pos rfl]; exact (Gf.mul_one _).symm
    | succ i => rw [cf_len1 v (by omega), if_neg (by omega)]; exact (Gf.mul_zero _).symm
  rw [hvc, mulL_scl, mulL_oneF] at hv
  have h1 : cf v 0 = 1 := by
    have := congrFun hv (len1 g - 1)
    rw [hm] at this
    have h2 := fromL_lead _ (rts g) rfl
    rw [show len1 g - 1 = (rts g).length from by omega] at this
    have h3 : (1 : E) = Gf.mul (cf v 0) (cf (fromL (rts g)) (rts g).length) := this
    rw [h2] at h3
    rw [h3]
    exact (Gf.mul_one _).symm
  rw [h1, sclF_one] at hv
  have hlen := (fromL_all (rts g)).1
  exact list_ext (by omega) fun i _ => congrFun hv i
theorem from_dv {l f : List E} {q : Nat} (hq : q = 4294967296) (hf : IsFx q f) (hn : l.Nodup) : Dv (fromL l) f := all_factors _ l f rfl hn fun a _ => hf.evz hq a
/-- the common divisor of what splits -/
theorem gcd_from {l t g : List E} (hn : l.Nodup) (h : Gcd (fromL l) t g) : g = fromL ((rts (fromL l)).filter fun a => ev t a == 0) := by
  obtain ⟨f, hf⟩ := fx_ex 4294967296
  have hl := (fromL_all l).2
  obtain ⟨h1, h2, h3, h4, h5, h6⟩ := h.main.2 (fun h => by omega)
  have hd := h4.trans (from_dv rfl hf hn)
  have hg := splits_from rfl hf hd h2 h3
  have : rts g = (rts (fromL l)).filter fun a => ev t a == 0 := (rts_srt g).ext ((rts_srt (fromL l)).filter _) fun a => by
    rw [rts_mem, List.mem_filter, rts_mem, beq_iff_eq]
    constructor
    · intro ha
      exact ⟨h4.evz ha, h5.evz ha⟩
    · rintro ⟨ha, hb⟩
      exact (h6 [a, 1] (factor ha) (factor hb)).root
  rw [← this]
  exact hg
theorem rts_from {l : List E} (h : Srt l) : rts (fromL l) = l := (rts_srt _).ext h fun a => by rw [rts_mem, mem_fromL]
end Go.Proofs.Ytamigcbodplmcaa.Po
