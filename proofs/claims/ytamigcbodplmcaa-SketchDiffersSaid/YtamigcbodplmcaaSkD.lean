/- decoding by definition: pure facts -/
import Derived.Test.YtamigcbodplmcaaSkR
import Derived.Test.YtamigcbodplmcaaSkE
namespace Go.Proofs.Ytamigcbodplmcaa.Sk
open Go.Proofs.Ytamigcbodplmcaa Go.Proofs.Ytamigcbodplmcaa.Po Go.Proofs.Ytamigcbodplmcaa.Ms
/-- the sums of all powers, out of those of the odd ones -/
def ex (l : List E) (i : Nat) : E := if h : i % 2 = 0 then cf l (i / 2) else Gf.mul (ex l (i / 2)) (ex l (i / 2))
termination_by i
decreasing_by all_goals omega
theorem ex_even (l : List E) {i : Nat} (h : i % 2 = 0) : ex l i = cf l (i / 2) := by rw [ex, dif_pos h]
theorem ex_odd (l : List E) {i : Nat} (h : ¬ i % 2 = 0) : ex l i = Gf.mul (ex l (i / 2)) (ex l (i / 2)) := by rw [ex, dif_neg h]
theorem ex_ps {l A : List E} (hA : Is l A) : ∀ i, i < 2 * l.length → ex l i = sq A i := by
  intro i
  induction i using Nat.strongRecOn with
  | ind i ih =>
    intro hi
    unfold sq at ih ⊢
    by_cases h : i % 2 = 0
    · rw [ex_even l h, ← hA.sums (i / 2) (by omega), show 2 * (i / 2) + 1 = i + 1 from by omega]
    · rw [ex_odd l h, ih (i / 2) (by omega) (by omega), ← Gf.square_eq, ← ps_double, show 2 * (i / 2 + 1) = i + 1 from by omega]
/-- the sequence as a list -/
def exL (l : List E) : List E := Po.mk (2 * l.length) (ex l)
theorem exL_cf (l : List E) {i : Nat} (h : i < 2 * l.length) : cf (exL l) i = ex l i := by unfold exL; rw [cf_mk, if_pos h]
theorem sys_ex {l A : List E} {v : Nat} (hA : Is l A) (hv : v ≤ l.length) {i : Nat} (hi : i < v) : ∀ j, j ≤ v → sysR (cf (exL l)) v i j = sysR (sq A) v i j := fun j hj => by
  unfold sysR
  split
  · rw [exL_cf l (by omega), ex_ps hA _ (by omega)]
  · rw [exL_cf l (by omega), ex_ps hA _ (by omega)]
theorem no_kernel {l A : List E} (hA : Is l A) {z : Nat → E} {j : Nat} (hj : j < A.length) (h1 : z j = 1) (hz : ∀ i, i < A.length → dotN (sysR (cf (exL l)) A.length i) z A.length = 0) : False := by
  have := loc_inj hA.srt.nodup hA.ne (z := z) (fun i hi => by
    rw [← hz i hi]
    exact dotN_congr _ (fun j hj => (sys_ex hA hA.le hi j (by omega)).symm) (fun _ _ => rfl)) j hj
  rw [h1] at this
  exact absurd this (by decide)
theorem found_loc {l A : List E} (hA : Is l A) {x : Nat → E} (hx : ∀ i, i < A.length → dotN (sysR (cf (exL l)) A.length i) x A.length = sysR (cf (exL l)) A.length i A.length) : ∀ j, j < A.length → x j = cf (fromL A) (A.length - 1 - j) :=
  loc_one hA.srt.nodup hA.ne fun i hi => by
    have h1 := hx i hi
    rw [sys_ex hA hA.le hi A.length (Nat.le_refl _)] at h1
    rw [dotN_congr (q := sysR (cf (exL l)) A.length i) (y := x) _ (fun j hj => (sys_ex hA hA.le hi j (by omega)).symm) (fun _ _ => rfl), h1]
    unfold sysR
    rw [if_neg (Nat.lt_irrefl _)]
theorem found_goes {l A x : List E} (hA : Is l A) (hx : ∀ j, j < A.length → cf x j = cf (fromL A) (A.length - 1 - j)) : ∀ i, 2 * A.length ≤ i → i < 2 * l.length → cf (exL l) i ^^^ dotN (cf x) (fun j => cf (exL l) (i - 1 - j)) A.length = 0 := by
  intro i h1 h2
  have h3 := loc_sol A (i - A.length)
  rw [show i - A.length + A.length = i from by omega] at h3
  rw [exL_cf l h2, ex_ps hA i h2, ← h3, dotN_comm (cf x)]
  have : dotN (fun j => cf (exL l) (i - 1 - j)) (cf x) A.length = dotN (sysR (sq A) A.length (i - A.length)) (fun j => cf (fromL A) (A.length - 1 - j)) A.length := dotN_congr _ (fun j hj => by
    unfold sysR
    rw [if_pos hj, exL_cf l (by omega), ex_ps hA _ (by omega), show i - A.length + A.length - 1 - j = i - 1 - j from by omega]) hx
  rw [this]
  exact BitVec.xor_self
theorem found_poly {A x : List E} (hl : x.length = A.length) (hx : ∀ j, j < A.length → cf x j = cf (fromL A) (A.length - 1 - j)) : x.reverse ++ [1] = fromL A := by
  refine list_ext (by rw [List.length_append, List.length_reverse, (fromL_all A).1, hl]; rfl) fun i hi => ?_
  rw [List.length_append, List.length_reverse, hl] at hi
  by_cases e : i < A.length
  · show (x.reverse ++ [1]).getD i 0 = _
    rw [List.getD_eq_getElem?_getD, List.getElem?_append_left (by rw [List.length_reverse]; omega), List.getElem?_reverse (by omega), ← List.getD_eq_getElem?_getD]
    show cf x (x.length - 1 - i) = _
    rw [hx _ (by omega), hl, show A.length - 1 - (A.length - 1 - i) = i from by omega]
  · have hiA : i = A.length := by
      have : ([1] : List E).length = 1 := rfl
      omega
    show (x.reverse ++ [1]).getD i 0 = _
    rw [List.getD_eq_getElem?_getD, List.getElem?_append_right (by rw [List.length_reverse]; omega), List.length_reverse, hl, hiA, Nat.sub_self, fromL_lead _ A rfl]
    rfl
theorem rev_one (x : List E) : len1 (x.reverse ++ [1]) = x.length + 1 := by
  refine len1_eq (fun i hi => cf_ge (by simp; omega)) (fun _ => ?_)
  show (x.reverse ++ [1]).getD (x.length + 1 - 1) 0 ≠ 0
  rw [List.getD_eq_getElem?_getD, List.getElem?_append_right (by simp), List.length_reverse, show x.length + 1 - 1 - x.length = 0 from by omega]
  show (1 : E) ≠ 0
  decide
theorem is_nil (l : List E) : Is l [] ↔ l = syn l.length [] := by
  constructor
  · intro h
    refine list_ext (by unfold syn; rw [mk_length]) fun i hi => ?_
    rw [← h.sums i hi]
    unfold syn
    rw [cf_mk, if_pos hi]
  · intro h
    refine ⟨List.Pairwise.nil, (fun x hx => by cases hx), Nat.zero_le _, fun k hk => ?_⟩
    have h2 : cf l k = cf (syn l.length []) k := congrArg (fun t => cf t k) h
    rw [h2]
    unfold syn
    rw [cf_mk, if_pos hk]
theorem srt_ne {A : List E} (hs : Srt A) (h : A.getD 0 0 ≠ 0) : ∀ x, x ∈ A → x ≠ 0 := by
  cases A with
  | nil => intro x hx; cases hx
  | cons a A =>
    intro x hx e
    have ha : a ≠ 0 := h
    rcases List.mem_cons.1 hx with e2 | e2
    · exact ha (e2 ▸ e)
    · have h1 := (List.pairwise_cons.1 hs).1 x e2
      rw [e] at h1
      have : (0 : E).toNat = 0 := rfl
      omega
theorem is_of {l p : List E} (hle : (rts p).length ≤ l.length) (hne : (rts p).getD 0 0 ≠ 0) (hs : syn l.length (rts p) = l) : Is l (rts p) :=
  ⟨rts_srt p, srt_ne (rts_srt p) hne, hle, fun k hk => by
    have h2 : cf l k = cf (syn l.length (rts p)) k := congrArg (fun t => cf t k) hs.symm
    rw [h2]
    unfold syn
    rw [cf_mk, if_pos hk]⟩
end Go.Proofs.Ytamigcbodplmcaa.Sk
