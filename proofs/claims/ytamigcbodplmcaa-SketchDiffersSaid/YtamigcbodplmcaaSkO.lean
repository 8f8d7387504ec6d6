/- an odd number of times: putting an id to a rising list, or taking it out (pure) -/
import Derived.Test.YtamigcbodplmcaaSkM
namespace Go.Proofs.Ytamigcbodplmcaa.Sk
open Go.Proofs.Ytamigcbodplmcaa Go.Proofs.Ytamigcbodplmcaa.Po
/-- x is put in, or taken out -/
def tog (x : E) : List E → List E
  | [] => [x]
  | y :: t => if y.toNat < x.toNat then y :: tog x t else if y = x then t else x :: y :: t
/-- of each that is there an odd number of times -/
def odds : List E → List E → List E
  | out, [] => out
  | out, x :: l => odds (tog x out) l
theorem xor_mid (a b c : E) : a ^^^ (b ^^^ c) = b ^^^ (a ^^^ c) := by rw [← BitVec.xor_assoc, BitVec.xor_comm a b, BitVec.xor_assoc]
theorem xor_back (a b : E) : a ^^^ (a ^^^ b) = b := by rw [← BitVec.xor_assoc, BitVec.xor_self]; exact zx b
theorem tog_ps (x : E) (k : Nat) : ∀ l, ps (tog x l) k = ps l k ^^^ Gf.pow x k
  | [] => by
    show Gf.pow x k ^^^ 0 = 0 ^^^ Gf.pow x k
    exact BitVec.xor_comm _ _
  | y :: t => by
    unfold tog
    split
    · show Gf.pow y k ^^^ ps (tog x t) k = (Gf.pow y k ^^^ ps t k) ^^^ Gf.pow x k
      rw [tog_ps x k t, BitVec.xor_assoc]
    · split
      · rename_i e
        show ps t k = (Gf.pow y k ^^^ ps t k) ^^^ Gf.pow x k
        rw [e, BitVec.xor_comm, xor_back]
      · show Gf.pow x k ^^^ (Gf.pow y k ^^^ ps t k) = (Gf.pow y k ^^^ ps t k) ^^^ Gf.pow x k
        exact BitVec.xor_comm _ _
theorem tog_mem {x z : E} : ∀ {l}, z ∈ tog x l → z = x ∨ z ∈ l
  | [], h => Or.inl (by simpa [tog] using h)
  | y :: t, h => by
    unfold tog at h
    split at h
    · rcases List.mem_cons.1 h with e | e
      · exact Or.inr (e ▸ List.mem_cons_self ..)
      · rcases tog_mem e with e2 | e2
        · exact Or.inl e2
        · exact Or.inr (List.mem_cons_of_mem _ e2)
    · split at h
      · exact Or.inr (List.mem_cons_of_mem _ h)
      · rcases List.mem_cons.1 h with e | e
        · exact Or.inl e
        · exact Or.inr e
theorem tog_srt {x : E} : ∀ {l}, Srt l → Srt (tog x l)
  | [], _ => List.pairwise_singleton _ _
  | y :: t, h => by
    obtain ⟨h1, h2⟩ := List.pairwise_cons.1 h
    unfold tog
    split
    · rename_i g
      refine List.pairwise_cons.2 ⟨fun z hz => ?_, tog_srt h2⟩
      rcases tog_mem hz with e | e
      · rw [e]; exact g
      · exact h1 z e
    · split
      · exact h2
      · rename_i g1 g2
        have g3 : x.toNat < y.toNat := by
          have : y.toNat ≠ x.toNat := fun e => g2 (BitVec.eq_of_toNat_eq e)
          omega
        refine List.pairwise_cons.2 ⟨fun z hz => ?_, h⟩
        rcases List.mem_cons.1 hz with e | e
        · rw [e]; exact g3
        · exact Nat.lt_trans g3 (h1 z e)
theorem tog_length (x : E) : ∀ l, (tog x l).length ≤ l.length + 1
  | [] => Nat.le_refl _
  | y :: t => by
    have := tog_length x t
    unfold tog
    split
    · simp only [List.length_cons]; omega
    · split
      · simp only [List.length_cons]; omega
      · simp only [List.length_cons]; omega
theorem tog_out {x : E} : ∀ {l : List E} {k : Nat}, (∀ j, j < k → (cf l j).toNat < x.toNat) → k < l.length → cf l k = x → tog x l = l.take k ++ l.drop (k + 1)
  | [], k, _, h, _ => absurd h (Nat.not_lt_zero _)
  | y :: t, 0, _, _, h => by
    have e : y = x := h
    unfold tog
    rw [if_neg (by rw [e]; exact Nat.lt_irrefl _), if_pos e]
    rfl
  | y :: t, k + 1, h1, h2, h3 => by
    have g : y.toNat < x.toNat := h1 0 (Nat.succ_pos _)
    unfold tog
    rw [if_pos g, tog_out (l := t) (k := k) (fun j hj => h1 (j + 1) (by omega)) (by simpa using h2) h3]
    rfl
theorem tog_in {x : E} : ∀ {l : List E} {k : Nat}, (∀ j, j < k → (cf l j).toNat < x.toNat) → k ≤ l.length → (k < l.length → x.toNat < (cf l k).toNat) → tog x l = l.take k ++ x :: l.drop k
  | [], 0, _, _, _ => rfl
  | [], k + 1, _, h, _ => absurd h (Nat.not_succ_le_zero _)
  | y :: t, 0, _, _, h => by
    have g : x.toNat < y.toNat := h (Nat.succ_pos _)
    unfold tog
    rw [if_neg (by omega), if_neg (fun e => by rw [e] at g; exact Nat.lt_irrefl _ g)]
    rfl
  | y :: t, k + 1, h1, h2, h3 => by
    have g : y.toNat < x.toNat := h1 0 (Nat.succ_pos _)
    unfold tog
    rw [if_pos g, tog_in (l := t) (k := k) (fun j hj => h1 (j + 1) (by omega)) (by simpa using h2) (fun h => h3 (by simpa using h))]
    rfl
theorem odds_snoc (out : List E) : ∀ (l : List E) (x : E), odds out (l ++ [x]) = tog x (odds out l) := by
  intro l
  induction l generalizing out with
  | nil => intro x; rfl
  | cons y l ih => intro x; exact ih (tog y out) x
theorem odds_srt {out : List E} (h : Srt out) : ∀ l, Srt (odds out l) := by
  intro l
  induction l generalizing out with
  | nil => exact h
  | cons y l ih => exact ih (tog_srt h)
theorem odds_mem {z : E} {out : List E} : ∀ {l}, z ∈ odds out l → z ∈ out ∨ z ∈ l := by
  intro l
  induction l generalizing out with
  | nil => exact Or.inl
  | cons y l ih =>
    intro h
    rcases ih h with e | e
    · rcases tog_mem e with e2 | e2
      · exact Or.inr (e2 ▸ List.mem_cons_self ..)
      · exact Or.inl e2
    · exact Or.inr (List.mem_cons_of_mem _ e)
theorem odds_length (out : List E) : ∀ l, (odds out l).length ≤ out.length + l.length := by
  intro l
  induction l generalizing out with
  | nil => exact Nat.le_refl _
  | cons y l ih =>
    have h1 := ih (tog y out)
    have h2 := tog_length y out
    show (odds (tog y out) l).length ≤ _
    simp only [List.length_cons]
    omega
theorem odds_ps (k : Nat) (out : List E) : ∀ l, ps (odds out l) k = ps out k ^^^ ps l k := by
  intro l
  induction l generalizing out with
  | nil => exact (xz _).symm
  | cons y l ih =>
    show ps (odds (tog y out) l) k = ps out k ^^^ (Gf.pow y k ^^^ ps l k)
    rw [ih, tog_ps, BitVec.xor_assoc]
/-- the set in which two differ has the sum of the sums, whatever both have -/
theorem odds_is {A B : List E} (hA : ∀ x, x ∈ A → x ≠ 0) (hB : ∀ x, x ∈ B → x ≠ 0) {l : List E} (hl : (odds [] (A ++ B)).length ≤ l.length) (h : ∀ k, k < l.length → cf l k = ps A (2 * k + 1) ^^^ ps B (2 * k + 1)) : Is l (odds [] (A ++ B)) :=
  ⟨odds_srt List.Pairwise.nil _, fun x hx => by
    rcases odds_mem hx with e | e
    · cases e
    · rcases List.mem_append.1 e with e2 | e2
      · exact hA x e2
      · exact hB x e2, hl, fun k hk => by
    rw [h k hk, odds_ps]
    show (0 : E) ^^^ ps (A ++ B) (2 * k + 1) = _
    unfold ps
    rw [S_append]
    exact zx _⟩
theorem ps_both (C A B : List E) (k : Nat) : ps (C ++ A) k ^^^ ps (C ++ B) k = ps A k ^^^ ps B k := by
  unfold ps
  rw [S_append, S_append, BitVec.xor_assoc, xor_mid (S _ A), xor_back]
end Go.Proofs.Ytamigcbodplmcaa.Sk
