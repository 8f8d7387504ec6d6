/- massey's laws: what they have in common -/
import Derived.Test.YtmjboiaopihjeaaRows
import Derived.Test.YtmjboiaopihjeaaMsG
import Derived.OpenShut
namespace Go.Proofs.Ytmjboiaopihjeaa
open Go Go.RowKit Go.ChangeShapes Go.WideShapes
theorem words_lit {n : Nat} {cs : Array Value} (w : World) (l : List (BitVec 32)) (t : TypeId) (hn : l.length = n) (hcs : cs = (wlist l).toArray) (hs : n ≤ 1000) : Words32 (w.alloc (.cells cs t)) (some ⟨w.heap.size, 0, none⟩) n l :=
  ⟨hn, by unfold maxLen; omega, fun i hi => ⟨_, rfl, by
    rw [Addr.add_mid, Nat.zero_add, (Has.fresh w t _).cell, hcs]
    rw [← Array.getElem?_toList]
    exact wlist_at l i (by omega)⟩⟩
theorem Ms.least_geo : Ms.Least (Po.cf [1#32, 2#32, 4#32, 8#32]) 4 1 := by
  refine ⟨⟨[1#32, 2#32], rfl, fun j hj => Po.cf_ge (by simp; omega), fun i h1 h2 => ?_⟩, fun c' L' h => ?_⟩
  · have : i = 1 ∨ i = 2 ∨ i = 3 := by omega
    rcases this with rfl | rfl | rfl <;> decide +kernel
  · rcases Nat.eq_zero_or_pos L' with h0 | h0
    · exfalso
      have h1 := h.zero 0 (by omega) (by omega)
      rw [Ms.at_head c' _ 0 (fun j h3 h4 => by omega), h.one] at h1
      exact absurd h1 (by decide +kernel)
    · exact h0
theorem Ms.least_zero : Ms.Least (Po.cf [0#32, 0#32]) 2 0 := by
  refine ⟨⟨[1#32], rfl, fun j hj => Po.cf_ge (by simp; omega), fun i h1 h2 => ?_⟩, fun c' L' h => Nat.zero_le _⟩
  have : i = 0 ∨ i = 1 := by omega
  rcases this with rfl | rfl <;> decide +kernel
theorem Ms.least_late : Ms.Least (Po.cf [0#32, 1#32]) 2 2 := by
  refine ⟨⟨[1#32], Ms.one_rec _ 2⟩, fun c' L' h => ?_⟩
  rcases Nat.lt_or_ge L' 2 with h0 | h0
  · exfalso
    have h1 := h.zero 1 (by omega) (by omega)
    rw [Ms.at_head c' _ 1 (fun j h3 h4 => Or.inr (by
      obtain rfl : j = 1 := by omega
      rfl)), h.one] at h1
    exact absurd h1 (by decide +kernel)
  · exact h0
theorem Ms.geo_only {lc : List (BitVec 32)} (hl : lc.length = 1 + 1) (h : Ms.Rec lc 1 (Po.cf [1#32, 2#32, 4#32, 8#32]) 4) : lc = [1#32, 2#32] := by
  have h2 : Ms.Rec [1#32, 2#32] 1 (Po.cf [1#32, 2#32, 4#32, 8#32]) 4 := by
    refine ⟨rfl, fun j hj => Po.cf_ge (by simp; omega), fun i h1 h2 => ?_⟩
    have : i = 1 ∨ i = 2 ∨ i = 3 := by omega
    rcases this with rfl | rfl | rfl <;> decide +kernel
  have := Ms.Rec.unique Ms.least_geo h h2 (by omega)
  exact Po.list_ext (by rw [hl]; rfl) fun i _ => congrFun this i
set_option maxHeartbeats 1000000 in
theorem alive03 (w : World) :
    Calls Try.prog 8 #[] w fun e w' => e = .returned (.bool true) ∧ Below w.heap.size w w' := by
  have h24 : (4 : Nat) ≤ 1000000 := by omega
  have h22 : (2 : Nat) ≤ 1000000 := by omega
  go_enter Try.func8, Try.ntmps8
  go_wp2_with (first
    | (go_at_call 9; refine (shortest_any (some ⟨w.heap.size, 0, none⟩) 4 4 1 [1#32, 2#32, 4#32, 8#32] _ (words_lit w _ 29 rfl rfl (by omega)) (Nat.le_refl _) h24 Ms.least_geo).mono ?_; rintro e w1 ⟨⟨v, lc, rfl, hv, hlc, hrc⟩, hb1⟩; have hlc2 := Ms.geo_only hlc hrc; clear hlc hrc; subst hlc2; obtain ⟨va, vc, rfl, hvc, hvw⟩ := fresh_shape (K := 2) hv rfl; have hB1 := ((Below.refl _ w).alloc (Nat.le_refl _) _).trans (hb1.mono (by simp)))
    | (go_at_call 14; refine (words_same va _ _ vc 2 2 [1#32, 2#32] [1#32, 2#32] _ (hvw.past _) (words_lit w1 _ 29 rfl rfl (by omega)) rfl).mono ?_; rintro e w2 ⟨rfl, hd⟩; have hB2 := (hB1.alloc hB1.size _).trans (hd.below _))
    | (go_at_call 11; refine (length_any (some ⟨w2.heap.size, 0, none⟩) 2 2 0 [0#32, 0#32] _ (words_lit w2 _ 29 rfl rfl (by omega)) (Nat.le_refl _) h22 Ms.least_zero).mono ?_; rintro e w3 ⟨rfl, hb3⟩; have hB3 := (hB2.alloc hB2.size _).trans (hb3.mono (by rw [World.size_alloc]; exact Nat.le_succ_of_le hB2.size)))
    | (go_at_call 11; refine (length_any (some ⟨w3.heap.size, 0, none⟩) 2 2 2 [0#32, 1#32] _ (words_lit w3 _ 29 rfl rfl (by omega)) (Nat.le_refl _) h22 Ms.least_late).mono ?_; rintro e w4 ⟨rfl, hb4⟩; have hB4 := (hB3.alloc hB3.size _).trans (hb4.mono (by rw [World.size_alloc]; exact Nat.le_succ_of_le hB3.size))))
  go_ret
  exact ⟨rfl, hB4⟩
end Go.Proofs.Ytmjboiaopihjeaa
