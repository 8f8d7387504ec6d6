/- package pack: In.Hash -/
import Derived.Test.YtpbijcchdjppmaaPkK
namespace Go.Proofs.Ytpbijcchdjppmaa
open Go Go.RowKit Go.ChangeShapes Go.WideShapes
theorem z32_list : z32 = (blist (List.replicate 32 0#8)).toArray := by rfl
theorem rdHash_take (s : Pk.Rd) : Pk.rdHash s = ((Pk.rdTake s 32).1, if (Pk.rdTake s 32).2.length = 32 then (Pk.rdTake s 32).2 else List.replicate 32 0#8) := by
  cases s with
  | none => rfl
  | some B =>
    show (if 32 ≤ B.length then _ else _) = (((if 32 ≤ B.length then _ else _) : Pk.Rd × List (BitVec 8)).1, if ((if 32 ≤ B.length then _ else _) : Pk.Rd × List (BitVec 8)).2.length = 32 then _ else _)
    by_cases h : 32 ≤ B.length
    · have hl : (B.take 32).length = 32 := by rw [List.length_take]; omega
      rw [if_pos h, if_pos h]
      dsimp only
      have e : (Pk.rdTake (some B) 32).2 = B.take 32 := by
        show ((if 32 ≤ B.length then _ else _) : Pk.Rd × List (BitVec 8)).2 = _
        rw [if_pos h]
      rw [hl, if_pos rfl, e]
    · rw [if_neg h, if_neg h]
      rfl
theorem rdTake_len (s : Pk.Rd) (n : Nat) : (Pk.rdTake s n).2.length = n ∨ (Pk.rdTake s n).2 = [] := by
  cases s with
  | none => exact .inr rfl
  | some B =>
    show ((if n ≤ B.length then _ else _) : Pk.Rd × List (BitVec 8)).2.length = n ∨ ((if n ≤ B.length then _ else _) : Pk.Rd × List (BitVec 8)).2 = []
    by_cases h : n ≤ B.length
    · rw [if_pos h]
      left
      dsimp only
      rw [List.length_take]
      omega
    · rw [if_neg h]
      exact .inr rfl
set_option maxRecDepth 100000 in
set_option maxHeartbeats 8000000 in
theorem inHash_any (g : Nat) (r : Option Nat) (s : Pk.Rd) (w : World) (h : InS w g r s) :
    Calls Try.prog 59 #[.pointer (some ⟨g, 0, none⟩)] w (InPost encH g r (Pk.rdHash s) w) := by
  rw [rdHash_take]
  obtain ⟨w0, hw0⟩ : ∃ x, x = (w.alloc (.cells z32 49)).alloc (.cells z32 49) := ⟨_, rfl⟩
  have hb0 : Below w.heap.size w w0 := by rw [hw0]; exact ((Below.refl _ _).alloc (Nat.le_refl _) _).alloc (by simp) _
  have hR0 : Has w0 w.heap.size 49 z32 := by rw [hw0]; exact (Has.fresh _ _ _).past _
  have hH0 : Has w0 (w.heap.size + 1) 49 z32 := by rw [hw0]; exact Has.fresh_at _ _ _ (by simp)
  have hG0 : InS w0 g r s := h.below hb0
  have hgl : g < w.heap.size := by obtain ⟨_, _, _, _, h1, _⟩ := h.has; exact h1.lt
  have HT := Lib.hid (fun w1 (h1 : InS w1 g r s) => take_any g r s 32 w1 h1)
  have HLN := Lib.hid (rdTake_len s 32)
  obtain ⟨p, hp⟩ : ∃ p, p = Pk.rdTake s 32 := ⟨_, rfl⟩
  rw [← hp] at HT HLN ⊢
  obtain ⟨s2, T⟩ := p
  dsimp only at HLN ⊢
  have HW0 := Lib.hid hw0
  have HG := Lib.hid hgl
  have HK := Lib.hid h.1
  obtain ⟨gr, hgr⟩ : ∃ x, x = w.heap.size := ⟨_, rfl⟩
  obtain ⟨gh, hgh⟩ : ∃ x, x = gr + 1 := ⟨_, rfl⟩
  obtain ⟨R, hR⟩ : ∃ R, R = if T.length = 32 then T else List.replicate 32 0#8 := ⟨_, rfl⟩
  rw [← hR]
  rw [← hgr] at hR0 hH0 HG
  rw [← hgh] at hH0
  have HGR := Lib.hid (And.intro hgr (And.intro hgh hR))
  have hRl : R.length = 32 := by
    rw [hR]
    split
    · assumption
    · simp
  have HRL := Lib.hid hRl
  clear hw0 hp h hgl hgr hgh hR hRl
  go_enter Try.func59, Try.ntmps59
  go_upto_region 2 with fail
  rw [← HW0.out, ← HGR.out.1, ← HGR.out.2.1]
  have hGd : InS w0.drew g r s := hG0.below (Below.refl _ _).drew
  have HX := Lib.hid (show ∀ w1 a m c, Moved (inF g) w0.drew w1 → Bytes8 w1 a m T → ∃ k : Nat, (Builtin.copy_ #[38, 38] 3 #[.slice (some ⟨gh, 0, none⟩) 32 32, .slice a m c]).run Try.prog w1 = .ok (goInt k) (w1.setCells gh 0 (blist (T.take k))) ∧ Has (w1.setCells gh 0 (blist (T.take k))) gh 49 (blist R).toArray from fun w1 a m c hm hB => by
    have hne : ¬ (inF g) gh := by have := HG.out; have := HGR.out.2.1; intro e; have e' : gh = g := e; omega
    have h1 : Has w1 gh 49 z32 := (show Has w0.drew gh 49 z32 from hH0).moved hm hne
    refine ⟨Nat.min m 32, copy_bytes_at w1 gh 0 32 m c (Nat.min m 32) a T z32 h1 hB rfl (by decide), ?_⟩
    rcases HLN.out with h | h
    · have hm32 : m = 32 := hB.1.symm.trans h
      subst hm32
      have e1 : T.take (Nat.min 32 32) = T := List.take_of_length_le (by rw [h]; decide)
      have e2 : R = T := by rw [HGR.out.2.2, if_pos h]
      rw [e1, e2]
      exact h1.whole (by rw [h]; rfl)
    · have hm0 : m = 0 := by rw [← hB.1, h]; rfl
      subst hm0
      have e2 : R = List.replicate 32 0#8 := by rw [HGR.out.2.2, if_neg (by rw [h]; decide)]
      rw [h, e2, ← z32_list]
      exact h1)
  go_region_with ((go_at_call 62; refine (HT.out _ hGd).mono ?_; rintro e w1 ⟨⟨a, m, c, rfl, hB1, hc1⟩, hi1, hm1⟩; obtain ⟨k, hcp, hh1⟩ := HX.out w1 a m c hm1 hB1; have HH := Lib.hid hh1; clear hh1))
  all_goals
    obtain ⟨w2, hw2⟩ : ∃ x, x = w1.setCells gh 0 (blist (T.take k)) := ⟨_, rfl⟩
    rw [← hw2] at HH ⊢
    have HW2 := Lib.hid hw2
    clear hw2
    have hne : gr ≠ g ∧ gr ≠ gh ∧ w.heap.size ≤ gr ∧ w.heap.size ≤ gh := by have := HG.out; have := HGR.out.2.1; have := HGR.out.1; omega
    have HNE := Lib.hid hne
    clear hne
    have hm1' : Moved (inF g) w w1 := ((Moved.of_below hb0).then (Below.refl _ _).drew).trans hm1 (fun _ e => .inl e)
    have hm2 : Moved (inF g) w w2 := by
      rw [HW2.out]
      exact Moved.putAll (.inr HNE.out.2.2.2) _ 0 hm1'
    have hR1 : Has w1 gr 49 z32 := (show Has w0.drew gr 49 z32 from hR0).moved hm1 (fun e => HNE.out.1 e)
    have hR2 : Has w2 gr 49 z32 := by
      rw [HW2.out]
      exact hR1.asideAll HNE.out.2.1 _ 0
    have hi2 : InS w2 g r s2 := by
      rw [HW2.out]
      refine hi1.moved (F := fun k => k = gh) (Moved.putAll (F := fun k => k = gh) (.inl rfl) _ 0 (Moved.refl _ _)) (fun e => by have := HG.out; have := HGR.out.2.1; omega) (fun k e he => by have := (HK.out k e).2; have := HNE.out.2.2.2; have he' : k = gh := he; omega)
    have hx := Has.load_bytes (P := Try.prog) Try.underlying49 (by kernel_rfl) HRL.out HH.out
    have HT2 := Lib.hid (And.intro (hR2.there 0 (blist R).toArray.size (by rw [List.size_toArray, blist_length, HRL.out]; decide)) (And.intro (size_hash' HRL.out) (one_hash R)))
    go_wp2_with (first
      | (refine wpList_store_mid rfl 49 (.tmp 2) (.tmp 8) rfl gr 0 (blist R).toArray rfl rfl HT2.out.1 HT2.out.2.1 HT2.out.2.2 ?_)
      | (refine wpList_load_run rfl 49 (.tmp 3) rfl _ _ rfl hx ?_))
    have hE := hR2.whole (l := R) (by rw [HRL.out]; rfl)
    have hS := size_hash HRL.out
    refine bodyPost_ret (results_one_cell rfl _ _ gr rfl _ (run_loadVar_mid _ _ 0 49 _ _ hE.range Try.underlying49 rfl hS)) rfl ⟨rfl, ?_, Moved.putAll (.inr HNE.out.2.2.1) _ 0 hm2⟩
    exact hi2.moved (F := fun k => k = gr) (Moved.putAll (F := fun k => k = gr) (.inl rfl) _ 0 (Moved.refl _ _)) (fun e => HNE.out.1 e.symm) (fun k e he => by have := (HK.out k e).2; have := HNE.out.2.2.1; have he' : k = gr := he; omega)
set_option maxRecDepth 100000 in
set_option maxHeartbeats 8000000 in
theorem inHash_none (w : World) : Calls Try.prog 59 #[.pointer none] w fun e w' => e = .returned (.agg (blist (List.replicate 32 0#8)).toArray) ∧ Below w.heap.size w w' := by
  obtain ⟨w0, hw0⟩ : ∃ x, x = (w.alloc (.cells z32 49)).alloc (.cells z32 49) := ⟨_, rfl⟩
  have hb0 : Below w.heap.size w w0 := by rw [hw0]; exact ((Below.refl _ _).alloc (Nat.le_refl _) _).alloc (by simp) _
  have hR0 : Has w0 w.heap.size 49 z32 := by rw [hw0]; exact (Has.fresh _ _ _).past _
  have hH0 : Has w0 (w.heap.size + 1) 49 (blist (List.replicate 32 0#8)).toArray := by rw [hw0]; exact Has.fresh_at _ _ _ (by simp)
  have hRl : (List.replicate 32 0#8).length = 32 := List.length_replicate
  obtain ⟨R, hR⟩ : ∃ R, R = List.replicate 32 0#8 := ⟨_, rfl⟩
  rw [← hR] at hH0 hRl ⊢
  have HRL := Lib.hid hRl
  have HT := Lib.hid (fun w1 => take_none 32 w1)
  have HW0 := Lib.hid hw0
  have hcp : (Builtin.copy_ #[38, 38] 3 #[.slice (some ⟨w.heap.size + 1, 0, none⟩) 32 32, .slice none 0 0]).run Try.prog w0.drew = .ok (goInt 0) w0.drew := run_copy_none (P := Try.prog) w0.drew 38 38 3 5 _ none 32 32 0 0 Try.underlying38 size_byte (by simp)
  clear hw0 hR hRl
  go_enter Try.func59, Try.ntmps59
  go_upto_region 2 with fail
  rw [← HW0.out]
  go_region_with ((go_at_call 62; refine (HT.out _).mono ?_; rintro e w1 ⟨rfl, rfl⟩))
  all_goals
    obtain ⟨w2, hw2⟩ : ∃ x, x = w0.drew := ⟨_, rfl⟩
    have hb2 : Below w.heap.size w w2 := by rw [hw2]; exact hb0.drew
    have hR2 : Has w2 w.heap.size 49 z32 := by rw [hw2]; exact hR0
    have hH2 : Has w2 (w.heap.size + 1) 49 (blist R).toArray := by rw [hw2]; exact hH0
    rw [← hw2]
    clear hw2 hcp
    have hx := Has.load_bytes (P := Try.prog) Try.underlying49 (by kernel_rfl) HRL.out hH2
    have HT2 := Lib.hid (And.intro (hR2.there 0 (blist R).toArray.size (by rw [List.size_toArray, blist_length, HRL.out]; decide)) (And.intro (size_hash' HRL.out) (one_hash R)))
    go_wp2_with (first
      | (refine wpList_store_mid rfl 49 (.tmp 2) (.tmp 8) rfl w.heap.size 0 (blist R).toArray rfl rfl HT2.out.1 HT2.out.2.1 HT2.out.2.2 ?_)
      | (refine wpList_load_run rfl 49 (.tmp 3) rfl _ _ rfl hx ?_))
    have hE := hR2.whole (l := R) (by rw [HRL.out]; rfl)
    have hS := size_hash HRL.out
    exact bodyPost_ret (results_one_cell rfl _ _ w.heap.size rfl _ (run_loadVar_mid _ _ 0 49 _ _ hE.range Try.underlying49 rfl hS)) rfl ⟨rfl, below_setAll (Nat.le_refl _) _ 0 hb2⟩
end Go.Proofs.Ytpbijcchdjppmaa
