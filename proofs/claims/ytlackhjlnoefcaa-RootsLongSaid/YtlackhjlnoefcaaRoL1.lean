/- RootsLong -/
import Derived.Test.YtlackhjlnoefcaaRoK
namespace Go.Proofs.Ytlackhjlnoefcaa
open Go Go.RowKit Go.ChangeShapes Go.WideShapes
theorem Po.pow_zero {x : BitVec 32} : ∀ {d : Nat}, 0 < d → (Gf.pow x d = 0 ↔ x = 0)
  | d + 1, _ => by
    constructor
    · intro h
      rcases Gf.no_divisors h with h1 | h1
      · rcases Nat.eq_zero_or_pos d with h0 | h0
        · rw [h0] at h1
          have h2 : (1 : BitVec 32) = 0 := h1
          exact absurd h2 (by decide)
        · exact (Po.pow_zero h0).1 h1
      · exact h1
    · rintro rfl
      exact Gf.mul_zero _
theorem Po.rts_mono {l : List (BitVec 32)} {d : Nat} (h : Po.cf l = Po.Xn d Po.oneF) (hd : 0 < d) : Po.rts l = [0] := by
  refine (Po.rts_srt l).ext (List.pairwise_singleton _ _) fun a => ?_
  have h1 : Po.ev [(1 : BitVec 32)] a = 1 := by
    show (1 : BitVec 32) ^^^ Gf.mul a 0 = 1
    rw [show Gf.mul a 0 = 0 from Gf.mul_zero a]
    rfl
  rw [Po.rts_mem, Po.ev_Xn (p := [1]) a d (by rw [h, Po.cf_one]), h1, show ∀ y, Gf.mul y 1 = y from Gf.mul_one, Po.pow_zero hd, List.mem_singleton]
theorem Po.len_mono {l : List (BitVec 32)} {d : Nat} (h : Po.cf l = Po.Xn d Po.oneF) : Po.len1 l = d + 1 := by
  refine Po.len1_eq (fun i hi => ?_) (fun _ => ?_)
  · rw [h]
    show (if d ≤ i then (if i - d = 0 then (1 : BitVec 32) else 0) else 0) = 0
    rw [if_pos (by omega), if_neg (by omega)]
  · rw [h]
    show (if d ≤ d + 1 - 1 then (if d + 1 - 1 - d = 0 then (1 : BitVec 32) else 0) else 0) ≠ 0
    rw [if_pos (by omega), if_pos (by omega)]
    decide
/-- x to the d -/
def Po.monoF (d i : Nat) : BitVec 32 := if i = d then 1 else 0
theorem Po.cf_mono (d : Nat) : Po.cf (Po.mk (d + 1) (Po.monoF d)) = Po.Xn d Po.oneF := by
  funext i
  rw [Po.cf_mk]
  show (if i < d + 1 then (if i = d then (1 : BitVec 32) else 0) else 0) = (if d ≤ i then (if i - d = 0 then (1 : BitVec 32) else 0) else 0)
  by_cases h1 : i < d + 1
  · rw [if_pos h1]
    by_cases h2 : i = d
    · rw [if_pos h2, if_pos (by omega), if_pos (by omega)]
    · rw [if_neg h2, if_neg (by omega)]
  · rw [if_neg h1, if_pos (by omega), if_neg (by omega)]
set_option maxHeartbeats 4000000 in
set_option maxRecDepth 100000 in
theorem rootsLongWalkK (K : RootsOk) {H : Type} {enc : TypeId × Value → H} (W : World) (base : Nat) (v0 : Value) (d0 : DataW H) (p0 : List MemPlace)
    (o0 : Value.okWide Try.prog W .any base 3 v0)
    (h0 : DataW.Trod enc Try.prog W 0 (fun _ => true) true 3 v0 d0 p0) :
    Calls Try.prog 7 #[v0] W fun e w' => e = .returned (.bool true) ∧ Below W.heap.size W w' := by
  obtain ⟨z0, rfl, b0⟩ := arg_int Try.underlying3 o0 h0
  obtain ⟨u, hu⟩ : ∃ u : Nat, IntKind.u64.wrap z0 = (u : Int) := ⟨(IntKind.u64.wrap z0).toNat, by rw [Int.toNat_of_nonneg]; rw [IntKind.wrap_u64]; omega⟩
  have hrem : ∀ t, binOp .rem t (.int .u64 (u : Int)) (.int .u64 5) = pure (.int .u64 ((u % 5 : Nat) : Int)) := fun t => by rw [binOp_rem]; exact rem_nat _ u 5 (by omega)
  obtain ⟨D, hD⟩ : ∃ D, D = 58 + u % 5 := ⟨_, rfl⟩
  have hDi : (58 : Int) + (u : Int) % 5 = (D : Int) := by omega
  have hD1 : 58 ≤ D := by omega
  have hD2 : D ≤ 62 := by omega
  have hmk := make_words (D + 1) (by omega)
  rw [show ((D + 1 : Nat) : Int) = (D : Int) + 1 from by omega] at hmk
  have hcfp := Po.cf_mono D
  have hlen := Po.len_mono hcfp
  have hrts := Po.rts_mono hcfp (by omega)
  have hwD : IntKind.i64.wrap ((D : Int) + 1) = (D : Int) + 1 := IntWalk.i64_in _ (by omega)
  have hD0 : (0 : Int) ≤ (D : Int) := by omega
  have hDD : (D : Int) < (D : Int) + 1 := by omega
  have hn1 : D + 1 ≤ 1000 := by omega
  have hst : ∀ w1 : World, Has (w1.alloc (.cells ((wcells (D + 1) fun _ => 0#32).setIfInBounds D (.int .u32 1)) 37)) w1.heap.size 37 (wcells (D + 1) (Po.monoF D)) := fun w1 => by
    have e := wcells_put (n := D + 1) (fun _ => 0#32) (Po.monoF D) D 1 (by unfold Po.monoF; rw [if_pos rfl]) (fun j _ hne => by unfold Po.monoF; rw [if_neg hne]; rfl)
    change (wcells (D + 1) fun _ => 0#32).setIfInBounds D (.int .u32 1) = _ at e
    rw [e]
    exact Has.fresh _ _ _
  have hcl : ∀ w1 : World, (w1.alloc (.cells (wcells (D + 1) fun _ => 0#32) 37)).cell? ⟨w1.heap.size, D, none⟩ = some (.int .u32 (nb32 0)) := fun w1 => (Has.fresh w1 _ _).cell_at (wcells_at _ (by omega))
  have hlo : ∀ w1 : World, (w1.alloc (.cells (wcells (D + 1) fun _ => 0#32) 37)).frozen? ⟨w1.heap.size, D, none⟩ = false := fun w1 => (Has.fresh w1 _ _).loose _
  have HS := Lib.hid hst
  clear hst hD
  by_cases h60 : 60 < D
  · have h60' : (60 : Int) < (D : Int) := by omega
    have hnf : ¬ Po.Fits (Po.mk (D + 1) (Po.monoF D)) := fun h => by have := h.2; omega
    have HN := Lib.hid hnf
    clear hnf hrts
    go_enter Try.func7, Try.ntmps7
    go_wp2_with (first
      | (go_at_call 15; refine (is_range _).mono ?_; rintro e w3 ⟨rfl, rfl⟩)
      | (go_at_call 9; refine (K.all_no _ (D + 1) (D + 1) _ _ (words_of_has (HS.out w1) (Nat.le_refl _) (by omega)) (Nat.le_refl _) (fun e => by cases e) hn1 HN.out).mono ?_; rintro e w2 ⟨⟨a', c', rfl⟩, hb2⟩; have hB2 := (hb1.alloc hb1.size _).trans (hb2.mono (by rw [World.size_alloc]; exact Nat.le_succ_of_le hb1.size)))
      | (go_at_call 8; refine (alive04 K _).mono ?_; rintro e w1 ⟨rfl, hb1⟩; have hcl1 := hcl w1; have hlo1 := hlo w1))
    go_ret
    exact ⟨rfl, hB2⟩
  · have h60' : ¬ (60 : Int) < (D : Int) := by omega
    have hft : Po.Fits (Po.mk (D + 1) (Po.monoF D)) := ⟨by omega, by omega⟩
    have HF := Lib.hid (And.intro hft hrts)
    clear hft hrts
    go_enter Try.func7, Try.ntmps7
    go_wp2_with (first
      | (go_at_call 13; refine (words_same va _ 1 vc 1 1 [0#32] [0#32] _ (hvw.past _) (words_lit w2 _ 37 rfl rfl (by omega)) rfl).mono ?_; rintro e w3 ⟨rfl, hd⟩; have hB3 := (hB2.alloc hB2.size _).trans (hd.below _))
      | (go_at_call 9; refine (K.all_ok _ (D + 1) (D + 1) _ _ (words_of_has (HS.out w1) (Nat.le_refl _) (by omega)) (Nat.le_refl _) (fun e => by cases e) hn1 HF.out.1).mono ?_; rintro e w2 ⟨⟨v, rfl, hv⟩, hb2⟩; rw [HF.out.2] at hv; obtain ⟨va, vc, rfl, hvc, hv0, hvw⟩ := fresh_shapeK (K := 1) hv rfl; have hB2 := (hb1.alloc hb1.size _).trans (hb2.mono (by rw [World.size_alloc]; exact Nat.le_succ_of_le hb1.size)))
      | (go_at_call 8; refine (alive04 K _).mono ?_; rintro e w1 ⟨rfl, hb1⟩; have hcl1 := hcl w1; have hlo1 := hlo w1))
    go_ret
    exact ⟨rfl, hB3⟩
end Go.Proofs.Ytlackhjlnoefcaa
