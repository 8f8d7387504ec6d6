/- Package poly: values, derivatives, squares, roots. -/
import Derived.Test.YtlackhjlnoefcaaPoW2
namespace Go.Proofs.Ytlackhjlnoefcaa
open Go Go.RowKit
namespace Po
def dvF (f : Nat → E) (i : Nat) : E := if i % 2 = 0 then f (i + 1) else 0
/-- the first k coefficients taken in -/
def dvK (f : Nat → E) (k i : Nat) : E := if i % 2 = 0 ∧ i + 1 < k then f (i + 1) else 0
theorem dvK_step (f : Nat → E) (n k : Nat) (hk : k % 2 = 1) : (wcells n (dvK f k)).setIfInBounds (k - 1) (.int .u32 (nb32 (f k))) = wcells n (dvK f (k + 1)) := by
  refine wcells_put _ _ _ _ ?_ (fun i _ hne => ?_)
  · rw [dvK, if_pos (by omega), show k - 1 + 1 = k from by omega]
  · unfold dvK
    by_cases h : i % 2 = 0 ∧ i + 1 < k
    · rw [if_pos h, if_pos (by omega)]
    · rw [if_neg h, if_neg (by omega)]
theorem dvK_even (f : Nat → E) (k : Nat) (hk : k % 2 = 0) : dvK f (k + 1) = dvK f k := by
  funext i
  unfold dvK
  by_cases h : i % 2 = 0 ∧ i + 1 < k
  · rw [if_pos h, if_pos (by omega)]
  · rw [if_neg h, if_neg (by omega)]
def sqF (f : Nat → E) (k i : Nat) : E := if i % 2 = 0 ∧ i / 2 < k then Gf.square (f (i / 2)) else 0
theorem sqF_step (f : Nat → E) (n k : Nat) : (wcells n (sqF f k)).setIfInBounds (2 * k) (.int .u32 (nb32 (Gf.square (f k)))) = wcells n (sqF f (k + 1)) := by
  refine wcells_put _ _ _ _ ?_ (fun i _ hne => ?_)
  · rw [sqF, if_pos (by omega), show 2 * k / 2 = k from by omega]
  · unfold sqF
    by_cases h : i % 2 = 0 ∧ i / 2 < k
    · rw [if_pos h, if_pos (by omega)]
    · rw [if_neg h, if_neg (by omega)]
end Po
set_option maxHeartbeats 1000000 in
theorem psquare_any (a : Option Addr) (n c : Nat) (l : List (BitVec 32)) (w : World) (h : Words32 w a n l) (hc : n ≤ c) (hs : n ≤ 274877906944) :
    Calls Try.prog 68 #[.slice a n c] w fun e w' => (∃ v, e = .returned v ∧ Fresh 37 w.heap.size w' v (Po.mk (2 * Po.len1 l) (Po.sqF (Po.cf l) (Po.len1 l)))) ∧ Below w.heap.size w w' := by
  have hle := Po.len1_le l
  have hl := h.1
  obtain ⟨N, hN⟩ : ∃ N, N = 2 * Po.len1 l := ⟨_, rfl⟩
  have hmk := make_words N (by omega)
  have hm2 : 2 * (Po.len1 l : Int) = (N : Int) := by omega
  have HN := Lib.hid hN
  clear hN
  go_enter Try.func68, Try.ntmps68
  go_wp2_with (first
    | (go_at_call 48; refine (bare_any _ _ _ l _ h hc).mono ?_; rintro e w1 ⟨rfl, hb1⟩))
  clear hmk
  have hsz := hb1.size
  have hwb := h.bare.below hb1
  go_loopw [14] (fun i wr => ∃ k : Nat, k ≤ Po.len1 l ∧ i = .int .i64 k ∧ Has wr w1.heap.size 37 (wcells N (Po.sqF (Po.cf l) k)) ∧ Below w1.heap.size w1 wr) (fun i _ => Po.len1 l - (intOf i).toNat)
  case atStart =>
    refine ⟨0, Nat.zero_le _, rfl, ?_, (Below.refl _ _).alloc (Nat.le_refl _) _⟩
    rw [wcells_congr (fun i _ => show Po.sqF (Po.cf l) 0 i = 0#32 from by rw [Po.sqF, if_neg (by omega)]; rfl)]
    exact Has.fresh _ _ _
  case round =>
    obtain ⟨k, hk, rfl, hg, hb⟩ := hrel
    by_cases hlt : k < Po.len1 l
    · obtain ⟨ad, rfl, hx⟩ := hwb.2.2 k hlt
      obtain ⟨z, hz⟩ : ∃ z, z = (Po.trim l).getD k 0 := ⟨_, rfl⟩
      rw [← hz] at hx
      have hcell := (hb.cell (isSome_lt (by rw [hx]; rfl))).trans hx
      have HZ := Lib.hid (show z = Po.cf l k from hz.trans (congrFun (Po.cf_trim l) k))
      clear hz hx
      obtain ⟨K, hK⟩ : ∃ K, K = 2 * k := ⟨_, rfl⟩
      have hKe : 2 * (k : Int) = (K : Int) := by omega
      have hKN : K < N := by have := HN.out; omega
      have hc := hg.cell_at (wcells_at (i := K) _ hKN)
      have hf := hg.loose K
      have HK := Lib.hid hK
      clear hK
      go_wp2_with (first
        | (go_at_call 46; refine (square_any _ _).mono ?_; rintro e w' ⟨rfl, rfl⟩))
      go_roundw
      case rel =>
        refine ⟨k + 1, by omega, by go_num, ?_, hb.setCell (p := ⟨w1.heap.size, K, none⟩) (Nat.le_refl _) _⟩
        have := hg.put K (.int .u32 (nb32 (Gf.square z)))
        rwa [HZ.out, HK.out, Po.sqF_step, ← HK.out, ← HZ.out] at this
      case measure => simp [intOf]; omega
    · obtain rfl : k = Po.len1 l := by omega
      go_wp2
      go_ret
      refine ⟨⟨_, rfl, ?_⟩, hb1.trans (hb.mono hsz)⟩
      rw [← HN.out]
      refine Fresh.of_has hsz hg (Po.mk_length _ _) (Nat.le_refl _) (by have := HN.out; unfold maxLen; omega) (fun i hi => ?_)
      have := Po.cf_mk N (Po.sqF (Po.cf l) (Po.len1 l)) i
      rw [if_pos hi] at this
      exact this.symm
end Go.Proofs.Ytlackhjlnoefcaa
