/- The reference's elimination walked; the statement GfSolves of layer 1. -/
import Derived.Test.YtamigcbodplmcaaGz
import Derived.Test.YtamigcbodplmcaaGfEl
import Derived.Test.YtamigcbodplmcaaGfTr
import Derived.RegionTactic
namespace Go.Proofs.Ytamigcbodplmcaa
open Go.ChangeShapes Go.WideShapes Go.ChangeAt Go.RowKit
def rowsOf (r : Nat → BitVec 64) : Array Value := cellsOf 32 fun j => .int .u64 (nb64 (r j))
theorem rowsOf_congr {r s : Nat → BitVec 64} (h : ∀ j, j < 32 → r j = s j) : rowsOf r = rowsOf s := cellsOf_congr fun j hj => by rw [h j hj]
theorem rowsOf_put {r s : Nat → BitVec 64} (i : Nat) (x : BitVec 64) (hi : s i = x) (hs : ∀ j, j < 32 → j ≠ i → s j = r j) : (rowsOf r).setIfInBounds i (.int .u64 (nb64 x)) = rowsOf s :=
  cellsOf_put _ _ i _ (by rw [hi]) fun j hj hne => by rw [hs j hj hne]
theorem rowsOf_at (r : Nat → BitVec 64) {i : Nat} (h : i < 32) : (rowsOf r)[i]? = some (.int .u64 (nb64 (r i))) := cellsOf_at _ h
theorem lastRow_bounds (r : Nat → BitVec 64) (b u : Nat) : ∀ i, Gf.lastRow r b u i < 0 ∧ Gf.lastRow r b u i = -1 ∨ ∃ k : Nat, Gf.lastRow r b u i = (k : Int) ∧ u ≤ k ∧ k < i
  | 0 => .inl ⟨by show (-1 : Int) < 0; decide, rfl⟩
  | i + 1 => by
    unfold Gf.lastRow
    split
    · rename_i h
      exact .inr ⟨i, rfl, h.1, by omega⟩
    · rcases lastRow_bounds r b u i with h | ⟨k, h1, h2, h3⟩
      · exact .inl h
      · exact .inr ⟨k, h1, h2, by omega⟩
theorem lastRow_start (r : Nat → BitVec 64) (b u : Nat) : Gf.lastRow r b u u = -1 := by
  rcases lastRow_bounds r b u u with h | ⟨k, _, h2, h3⟩
  · exact h.2
  · omega
theorem lastRow_step (r : Nat → BitVec 64) (b u i : Nat) (h : u ≤ i) : Gf.lastRow r b u (i + 1) = if (r i).getLsbD b = true then (i : Int) else Gf.lastRow r b u i := by
  rw [Gf.lastRow]
  simp [h]
theorem elim_none (b : Nat) (h : Gf.lastRow (Gf.rowAt b) b (Gf.usedAt b) 32 < 0) : Gf.rowAt (b + 1) = Gf.rowAt b ∧ Gf.usedAt (b + 1) = Gf.usedAt b := by
  have e : Gf.elimAt (b + 1) = Gf.elimAt b := by
    rw [Gf.elimAt]
    exact if_pos h
  constructor
  · funext j; unfold Gf.rowAt; rw [e]
  · unfold Gf.usedAt; rw [e]
theorem elim_some (b k : Nat) (h : Gf.lastRow (Gf.rowAt b) b (Gf.usedAt b) 32 = (k : Int)) :
    (∀ j, j < 32 → Gf.rowAt (b + 1) j = Gf.clearRow (Gf.swapRow (Gf.rowAt b) (Gf.usedAt b) k) (Gf.usedAt b) b 32 j) ∧ Gf.usedAt (b + 1) = Gf.usedAt b + 1 := by
  have e : Gf.elimAt (b + 1) = ((List.range 32).map (Gf.clearRow (Gf.swapRow (Gf.rowAt b) (Gf.usedAt b) k) (Gf.usedAt b) b 32), Gf.usedAt b + 1) := by
    rw [Gf.elimAt]
    refine (if_neg (show ¬ Gf.lastRow (Gf.rowAt b) b (Gf.usedAt b) 32 < 0 by omega)).trans ?_
    show ((List.range 32).map (Gf.clearRow (Gf.swapRow (Gf.rowAt b) (Gf.usedAt b) (Gf.lastRow (Gf.rowAt b) b (Gf.usedAt b) 32).toNat) (Gf.usedAt b) b 32), Gf.usedAt b + 1) = _
    rw [h]
    rfl
  constructor
  · intro j hj
    unfold Gf.rowAt
    rw [e]
    show ((List.range 32).map _).getD j 0 = _
    rw [List.getD_eq_getElem?_getD, List.getElem?_map, List.getElem?_range hj]
    rfl
  · rw [show Gf.usedAt (b + 1) = (Gf.elimAt (b + 1)).2 from rfl, e]
theorem clear_keep (r : Nat → BitVec 64) (u b i : Nat) (h : ¬ (i ≠ u ∧ (r i).getLsbD b = true)) : rowsOf (Gf.clearRow r u b i) = rowsOf (Gf.clearRow r u b (i + 1)) := by
  refine rowsOf_congr fun j _ => ?_
  unfold Gf.clearRow
  by_cases e : j = i
  · subst e
    rw [if_neg (by omega), if_neg (fun hh => h hh.2)]
  · by_cases h1 : j < i ∧ j ≠ u ∧ (r j).getLsbD b = true
    · rw [if_pos h1, if_pos ⟨by omega, h1.2⟩]
    · rw [if_neg h1, if_neg (fun hh => h1 ⟨by omega, hh.2⟩)]
theorem clear_put (r : Nat → BitVec 64) (u b i : Nat) (h1 : i ≠ u) (h2 : (r i).getLsbD b = true) : (rowsOf (Gf.clearRow r u b i)).setIfInBounds i (.int .u64 (nb64 (r i ^^^ r u))) = rowsOf (Gf.clearRow r u b (i + 1)) := by
  refine rowsOf_put i _ ?_ fun j _ hne => ?_
  · unfold Gf.clearRow; rw [if_pos ⟨by omega, h1, h2⟩]
  · unfold Gf.clearRow
    by_cases h1 : j < i ∧ j ≠ u ∧ (r j).getLsbD b = true
    · rw [if_pos h1, if_pos ⟨by omega, h1.2⟩]
    · rw [if_neg h1, if_neg (fun hh => h1 ⟨by omega, hh.2⟩)]
theorem clear_self (r : Nat → BitVec 64) (u b i : Nat) : Gf.clearRow r u b i i = r i := by unfold Gf.clearRow; rw [if_neg (by omega)]
theorem clear_used (r : Nat → BitVec 64) (u b i : Nat) : Gf.clearRow r u b i u = r u := by unfold Gf.clearRow; rw [if_neg (fun h => h.2.1 rfl)]
theorem clear_zero (r : Nat → BitVec 64) (u b : Nat) : rowsOf (Gf.clearRow r u b 0) = rowsOf r := rowsOf_congr fun j _ => by unfold Gf.clearRow; rw [if_neg (by omega)]
theorem swap_put (r : Nat → BitVec 64) (u k : Nat) : ((rowsOf r).setIfInBounds u (.int .u64 (nb64 (r k)))).setIfInBounds k (.int .u64 (nb64 (r u))) = rowsOf (Gf.swapRow r u k) := by
  rw [rowsOf_put (s := fun j => if j = u then r k else r j) u (r k) (by simp) (fun j _ h => by simp [h])]
  refine rowsOf_put k (r u) ?_ fun j _ hne => ?_
  · unfold Gf.swapRow
    by_cases e : k = u
    · subst e; simp
    · simp [e]
  · unfold Gf.swapRow
    simp [hne]
theorem left_none (c : BitVec 32) (b : Nat) (hp : Gf.pivotAt b = Gf.pivots.getD b 0) (h : Gf.lastRow (Gf.rowAt b) b (Gf.usedAt b) 32 < 0) : Gf.left c (b + 1) = Gf.left c b := by
  have : Gf.pivots.getD b 0 = 0 := by rw [← hp, Gf.pivotAt, if_pos h]
  rw [Gf.left, this]
  split
  · exact BitVec.xor_zero
  · rfl
theorem pivot_some (b k : Nat) (hu : Gf.usedAt b < 32) (hp : Gf.pivotAt b = Gf.pivots.getD b 0) (h : Gf.lastRow (Gf.rowAt b) b (Gf.usedAt b) 32 = (k : Int)) :
    Gf.swapRow (Gf.rowAt b) (Gf.usedAt b) k (Gf.usedAt b) = Gf.pivots.getD b 0 := by
  rw [← hp, Gf.pivotAt, if_neg (by omega), (elim_some b k h).1 _ hu, clear_used]
theorem low_rest (x : BitVec 64) : x % 4294967296#64 = 0#64 ↔ x.setWidth 32 = 0#32 := by
  rw [← BitVec.toNat_inj, ← BitVec.toNat_inj, BitVec.toNat_umod, BitVec.toNat_setWidth]
  simp only [BitVec.toNat_ofNat, Nat.reducePow, Nat.reduceMod]
theorem high_quo (x : BitVec 64) : (x / 4294967296#64).setWidth 32 = (x >>> 32).setWidth 32 := by
  rw [← BitVec.toNat_inj, BitVec.toNat_setWidth, BitVec.toNat_setWidth, BitVec.toNat_udiv, BitVec.toNat_ushiftRight, Nat.shiftRight_eq_div_pow]
  simp only [BitVec.toNat_ofNat, Nat.reducePow, Nat.reduceMod]
theorem sub_even (y : BitVec 32) : y - y % 2#32 = y &&& 0xfffffffe#32 := by
  have e : y &&& 0xfffffffe#32 = (y >>> 1) <<< 1 := Gf.lin_ext (f := fun y => y &&& 0xfffffffe#32) (g := fun y => (y >>> 1) <<< 1) (Gf.lin_and _) ((Gf.lin_shl 1).comp (Gf.lin_shr 1)) (by decide +kernel) y
  rw [e, ← BitVec.toNat_inj, BitVec.toNat_sub, BitVec.toNat_umod, BitVec.toNat_shiftLeft, BitVec.toNat_ushiftRight, Nat.shiftLeft_eq, Nat.shiftRight_eq_div_pow]
  have := y.isLt
  simp only [BitVec.toNat_ofNat, Nat.reducePow, Nat.reduceMod]
  omega
end Go.Proofs.Ytamigcbodplmcaa
