/- the reference's ReadNum · the reference's ReadNum: a number that is there · package pack: a reader; Read, fail, take · the reference's ReadNum: whatever is read · package pack: In.Num, above, Count, Text, Hash, Left, End; Read · package pack: In.Count, Text, Hash, Left, End; Read · package pack: In.Hash -/
import Derived.Test.YtagjolbpmhbifaaGreatDoorPkr
import Derived.Test.YtagjolbpmhbifaaGreatDoorPky
import Derived.Test.YtagjolbpmhbifaaGreatDoorLz
import Derived.Deep.RegionLaw
/-! the reference's ReadNum -/
namespace Go.Proofs.YtagjolbpmhbifaaGreatDoor
open Go Go.RowKit Go.ChangeShapes Go.WideShapes
/-- a reader as a value -/
def InV (W : World) (s : Pk.Rd) (v : Value) : Prop := match s with
  | none => v = .agg #[.slice none 0 0, .bool true]
  | some B => ∃ a n c, v = .agg #[.slice a n c, .bool false] ∧ Bytes8 W a n B ∧ n ≤ c ∧ (a = none → c = 0)
theorem InV.below {W W' : World} {s : Pk.Rd} {v : Value} (h : InV W s v) (hb : Below W.heap.size W W') : InV W' s v := by
  cases s with
  | none => exact h
  | some B =>
    obtain ⟨a, n, c, h1, h2, h3⟩ := h
    exact ⟨a, n, c, h1, h2.below hb, h3⟩
theorem results_cell_tmp {P : Program} {fn : Func} {p q : Tmp} {ty : TypeId} (h : fn.results = #[.cell p ty, .tmp q]) (tmps : Array Value) (w : World) (g : Nat) (hp : tmps.getD p undef = .pointer (some ⟨g, 0, none⟩))
    (v u : Value) (hq : tmps.getD q undef = u) (hv : (loadVar ty ⟨g, 0, none⟩).run P w = .ok v w) : (results fn tmps).run P w = .ok (.tuple #[v, u]) w := by
  rw [Array.getD_eq_getD_getElem?] at hp hq
  simp only [results, h]
  simp [hp, hq, hv, asAddr]
def wrongV : Value := .agg #[.slice none 0 0, .bool true]
theorem in_one (v b : Value) (hv : v.oneCell' = true) (hb : b.oneCell' = true) : (#[v, b] : Array Value).all (·.oneCell') = true := by simp [hv, hb]
end Go.Proofs.YtagjolbpmhbifaaGreatDoor

/-! the reference's ReadNum: a number that is there -/
namespace Go.Proofs.YtagjolbpmhbifaaGreatDoor
open Go Go.RowKit Go.ChangeShapes Go.WideShapes
theorem cb_from (l : List (BitVec 8)) (i j : Nat) : cb (l.drop i) j = cb l (i + j) := by
  unfold cb
  rw [List.getD_eq_getElem?_getD, List.getD_eq_getElem?_getD, List.getElem?_drop]
theorem bytes_from {w : World} {x : Addr} {n : Nat} {l : List (BitVec 8)} (h : Bytes8 w (some x) n l) (k : Nat) : Bytes8 w (some (x.add k)) (n - k) (l.drop k) := by
  refine ⟨by rw [List.length_drop, h.1], by have := h.2.1; omega, fun i hi => ?_⟩
  obtain ⟨y, hy, hc⟩ := h.2.2 (k + i) (by omega)
  cases hy
  exact ⟨_, rfl, by rw [cb_from, ← hc, Addr.add_add]⟩
theorem bytes_from_none {w : World} {n : Nat} {l : List (BitVec 8)} (h : Bytes8 w none n l) (k : Nat) : Bytes8 w none 0 (l.drop k) := by
  have h0 : n = 0 := by
    rcases Nat.eq_zero_or_pos n with h0 | h0
    · exact h0
    · obtain ⟨x, hx, _⟩ := h.2.2 0 h0
      cases hx
  refine ⟨by rw [List.length_drop, h.1, h0]; omega, by unfold maxLen; omega, fun i hi => by omega⟩
end Go.Proofs.YtagjolbpmhbifaaGreatDoor

/-! package pack: a reader; Read, fail, take -/
namespace Go.Proofs.YtagjolbpmhbifaaGreatDoor
open Go Go.RowKit Go.ChangeShapes Go.WideShapes
abbrev inF (g : Nat) : Nat → Prop := fun k => k = g
theorem inPut (g : Nat) (w : World) (u : Value) : Moved (inF g) w (w.setCell ⟨g, 0, none⟩ u) := (Moved.refl (inF g) w).put (g := g) (.inl (show g = g from rfl)) 0 u
theorem pin_one (v b : Value) (hv : v.oneCell' = true) (hb : b.oneCell' = true) : (#[v, b] : Array Value).all (·.oneCell') = true := by simp [hv, hb]
/-- n bytes off a reader -/
def Pk.rdTake (s : Pk.Rd) (n : Nat) : Pk.Rd × List (BitVec 8) := match s with
  | none => (none, [])
  | some B => if n ≤ B.length then (some (B.drop n), B.take n) else (none, [])
end Go.Proofs.YtagjolbpmhbifaaGreatDoor

/-! the reference's ReadNum: whatever is read -/
namespace Go.Proofs.YtagjolbpmhbifaaGreatDoor
open Go Go.RowKit Go.ChangeShapes Go.WideShapes
def NumPost (w0 : World) (p : Pk.Rd × BitVec 64) (e : Ending) (w' : World) : Prop :=
  (∃ v, e = .returned (.tuple #[v, .int .u64 (nb64 p.2)]) ∧ InV w' p.1 v) ∧ Below w0.heap.size w0 w'
end Go.Proofs.YtagjolbpmhbifaaGreatDoor

/-! package pack: In.Num, above, Count, Text, Hash, Left, End; Read -/
namespace Go.Proofs.YtagjolbpmhbifaaGreatDoor
open Go Go.RowKit Go.ChangeShapes Go.WideShapes
theorem Pk.leV_snoc (B : List (BitVec 8)) (k : Nat) : Pk.leV B 0 k ||| ((cb B k).setWidth 64 <<< (8 * k)) = Pk.leV B 0 (k + 1) := by
  apply BitVec.eq_of_getLsbD_eq
  intro m hm
  rw [BitVec.getLsbD_or, Pk.leV_bit _ _ _ _ hm, Pk.leV_bit _ _ _ _ hm, BitVec.getLsbD_shiftLeft, BitVec.getLsbD_setWidth, Nat.zero_add]
  by_cases h1 : m < 8 * k
  · simp [h1, show m < 8 * (k + 1) by omega]
  · by_cases h2 : m < 8 * (k + 1)
    · have e1 : m / 8 = k := by omega
      have e2 : m % 8 = m - 8 * k := by omega
      rw [e1, e2]
      simp [h1, h2, hm, show m - 8 * k < 64 by omega]
    · rw [BitVec.getLsbD_of_ge (cb B k) _ (by omega)]
      simp [h1, h2]
theorem Pk.leV_take (B : List (BitVec 8)) (K k : Nat) (hk : k ≤ K) : Pk.leV (B.take K) 0 k = Pk.leV B 0 k := by
  have : ∀ (k i : Nat), i + k ≤ K → Pk.leV (B.take K) i k = Pk.leV B i k := by
    intro k
    induction k with
    | zero => intro i _; rfl
    | succ k ih =>
      intro i hi
      show 256#64 * Pk.leV (B.take K) (i + 1) k + (cb (B.take K) i).setWidth 64 = 256#64 * Pk.leV B (i + 1) k + (cb B i).setWidth 64
      rw [ih (i + 1) (by omega)]
      congr 2
      unfold cb
      rw [List.getD_eq_getElem?_getD, List.getD_eq_getElem?_getD, List.getElem?_take, if_pos (by omega)]
  exact this k 0 (by omega)
abbrev encU : BitVec 64 → Value := fun x => .int .u64 (nb64 x)
abbrev encI : Int → Value := fun z => .int .i64 z
abbrev encT : List (BitVec 8) → Value := fun l => .string (strB l)
abbrev encH : List (BitVec 8) → Value := fun l => .agg (blist l).toArray
theorem rdNum_take (s : Pk.Rd) (K : Nat) (hK : Pk.okSize K) : Pk.rdNum s K = ((Pk.rdTake s K).1, Pk.leV (Pk.rdTake s K).2 0 (Pk.rdTake s K).2.length) := by
  cases s with
  | none => rfl
  | some B =>
    show (if Pk.okSize K ∧ (K : Int) ≤ B.length then _ else _) = (((if K ≤ B.length then _ else _) : Pk.Rd × List (BitVec 8)).1, Pk.leV ((if K ≤ B.length then _ else _) : Pk.Rd × List (BitVec 8)).2 0 ((if K ≤ B.length then _ else _) : Pk.Rd × List (BitVec 8)).2.length)
    by_cases h : K ≤ B.length
    · rw [if_pos ⟨hK, by omega⟩, if_pos h]
      dsimp only
      rw [List.length_take, Nat.min_eq_left h, Pk.leV_take B K K (Nat.le_refl _)]
      rfl
    · rw [if_neg (by omega), if_neg h]
      rfl
end Go.Proofs.YtagjolbpmhbifaaGreatDoor

/-! package pack: In.Count, Text, Hash, Left, End; Read -/
namespace Go.Proofs.YtagjolbpmhbifaaGreatDoor
open Go Go.RowKit Go.ChangeShapes Go.WideShapes
theorem ofInt_toInt64 (n : BitVec 64) (h : n.toNat < 9223372036854775808) : wrap64 (nb64 n) = (n.toNat : Int) := by
  unfold wrap64 nb64; omega
/-- the end of Count: the number looked at -/
theorem count_end (most : Int) (n : BitVec 64) (h : ¬ (most < 0 ∨ most < (n.toNat : Int))) (hm : most < 9223372036854775808) : wrap64 (nb64 n) = (n.toNat : Int) := ofInt_toInt64 n (by omega)
theorem wrap_most (most : Int) (h0 : 0 ≤ most) (h1 : most < 9223372036854775808) : IntKind.u64.wrap most = most := by
  rw [IntKind.wrap_u64]; omega
theorem rdCount_nonneg (s : Pk.Rd) (most : Int) : 0 ≤ (Pk.rdCount s most).2 := by
  unfold Pk.rdCount
  dsimp only
  split
  · exact Int.le_refl 0
  · split
    · exact Int.natCast_nonneg _
    · exact Int.le_refl 0
theorem rdCount_bad (s : Pk.Rd) (most : Int) (h : (Pk.rdCount s most).1 = none) : (Pk.rdCount s most).2 = 0 := by
  unfold Pk.rdCount at h ⊢
  dsimp only at h ⊢
  split at h
  · rfl
  · split at h
    · cases h
    · rename_i hc
      rw [if_neg hc]
theorem rdText_eq (s : Pk.Rd) (most : Int) : Pk.rdText s most = Pk.rdTake (Pk.rdCount s most).1 (Pk.rdCount s most).2.toNat := by
  have h0 := rdCount_nonneg s most
  unfold Pk.rdText
  cases hc : (Pk.rdCount s most).1 with
  | none => rfl
  | some B =>
    dsimp only [Pk.rdTake]
    by_cases h : (Pk.rdCount s most).2 ≤ B.length
    · rw [if_pos h, if_pos (by omega)]
    · rw [if_neg h, if_neg (by omega)]
abbrev errForm : Value := .iface 68 (.int .i64 2)
end Go.Proofs.YtagjolbpmhbifaaGreatDoor

/-! package pack: In.Hash -/
namespace Go.Proofs.YtagjolbpmhbifaaGreatDoor
open Go Go.RowKit Go.ChangeShapes Go.WideShapes
theorem z32_list : z32 = (blist (List.replicate 32 0#8)).toArray := by rfl
theorem rdHash_take (s : Pk.Rd) : Pk.rdHash s = ((Pk.rdTake s 32).1, if (Pk.rdTake s 32).2.length = 32 then (Pk.rdTake s 32).2 else List.replicate 32 0#8) := by
  cases s with
  | none => rfl
  | some B =>
    show (if 32 ≤ B.length then _ else _) = (((if 32 ≤ B.length then _ else _) : Pk.Rd × List (BitVec 8)).1, if ((if 32 ≤ B.length then _ else _) : Pk.Rd × List (BitVec 8)).2.length = 32 then _ else _)
    by_cases h : 32 ≤ B.length
    · have hl : (B.take 32).length = 32 := by rw [List.length_take]; omega
      rw [if_pos h, if_pos h]
      dsimp only
      have e : (Pk.rdTake (some B) 32).2 = B.take 32 := by
        show ((if 32 ≤ B.length then _ else _) : Pk.Rd × List (BitVec 8)).2 = _
        rw [if_pos h]
      rw [hl, if_pos rfl, e]
    · rw [if_neg h, if_neg h]
      rfl
theorem rdTake_len (s : Pk.Rd) (n : Nat) : (Pk.rdTake s n).2.length = n ∨ (Pk.rdTake s n).2 = [] := by
  cases s with
  | none => exact .inr rfl
  | some B =>
    show ((if n ≤ B.length then _ else _) : Pk.Rd × List (BitVec 8)).2.length = n ∨ ((if n ≤ B.length then _ else _) : Pk.Rd × List (BitVec 8)).2 = []
    by_cases h : n ≤ B.length
    · rw [if_pos h]
      left
      dsimp only
      rw [List.length_take]
      omega
    · rw [if_neg h]
      exact .inr rfl
end Go.Proofs.YtagjolbpmhbifaaGreatDoor
