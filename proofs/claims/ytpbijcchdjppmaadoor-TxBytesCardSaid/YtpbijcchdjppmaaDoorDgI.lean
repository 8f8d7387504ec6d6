/- SHA-256's words in blocks of memory; steps of a region that draws -/
import Derived.Test.YtpbijcchdjppmaaDoorDgR
import Derived.Test.YtpbijcchdjppmaaDoorLz
import Derived.Deep.RegionLaw
namespace Go.Proofs.YtpbijcchdjppmaaDoor
open Go Go.RowKit Go.ChangeShapes Go.WideShapes
theorem still_tail_drew7 {P : Program} {id : Nat} {Q : Exit → Act → World → Prop} {a : Act} {w : World} {l : List Oper} (n : Nat) (hm : P.follows .mixedOrders = true) (hB : Region.lexTailB .any l.toArray n = true)
    (h : wpStill P l.toArray w.drew (fun a' => wpList P l.toArray Q (l.drop n) a' w.drew) (l.take n) a) : (Code.region id l.toArray true).wp P Q a w := wp_region_still_tail n hm hB h
theorem still_all_drew7 {P : Program} {id : Nat} {Q : Exit → Act → World → Prop} {a : Act} {w : World} {l : List Oper} (hm : P.follows .mixedOrders = true) (hB : Region.lexB .any l.toArray = true)
    (h : wpStill P l.toArray w.drew (fun a' => Q .normal a' w.drew) l a) : (Code.region id l.toArray true).wp P Q a w := wp_region_still_lit hm hB h
/-- a block's words, the first t of them reckoned -/
def Dg.wF (m : Nat → BitVec 32) (t : Nat) (j : Nat) : BitVec 32 := if j < t then Dg.sch m j else 0
def sliceLen : Value → Nat
  | .slice _ n _ => n
  | _ => 0
theorem Dg.be_at (n e : Nat) (h : e ≤ 7) (x : BitVec 64) (q : Nat) (hx : x = BitVec.ofNat 64 n * 8#64) (hq : q = 8 * e) : Dg.be (n * 8) (7 - e) = (x >>> q).setWidth 8 := by
  subst hx hq
  unfold Dg.be
  rw [BitVec.ofNat_mul, show 56 - 8 * (7 - e) = 8 * e by omega]
theorem Dg.range_be (n e : Nat) (h : e ≤ 7) : (List.range (8 - e)).map (Dg.be (n * 8)) = (List.range (8 - (e + 1))).map (Dg.be (n * 8)) ++ [Dg.be (n * 8) (7 - e)] := by
  rw [show 8 - e = (7 - e) + 1 by omega, List.range_succ, List.map_append, show 8 - (e + 1) = 7 - e by omega]
  rfl
theorem own_open {T : TypeId} {B K : Nat} {w : World} {v : Value} {l : List (BitVec 8)} (h : OwnB T B w v l) (hK : l.length = K) (h0 : 0 < K) :
    ∃ g c cur, v = .slice (some ⟨g, 0, none⟩) K c ∧ K ≤ c ∧ B ≤ g ∧ Has w g T cur ∧ ∀ i, i < K → cur[i]? = some (.int .u8 (nb8 (cb l i))) := by
  subst hK
  obtain ⟨hl, ⟨rfl, hz⟩ | ⟨g, cap, cur, rfl, hg, hh, hn, hm, hc, ht⟩⟩ := h
  · omega
  · refine ⟨g, cap, cur, rfl, hn, hg, hh, fun i hi => ?_⟩
    rw [← blist_at l i hi, ← ht, List.getElem?_take, if_pos (by omega), Array.getElem?_toList]
theorem grown_has {w w' : World} {g j : Nat} {T : TypeId} {cs : Array Value} (hg : w.grownBy w' (some g)) (h : Has w j T cs) (hj : j ≠ g) : Has w' j T cs :=
  (hg.block j h.lt (fun e => by injection e with e; omega)).trans h
theorem grown_tab {w w' : World} {g j : Nat} {l : List (BitVec 32)} (hg : w.grownBy w' (some g)) (h : Tab32 w j l) (hl : 0 < l.length) (hj : j ≠ g) : Tab32 w' j l := fun i hi => by
  have hb := hg.block j (h.lt hl) (fun e => by injection e with e; omega)
  have := h i hi
  simp only [World.cell?] at this ⊢
  rw [hb]
  exact this
theorem grown_low {B g : Nat} {w0 w w' : World} (hb : Below B w0 w) (hg : w.grownBy w' (some g)) (hB : B ≤ g) (hs : B ≤ w.heap.size) : Below B w0 w' := hb.grown hg hs (fun k e => by injection e with e; omega)
theorem grown_put7 {w w' : World} {g : Nat} (h : w.grownBy w' (some g)) (i : Nat) (v : Value) : w.grownBy (w'.setCell ⟨g, i, none⟩ v) (some g) :=
  ⟨h.os, h.tape, h.output, by rw [World.size_setCell]; exact h.size, fun j hj hne => (Below.heap_setCell _ _ _ _ (fun e => hne (by rw [e]))).trans (h.block j hj hne)⟩
theorem grown_drew7 {w w' : World} {r : Option Nat} (h : w.grownBy w' r) : w.grownBy w'.drew r := ⟨h.os, h.tape, h.output, h.size, h.block⟩
theorem grown_refl7 (w : World) (r : Option Nat) : w.grownBy w r := ⟨rfl, rfl, rfl, Nat.le_refl _, fun _ _ _ => rfl⟩
abbrev z64 : Array Value := #[.int .u32 0, .int .u32 0, .int .u32 0, .int .u32 0, .int .u32 0, .int .u32 0, .int .u32 0, .int .u32 0, .int .u32 0, .int .u32 0, .int .u32 0, .int .u32 0, .int .u32 0, .int .u32 0, .int .u32 0, .int .u32 0, .int .u32 0, .int .u32 0, .int .u32 0, .int .u32 0, .int .u32 0, .int .u32 0, .int .u32 0, .int .u32 0, .int .u32 0, .int .u32 0, .int .u32 0, .int .u32 0, .int .u32 0, .int .u32 0, .int .u32 0, .int .u32 0, .int .u32 0, .int .u32 0, .int .u32 0, .int .u32 0, .int .u32 0, .int .u32 0, .int .u32 0, .int .u32 0, .int .u32 0, .int .u32 0, .int .u32 0, .int .u32 0, .int .u32 0, .int .u32 0, .int .u32 0, .int .u32 0, .int .u32 0, .int .u32 0, .int .u32 0, .int .u32 0, .int .u32 0, .int .u32 0, .int .u32 0, .int .u32 0, .int .u32 0, .int .u32 0, .int .u32 0, .int .u32 0, .int .u32 0, .int .u32 0, .int .u32 0, .int .u32 0]
theorem z64_eq (m : Nat → BitVec 32) : z64 = wcells 64 (Dg.wF m 0) := by rfl
theorem wF_lo (m : Nat → BitVec 32) {t j : Nat} (h : j < t) : Dg.wF m t j = Dg.sch m j := if_pos h
theorem wF_step (m : Nat → BitVec 32) (t : Nat) (x : BitVec 32) (hx : x = Dg.sch m t) : (wcells 64 (Dg.wF m t)).setIfInBounds t (.int .u32 (nb32 x)) = wcells 64 (Dg.wF m (t + 1)) :=
  wcells_put _ _ t x (by rw [wF_lo m (Nat.lt_succ_self t), hx]) (fun j _ _ => by
    unfold Dg.wF
    by_cases h : j < t
    · rw [if_pos h, if_pos (by omega)]
    · rw [if_neg h, if_neg (by omega)])
/-- the same, word t on the way -/
def Dg.wG (m : Nat → BitVec 32) (t : Nat) (x : BitVec 32) (j : Nat) : BitVec 32 := if j = t then x else Dg.wF m t j
theorem wG_step (m : Nat → BitVec 32) (t : Nat) (x : BitVec 32) : (wcells 64 (Dg.wF m t)).setIfInBounds t (.int .u32 (nb32 x)) = wcells 64 (Dg.wG m t x) :=
  wcells_put _ _ t x (if_pos rfl) (fun _ _ hj => if_neg hj)
theorem wG_end (m : Nat → BitVec 32) (t : Nat) (x y : BitVec 32) (hy : y = Dg.sch m t) : (wcells 64 (Dg.wG m t x)).setIfInBounds t (.int .u32 (nb32 y)) = wcells 64 (Dg.wF m (t + 1)) :=
  wcells_put _ _ t y (by rw [wF_lo m (Nat.lt_succ_self t), hy]) (fun j _ hj => by
    unfold Dg.wG Dg.wF
    rw [if_neg hj]
    by_cases h : j < t
    · rw [if_pos h, if_pos (by omega)]
    · rw [if_neg h, if_neg (by omega)])
/-- the eight words as a function -/
def Dg.V8.at (v : Dg.V8) (j : Nat) : BitVec 32 := v.list.getD j 0
theorem v8_cells (v : Dg.V8) : #[.int .u32 (nb32 v.a), .int .u32 (nb32 v.b), .int .u32 (nb32 v.c), .int .u32 (nb32 v.d), .int .u32 (nb32 v.e), .int .u32 (nb32 v.f), .int .u32 (nb32 v.g), .int .u32 (nb32 v.h)] = wcells 8 v.at := by rfl
/-- the sum on the way: the first i added -/
def Dg.aF (v u : Dg.V8) (i j : Nat) : BitVec 32 := if j < i then v.at j + u.at j else v.at j
theorem aF_step (v u : Dg.V8) (i : Nat) (x : BitVec 32) (hx : x = v.at i + u.at i) : (wcells 8 (Dg.aF v u i)).setIfInBounds i (.int .u32 (nb32 x)) = wcells 8 (Dg.aF v u (i + 1)) :=
  wcells_put _ _ i x (by rw [hx]; exact if_pos (Nat.lt_succ_self i)) (fun j _ hj => by
    unfold Dg.aF
    by_cases h : j < i
    · rw [if_pos h, if_pos (by omega)]
    · rw [if_neg h, if_neg (by omega)])
theorem aF_end (v u : Dg.V8) : wcells 8 (Dg.aF v u 8) = wcells 8 (Dg.add8 v u).at := by rfl
theorem aF_zero (v u : Dg.V8) : wcells 8 v.at = wcells 8 (Dg.aF v u 0) := by rfl
theorem aF_here (v u : Dg.V8) (i : Nat) : Dg.aF v u i i = v.at i := if_neg (by omega)
/-- a byte of the answer; the answer on the way -/
def Dg.ob (v : Dg.V8) (j : Nat) : BitVec 8 := (v.at (j / 4) >>> (24 - 8 * (j % 4))).setWidth 8
def bcells (n : Nat) (f : Nat → BitVec 8) : Array Value := cellsOf n fun j => .int .u8 (nb8 (f j))
theorem bcells_at {n : Nat} (f : Nat → BitVec 8) {i : Nat} (h : i < n) : (bcells n f)[i]? = some (.int .u8 (nb8 (f i))) := cellsOf_at _ h
def Dg.oF (v : Dg.V8) (i j : Nat) : BitVec 8 := if j < i then Dg.ob v j else 0
theorem oF_zero (v : Dg.V8) : z32 = bcells 32 (Dg.oF v 0) := by rfl
theorem oF_step (v : Dg.V8) (i : Nat) (x : BitVec 8) (hx : x = Dg.ob v i) : (bcells 32 (Dg.oF v i)).setIfInBounds i (.int .u8 (nb8 x)) = bcells 32 (Dg.oF v (i + 1)) :=
  cellsOf_put _ _ i _ (by rw [hx]; unfold Dg.oF; rw [if_pos (Nat.lt_succ_self i)]) (fun j _ hj => by
    unfold Dg.oF
    by_cases h : j < i
    · rw [if_pos h, if_pos (by omega)]
    · rw [if_neg h, if_neg (by omega)])
theorem oF_end (v : Dg.V8) : bcells 32 (Dg.oF v 32) = (blist (Dg.out v)).toArray := by
  apply Array.ext'
  apply List.ext_getElem?
  intro i
  rw [Array.getElem?_toList]
  by_cases h : i < 32
  · rw [bcells_at _ h, show Dg.oF v 32 i = Dg.ob v i from if_pos h]
    rw [blist_at _ i (by rw [Dg.out_len]; exact h)]
    unfold cb Dg.out
    rw [List.getD_eq_getElem?_getD, List.getElem?_map, List.getElem?_range h]
    rfl
  · rw [Array.getElem?_eq_none (by simp [bcells, cellsOf_size]; omega), List.getElem?_eq_none (by rw [blist_length, Dg.out_len]; omega)]
end Go.Proofs.YtpbijcchdjppmaaDoor
