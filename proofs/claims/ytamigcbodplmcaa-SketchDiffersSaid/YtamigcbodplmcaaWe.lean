/- Slices of words that a call has made: their shapes, copies, stores. Nothing of the program. -/
import Derived.Test.YtamigcbodplmcaaPz
import Derived.OpenShut
namespace Go.Proofs.Ytamigcbodplmcaa
open Go Go.RowKit Go.ChangeShapes Go.WideShapes
theorem words_lit {n : Nat} {cs : Array Value} (w : World) (l : List (BitVec 32)) (t : TypeId) (hn : l.length = n) (hcs : cs = (wlist l).toArray) (hs : n ≤ 1000) : Words32 (w.alloc (.cells cs t)) (some ⟨w.heap.size, 0, none⟩) n l :=
  ⟨hn, by unfold maxLen; omega, fun i hi => ⟨_, rfl, by
    rw [Addr.add_mid, Nat.zero_add, (Has.fresh w t _).cell, hcs]
    rw [← Array.getElem?_toList]
    exact wlist_at l i (by omega)⟩⟩
/-- copy into a new block, as much as there is -/
theorem copy_some (w0 : World) (g n c m k : Nat) (a : Option Addr) (l : List (BitVec 32)) (f : Nat → BitVec 32) (hh : Has w0 g 54 (wcells m f)) (hw : Words32 w0 a n l) (hk : k = Nat.min n m) :
    (Builtin.copy_ #[22, 22] 3 #[.slice (some ⟨g, 0, none⟩) m m, .slice a n c]).run Try.prog w0 = .ok (goInt k) (w0.setCells g 0 (wlist (l.take k))) := by
  have hl := hw.1
  have hkn : k ≤ n := by rw [hk]; exact Nat.min_le_left _ _
  have hkm : k ≤ m := by rw [hk]; exact Nat.min_le_right _ _
  have hlt : (l.take k).length = k := by rw [List.length_take]; omega
  rcases Nat.eq_zero_or_pos k with h0 | h0
  · subst h0
    have := run_copy_none (P := Try.prog) w0 22 22 3 54 (some ⟨g, 0, none⟩) a m m n c Try.underlying22 size_word hk.symm
    rw [this, List.take_zero]
    rfl
  · obtain ⟨ad, rfl, _⟩ := hw.2.2 0 (by omega)
    have := run_copy_cells (P := Try.prog) w0 22 22 3 54 g 0 m m ad n c (wlist (l.take k)) Try.underlying22 size_word
      (by rw [wlist_length, hlt, hk])
      (fun j v hv => by
        have hj : j < (l.take k).length := by
          have := (List.getElem?_eq_some_iff.1 hv).1
          rwa [wlist_length] at this
        obtain ⟨x, e, hx⟩ := hw.2.2 j (by omega)
        injection e with e
        subst e
        have he : (l.take k).getD j 0 = l.getD j 0 := by
          have := Po.cf_take l k j
          rw [if_pos (by omega)] at this
          exact this
        rw [hx, ← hv, wlist_at _ j hj, he])
      (fun j hj => by rw [hh.cell, Nat.zero_add, wcells_at _ (by rw [wlist_length] at hj; omega)]; rfl)
      (fun j hj => hh.loose _) (wlist_one _)
    rw [this, wlist_length, hlt]
/-- what such a copy leaves -/
theorem putAll_some (l : List (BitVec 32)) (m k : Nat) (hk : k ≤ l.length) : putAll (wcells m fun _ => 0#32) 0 (wlist (l.take k)) = wcells m (fun i => Po.cf (l.take k) i) := by
  have hlt : (l.take k).length = k := by rw [List.length_take]; omega
  refine putAll_cellsOf _ (wlist (l.take k)) 0 _ (fun i v hv => ?_) (fun j hj h => ?_)
  · rw [Nat.zero_add]
    have hi : i < (l.take k).length := by
      have := (List.getElem?_eq_some_iff.1 hv).1
      rwa [wlist_length] at this
    rw [wlist_at _ i hi] at hv
    exact Option.some.inj hv
  · rw [wlist_length, hlt] at h
    show Value.int .u32 (nb32 (Po.cf (l.take k) j)) = Value.int .u32 (nb32 0#32)
    rw [Po.cf_ge (by omega)]
    rfl
theorem fresh_one {B g : Nat} {w : World} (x : BitVec 32) (hB : B ≤ g) (h : Has w g 54 #[.int .u32 (nb32 x)]) : Fresh 54 B w (.slice (some ⟨g, 0, none⟩) 1 1) [x] :=
  Fresh.of_has (c := 1) (f := fun _ => x) hB (by
    have : wcells 1 (fun _ => x) = #[.int .u32 (nb32 x)] := rfl
    rw [this]; exact h) rfl (Nat.le_refl _) (by unfold maxLen; omega) (fun i hi => by
      obtain rfl : i = 0 := by omega
      rfl)
theorem fresh_shape {T : TypeId} {B K : Nat} {w : World} {v : Value} {l : List (BitVec 32)} (h : Fresh T B w v l) (hl : l.length = K) : ∃ a c, v = .slice a K c ∧ K ≤ c ∧ Words32 w a K l := by
  obtain ⟨a, c, rfl, h1, h2⟩ := h.slice
  rw [hl] at h1 h2 ⊢
  exact ⟨a, c, rfl, h1, h2⟩
theorem own_snoc {T : TypeId} {B : Nat} {w : World} {v : Value} {k : Nat} {F : Nat → BitVec 32} {x : BitVec 32} (h : OwnW T B w v (Po.mk k F ++ [x])) (hx : x = F k) : OwnW T B w v (Po.mk (k + 1) F) := by
  have : Po.mk (k + 1) F = Po.mk k F ++ [x] := by
    rw [hx]
    simp [Po.mk, List.range_succ]
  rw [this]
  exact h
theorem own_shape {T : TypeId} {B K : Nat} {w : World} {v : Value} {l : List (BitVec 32)} (h : OwnW T B w v l) (hl : l.length = K) : ∃ a c, v = .slice a K c ∧ K ≤ c ∧ Words32 w a K l := by
  obtain ⟨a, c, rfl, h1, h2⟩ := h.fresh.slice
  rw [hl] at h1 h2 ⊢
  exact ⟨a, c, rfl, h1, h2⟩
theorem Fresh.take {T : TypeId} {B n c k : Nat} {a : Option Addr} {w : World} {l : List (BitVec 32)} (h : Fresh T B w (.slice a n c) l) (hk : k ≤ n) : Fresh T B w (.slice a k c) (l.take k) := by
  obtain ⟨a', c', e, h1, h2, h3⟩ := h
  injection e with e1 e2 e3
  subst e1 e2 e3
  have hl : (l.take k).length = k := by rw [List.length_take]; omega
  refine ⟨a, c, by rw [hl], ⟨by omega, h1.2⟩, by omega, fun h0 => ?_⟩
  obtain ⟨g, cs, e, hg, hh, hc⟩ := h3 (by omega)
  refine ⟨g, cs, e, hg, hh, fun i hi => ?_⟩
  rw [hc i (by omega)]
  have := Po.cf_take l k i
  rw [if_pos (by omega)] at this
  rw [show (l.take k).getD i 0 = l.getD i 0 from this]
theorem ex_bool (p : Prop) : ∃ r : Bool, r = true ↔ p := by
  by_cases h : p
  · exact ⟨true, fun _ => h, fun _ => rfl⟩
  · exact ⟨false, fun e => (Bool.false_ne_true e).elim, fun e => (h e).elim⟩
theorem arg_int {H : Type} {enc : TypeId × Value → H} {P : Program} {W : World} {base : Nat} {v : Value} {d : DataW H} {p : List MemPlace} {t : TypeId} (ht : P.underlying t = some (.int .i64)) (o : Value.okWide P W .any base t v) (h : DataW.Trod enc P W 0 (fun _ => true) true t v d p) :
    ∃ z : Int, v = .int .i64 z ∧ (-9223372036854775808 ≤ z ∧ z < 9223372036854775808) := by
  obtain ⟨a, rfl, rfl, rfl, wa⟩ := open_int ht o h
  have := bounds_i64 wa
  exact ⟨a, rfl, by omega⟩
theorem fresh_shape0 {T : TypeId} {B : Nat} {w : World} {v : Value} {l : List (BitVec 32)} (h : Fresh T B w v l) : ∃ a c, v = .slice a l.length c ∧ l.length ≤ c ∧ (a = none → c = 0) ∧ Words32 w a l.length l := by
  obtain ⟨a, c, rfl, h1, h2⟩ := h.slice
  exact ⟨a, c, rfl, h1, h.cap0, h2⟩
theorem own_lit {T : TypeId} {B g n : Nat} {w : World} {cs : Array Value} {l : List (BitVec 32)} (hB : B ≤ g) (h : Has w g T cs) (hcs : cs = (wlist l).toArray) (hn : l.length = n) (hs : n ≤ 1000) : OwnW T B w (.slice (some ⟨g, 0, none⟩) n n) l := by
  subst hn
  refine ⟨by rw [wlist_length, Nat.mul_one], .inr ⟨g, l.length, cs, rfl, hB, h, Nat.le_refl _, by unfold maxLen; omega, ?_, ?_⟩⟩
  · rw [hcs, List.size_toArray, wlist_length, Nat.mul_one]
  · rw [hcs, Nat.mul_one, ← wlist_length l]
    exact List.take_length
theorem OwnW.below {T : TypeId} {B : Nat} {w w' : World} {v : Value} {l : List (BitVec 32)} (h : OwnW T B w v l) (hb : Below w.heap.size w w') : OwnW T B w' v l := by
  refine ⟨h.1, ?_⟩
  rcases h.2 with hn | ⟨G, cap, cur, rfl, h1, h2, rest⟩
  · exact .inl hn
  · exact .inr ⟨G, cap, cur, rfl, h1, (hb.block _ (Array.getElem?_eq_some_iff.1 h2).1).trans h2, rest⟩
theorem OwnW.low {T : TypeId} {B B' : Nat} {w : World} {v : Value} {l : List (BitVec 32)} (h : OwnW T B w v l) (hB : B' ≤ B) : OwnW T B' w v l := by
  refine ⟨h.1, ?_⟩
  rcases h.2 with hn | ⟨G, cap, cur, rfl, h1, rest⟩
  · exact .inl hn
  · exact .inr ⟨G, cap, cur, rfl, Nat.le_trans hB h1, rest⟩
theorem fresh_shapeK {T : TypeId} {B K : Nat} {w : World} {v : Value} {l : List (BitVec 32)} (h : Fresh T B w v l) (hK : l.length = K) : ∃ a c, v = .slice a K c ∧ K ≤ c ∧ (a = none → c = 0) ∧ Words32 w a K l := by
  obtain ⟨a, c, rfl, h1, h2, h3⟩ := fresh_shape0 h
  subst hK
  exact ⟨a, c, rfl, h1, h2, h3⟩
theorem own_shape0 {T : TypeId} {B : Nat} {w : World} {v : Value} {l : List (BitVec 32)} (h : OwnW T B w v l) : ∃ a c, v = .slice a l.length c ∧ l.length ≤ c ∧ (a = none → c = 0) ∧ Words32 w a l.length l := fresh_shape0 h.fresh
theorem OwnW.draws {T : TypeId} {B : Nat} {w : World} {v : Value} {l : List (BitVec 32)} (h : OwnW T B w v l) (n : Nat) : OwnW T B (w.drewN n) v l := h
theorem OwnW.put {T : TypeId} {B n c k : Nat} {a : Option Addr} {w : World} {l : List (BitVec 32)} (h : OwnW T B w (.slice a n c) l) (hk : k < n) : ∃ g, a = some ⟨g, 0, none⟩ ∧ B ≤ g ∧ (∃ cs, Has w g T cs ∧ k < cs.size) ∧ ∀ x, OwnW T B (w.setCell ⟨g, k, none⟩ (.int .u32 (nb32 x))) (.slice a n c) (l.set k x) := by
  obtain ⟨h1, ⟨e, h0⟩ | ⟨g, cap, cur, e, hg, hh, hn, hm, hc, ht⟩⟩ := h
  · injection e with e1 e2 e3
    omega
  · injection e with e1 e2 e3
    subst e1 e2 e3
    have hh' : Has w g T cur := hh
    refine ⟨g, rfl, hg, ⟨cur, hh', by omega⟩, fun x => ⟨?_, .inr ⟨g, c, _, by rw [List.length_set], hg, hh'.put k (.int .u32 (nb32 x)), by rw [List.length_set]; exact hn, hm, by rw [Array.size_setIfInBounds]; exact hc, ?_⟩⟩⟩
    · rw [wlist_length, Nat.mul_one]
    · rw [Nat.mul_one] at ht ⊢
      rw [List.length_set, Array.toList_setIfInBounds, List.take_set, ht]
      apply List.ext_getElem?
      intro i
      rw [List.getElem?_set, wlist, wlist, List.getElem?_map, List.getElem?_map, List.getElem?_set]
      by_cases e : k = i
      · subst e
        rw [if_pos rfl, if_pos rfl]
        have hkl : k < l.length := hk
        rw [if_pos (by rw [List.length_map]; exact hkl), if_pos hkl]
        rfl
      · rw [if_neg e, if_neg e]
def putL : List (BitVec 32) → Nat → List (BitVec 32) → List (BitVec 32)
  | l, _, [] => l
  | l, o, v :: r => putL (l.set o v) (o + 1) r
theorem putL_length : ∀ (vs l : List (BitVec 32)) (o : Nat), (putL l o vs).length = l.length
  | [], _, _ => rfl
  | v :: r, l, o => by rw [putL, putL_length r]; exact List.length_set
theorem putL_app : ∀ (vs A R : List (BitVec 32)), vs.length ≤ R.length → putL (A ++ R) A.length vs = A ++ vs ++ R.drop vs.length
  | [], A, R, _ => by simp [putL]
  | v :: r, A, [], h => by simp at h
  | v :: r, A, b :: R, h => by
    rw [putL, List.set_append_right _ _ (Nat.le_refl _), Nat.sub_self, List.set_cons_zero]
    have := putL_app r (A ++ [v]) R (by simpa using h)
    rw [List.length_append, List.append_assoc] at this
    show putL (A ++ v :: R) (A.length + 1) r = _
    rw [show A ++ v :: R = A ++ ([v] ++ R) from rfl]
    rw [show A.length + [v].length = A.length + 1 from rfl] at this
    rw [this]
    simp
theorem OwnW.putAll {T : TypeId} {B n c g : Nat} : ∀ (vs : List (BitVec 32)) {w : World} {l : List (BitVec 32)} (o : Nat), OwnW T B w (.slice (some ⟨g, 0, none⟩) n c) l → o + vs.length ≤ n → OwnW T B (w.setCells g o (wlist vs)) (.slice (some ⟨g, 0, none⟩) n c) (putL l o vs)
  | [], w, l, o, h, _ => h
  | v :: r, w, l, o, h, hn => by
    obtain ⟨g', e, _, _, hp⟩ := h.put (k := o) (by simp at hn; omega)
    injection e with e
    injection e with e
    subst e
    show OwnW T B ((w.setCell ⟨g, o, none⟩ (.int .u32 (nb32 v))).setCells g (o + 1) (wlist r)) _ (putL (l.set o v) (o + 1) r)
    exact OwnW.putAll r (o + 1) (hp v) (by simp at hn; omega)
end Go.Proofs.Ytamigcbodplmcaa
