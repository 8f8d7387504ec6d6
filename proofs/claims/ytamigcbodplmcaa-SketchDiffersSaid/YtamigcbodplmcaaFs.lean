/- A struct of one-cell fields that came in by value: the reading of each field; append as a step of a drawn region. Nothing of the program. -/
import Derived.Test.YtamigcbodplmcaaWe
import Derived.Test.YtamigcbodplmcaaSt
import Derived.Deep.Fields
namespace Go.Proofs.Ytamigcbodplmcaa
open Go Go.RowKit Go.ChangeShapes Go.WideShapes
section
variable {H : Type} {enc : TypeId × Value → H} {P : Program} {W : World} {base : Nat} {v : Value} {d : DataW H} {p : List MemPlace}
theorem arg_fields {t : TypeId} {fs : Array Field} (hs : P.underlying t = some (.struct fs)) (hone : Go.Deep.oneCellFields P fs = true) (hC : P.cellsOf t = fs.size) (o : Value.okWide P W .any base t v) (h : DataW.Trod enc P W 0 (fun _ => true) true t v d p) :
    ∃ cs : List Value, v = .agg cs.toArray ∧ cs.length = fs.size ∧ ∀ (j : Nat) (f : Field) (c : Value), fs[j]? = some f → cs[j]? = some c → ∃ n y, DataW.trod enc P W 0 (fun _ => true) true n f.type [c] = some y := by
  obtain ⟨cs, rfl, hsz⟩ := okWide_struct hs o
  obtain ⟨fuel, hf⟩ := h
  obtain ⟨xs, n, _, _, _, hlen, hg⟩ := DataW.trod_struct hs hf
  refine ⟨cs.toList, rfl, by rw [Array.length_toList, hsz, hC], fun j f c hj hc => ?_⟩
  obtain ⟨e1, e2⟩ := Go.Deep.hone_of hone j f hj
  have hx := hg j f hj
  have hone' : (((Value.agg cs).cells.toList.drop f.offset).take (P.cellsOf f.type)) = [c] := by
    rw [e1, e2]
    show (cs.toList.drop j).take 1 = [c]
    obtain ⟨hl, rfl⟩ := List.getElem?_eq_some_iff.1 hc
    rw [List.drop_eq_getElem_cons hl]
    rfl
  rw [hone'] at hx
  have hjl : j < xs.length := by
    have := (Array.getElem?_eq_some_iff.1 hj).1
    omega
  rw [List.getElem?_eq_getElem hjl] at hx
  exact ⟨n, _, hx⟩
theorem field_words {t e : TypeId} {n : Nat} {c : Value} {y : DataW H × List MemPlace} (ht : P.underlying t = some (.slice e)) (he : P.underlying e = some (.int .u32)) (hc : P.cellsOf e = 1) (h : DataW.trod enc P W 0 (fun _ => true) true n t [c] = some y) :
    ∃ (a : Option Addr) (k q : Nat) (l : List (BitVec 32)), c = .slice a k q ∧ Words32 W a k l ∧ k ≤ q ∧ (a = none → q = 0) := by
  rcases open_ints ht he hc h with ⟨hcs, _⟩ | ⟨x, l, cp, zs, hcs, _, hl, hm, hz, _, hcell, hwz⟩
  · obtain ⟨rfl, _⟩ := List.cons.inj hcs
    obtain ⟨l, hl⟩ := words_of_row (w := W) (.inl ⟨rfl, rfl, rfl, rfl⟩)
    exact ⟨_, _, _, l, rfl, hl, Nat.le_refl _, fun _ => rfl⟩
  · obtain ⟨rfl, _⟩ := List.cons.inj hcs
    obtain ⟨l, hw⟩ := words_of_row (w := W) (.inr ⟨_, rfl, hl, hm, by simpa using hz, hcell, hwz⟩)
    exact ⟨_, _, _, l, rfl, hw, hl, fun e => by cases e⟩
theorem field_int {t : TypeId} {n : Nat} {c : Value} {y : DataW H × List MemPlace} (ht : P.underlying t = some (.int .i64)) (h : DataW.trod enc P W 0 (fun _ => true) true n t [c] = some y) :
    ∃ z : Int, c = .int .i64 z ∧ (-9223372036854775808 ≤ z ∧ z < 9223372036854775808) := by
  obtain ⟨z, hcs, _, hw⟩ := DataW.trod_int ht h
  obtain ⟨rfl, _⟩ := List.cons.inj hcs
  have := bounds_i64 hw
  exact ⟨z, rfl, by omega⟩
end
/-- append(own, a...), as a step of a region that draws its order -/
theorem step_append_words {P : Program} {w : World} {ops : Array Oper} {o : Oper} {a : Act} {K : Act → World → Prop} {Q : Exit → Act → World → Prop} {E : Prop} (hgd : o.guard = none) (s x : Operand) (t : TypeId)
    (ho : o.op = .call { callee := .builtin .append, args := #[s, x], argTypes := #[t, t] })
    (T : TypeId) (ht : P.underlying t = some (.slice T)) (hinfo : (P.info? T).map (fun i => (i.zero, i.size, i.bytes)) = some (some (.int .u32 0), 1, 4))
    (B : Nat) (v : Value) (l : List (BitVec 32)) (hs : a.eval s = v) (hown : OwnW T B w v l) (ad : Option Addr) (m c : Nat) (l2 : List (BitVec 32)) (hx : a.eval x = .slice ad m c) (hw : Words32 w ad m l2) (hc : ad = none → c = 0)
    (h63 : l.length + m ≤ 1099511627776) (hbase : B ≤ w.heap.size)
    (h : ∀ v' w', OwnW T B w' v' (l ++ l2) → w.grownBy w' v.ownBlock → K (a.put o.dst v') w') : if Region.wanted o (yielded ops a.tmps) = true then Oper.wp P o a w K Q else E := by
  have hwt : Region.wanted o (yielded ops a.tmps) = true := by simp [Region.wanted, hgd]
  rw [if_pos hwt]
  obtain ⟨i0, hi, hz0, hz1, hz2⟩ := info_parts hinfo
  obtain ⟨hl2, hm, hcell⟩ := hw
  rcases ad with _ | ad
  · have h0 : m = 0 := by
      rcases Nat.eq_zero_or_pos m with h0 | h0
      · exact h0
      · obtain ⟨_, e, _⟩ := hcell 0 h0
        cases e
    subst h0
    obtain rfl := List.length_eq_zero_iff.1 hl2
    obtain rfl := hc rfl
    have hrun := run_append_owned_none (P := P) (w := w) B t o.type T i0 1 ht hi v _ _ hown
    unfold Oper.wp
    simp [execOp, ho, resolve, invoke, builtin, hs, hx, hrun, Result.andThen]
    exact h v w (by simpa using hown) (World.grownBy.refl w _)
  · refine wp_append_own w s x t ho B T i0 (.int .u32 0) 1 4 ht hi hz0 hz1 hz2 rfl (by decide) v _ _ hs hown ad m c (wlist l2) hx (by rw [wlist_length, hl2, Nat.mul_one]) (fun j u hj => ?_) (wlist_one _) (by unfold maxLen; omega) (by omega) hbase ?_
    · have hj2 : j < l2.length := by
        have := (List.getElem?_eq_some_iff.1 hj).1
        rwa [wlist_length] at this
      obtain ⟨ad', e, hx2⟩ := hcell j (by omega)
      injection e with e
      subst e
      rw [hx2, ← hj, wlist_at l2 j hj2]
    · intro v' w' h1 h2 _
      exact h v' w' (OwnW.all (by rw [hl2]; exact h1)) h2
end Go.Proofs.Ytamigcbodplmcaa
