/- Arrays of bytes compared. Nothing of the program. -/
import Derived.Test.YtpbijcchdjppmaaBb
import Derived.Laws.StructEq
import Derived.Deep.RegionHeld3
namespace Go.Proofs.Ytpbijcchdjppmaa
open Go Go.RowKit
section
variable {P : Program} (w : World)
theorem run_part_byte {e : TypeId} (he : P.underlying e = some (.int .u8)) (hs : (P.info? e).map (·.size) = some 1) (l : List (BitVec 8)) (i : Nat) (hi : i < l.length) : (part e (blist l).toArray i).run P w = .ok (.int .u8 (nb8 (cb l i))) w := by
  cases hq : P.info? e with
  | none => simp [hq] at hs
  | some j =>
    have hz : j.size = 1 := by simpa [hq] using hs
    have hat := blist_at l i hi
    have hagg : (isAgg e).run P w = .ok false w := by
      unfold isAgg
      rw [Sem.run_bind, run_underlying he w]
      simp
    simp [part, sizeOf, typeInfo, hq, hz, hat, hagg]
theorem cb_ne {l m : List (BitVec 8)} {k : Nat} (hl : l.length = k) (hm : m.length = k) : l = m ↔ ∀ i, i < k → cb l i = cb m i := by
  constructor
  · rintro rfl _ _; rfl
  · intro h
    apply List.ext_getElem (hl.trans hm.symm)
    intro i h1 h2
    have := h i (by omega)
    unfold cb at this
    rw [List.getD_eq_getElem?_getD, List.getD_eq_getElem?_getD, List.getElem?_eq_getElem h1, List.getElem?_eq_getElem h2] at this
    exact this
theorem loop_eq {l m : List (BitVec 8)} {k : Nat} (f : Nat → Option Bool × Unit → Sem (ForInStep (Option Bool × Unit)))
    (hf : ∀ i s', i < k → (f i s').run P w = if cb l i = cb m i then .ok (.yield (none, ())) w else .ok (.done (some false, ())) w) :
    ∀ (r s : Nat), s + r = k → ∃ b : Bool, (b = true ↔ ∀ i, s ≤ i → i < k → cb l i = cb m i) ∧ (forIn (List.range' s r) ((none, ()) : Option Bool × Unit) f).run P w = .ok (if b = true then none else some false, ()) w := by
  intro r
  induction r with
  | zero =>
    intro s hs
    exact ⟨true, ⟨(fun _ i h1 h2 => by omega), fun _ => rfl⟩, by simp⟩
  | succ r ih =>
    intro s hs
    rw [List.range'_succ, List.forIn_cons, Sem.run_bind, hf s _ (by omega)]
    by_cases hx : cb l s = cb m s
    · rw [if_pos hx]
      simp only [Result.andThen_ok]
      obtain ⟨b, hb, he⟩ := ih (s + 1) (by omega)
      refine ⟨b, ⟨fun h i h1 h2 => ?_, fun h => hb.2 (fun i h1 h2 => h i (by omega) h2)⟩, he⟩
      rcases Nat.lt_or_ge s i with h3 | h3
      · exact hb.1 h i h3 h2
      · obtain rfl : i = s := by omega
        exact hx
    · rw [if_neg hx]
      exact ⟨false, ⟨(fun h => by cases h), fun h => absurd (h s (Nat.le_refl _) (by omega)) hx⟩, by simp⟩
theorem run_equal_bytes {t e : TypeId} {k d : Nat} (ht : P.underlying t = some (.array k e)) (he : P.underlying e = some (.int .u8)) (hs : (P.info? e).map (·.size) = some 1) (l m : List (BitVec 8)) (hl : l.length = k) (hm : m.length = k) :
    (Op.equalIn (d + 2) t (.agg (blist l).toArray) (.agg (blist m).toArray)).run P w = .ok (decide (l = m)) w := by
  cases hq : P.info? e with
  | none => simp [hq] at hs
  | some j =>
    have hz : j.size = 1 := by simpa [hq] using hs
    have hsz : (sizeOf e).run P w = .ok 1 w := by simp [sizeOf, typeInfo, hq, hz]
    rw [Op.equalIn]
    simp only [Sem.run_bind, run_underlying ht, Result.andThen_ok, hsz, Std.Legacy.Range.forIn_eq_forIn_range', Std.Legacy.Range.size, Nat.sub_zero, Nat.add_one_sub_one, Nat.div_one, Nat.mul_one]
    have step : ∀ (f : Nat → Option Bool × Unit → Sem (ForInStep (Option Bool × Unit))), (∀ i s', i < k → (f i s').run P w = if cb l i = cb m i then .ok (.yield (none, ())) w else .ok (.done (some false, ())) w) →
        (forIn (List.range' 0 k) ((none, ()) : Option Bool × Unit) f).run P w = .ok (if l = m then none else some false, ()) w := fun f hf => by
      obtain ⟨b, hb, he⟩ := loop_eq w f hf k 0 (by omega)
      rw [he]
      by_cases h : l = m
      · rw [if_pos h, if_pos (hb.2 (fun i _ hi => (cb_ne hl hm).1 h i hi))]
      · rw [if_neg h, if_neg (fun hbt => h ((cb_ne hl hm).2 (fun i hi => hb.1 hbt i (Nat.zero_le _) hi)))]
    rw [step _ (fun i s' hi => ?_)]
    · by_cases h : l = m
      · simp [h]
      · simp [h]
    · have h1 := run_part_byte (P := P) w he (by simp [hq, hz]) l i (by omega)
      have h2 := run_part_byte (P := P) w he (by simp [hq, hz]) m i (by omega)
      have h3 := run_equalIn_int (P := P) w d e .u8 .u8 (nb8 (cb l i)) (nb8 (cb m i)) he
      rw [Sem.run_bind, h1, Result.andThen_ok, Sem.run_bind, h2, Result.andThen_ok, Sem.run_bind, h3, Result.andThen_ok]
      by_cases hx : cb l i = cb m i
      · rw [if_pos hx, show (nb8 (cb l i) == nb8 (cb m i)) = true by rw [hx]; simp]
        rfl
      · rw [if_neg hx, show (nb8 (cb l i) == nb8 (cb m i)) = false by simpa [u8_inj] using hx]
        rfl
theorem run_eql_hash {t e : TypeId} {k : Nat} (ht : P.underlying t = some (.array k e)) (he : P.underlying e = some (.int .u8)) (hs : (P.info? e).map (·.size) = some 1) (l m : List (BitVec 8)) (hl : l.length = k) (hm : m.length = k) :
    (binOp .eql t (.agg (blist l).toArray) (.agg (blist m).toArray)).run P w = .ok (.bool (decide (l = m))) w := by
  rw [run_eql_struct, run_equal_bytes w ht he hs l m hl hm]
  rfl
theorem run_neq_hash {t e : TypeId} {k : Nat} (ht : P.underlying t = some (.array k e)) (he : P.underlying e = some (.int .u8)) (hs : (P.info? e).map (·.size) = some 1) (l m : List (BitVec 8)) (hl : l.length = k) (hm : m.length = k) :
    (binOp .neq t (.agg (blist l).toArray) (.agg (blist m).toArray)).run P w = .ok (.bool (!decide (l = m))) w := by
  rw [run_neq_struct, run_equal_bytes w ht he hs l m hl hm]
  rfl
end
/-- two arrays compared, in a region that draws -/
theorem yieldsIf_eql {P : Program} {ops : Array Oper} {S : World → Prop} {op : Oper} {a : Act} (hw : Region.wanted op (yielded ops a.tmps) = true) (t e yt : TypeId) (k : Nat) (x y : Operand) (ho : op.op = .binOp .eql t x y yt)
    (l m : List (BitVec 8)) (hx : a.eval x = .agg (blist l).toArray) (hy : a.eval y = .agg (blist m).toArray) (hg : P.eqGuardType P.depth t = false) (ht : P.underlying t = some (.array k e)) (he : P.underlying e = some (.int .u8)) (hs : (P.info? e).map (·.size) = some 1) (hl : l.length = k) (hm : m.length = k) :
    YieldsIf P ops S op (.bool (decide (l = m))) a :=
  .inl ⟨hw, fun w _ => by
    unfold execOp
    simp only [ho, hx, hy, Sem.run_bind, run_eqGuard_agg w .eql t x y _ _ hg, Result.andThen_ok, run_eql_hash w ht he hs l m hl hm, Sem.run_pure]⟩
theorem yieldsIf_eql_same {P : Program} {ops : Array Oper} {S : World → Prop} {op : Oper} {a : Act} (hw : Region.wanted op (yielded ops a.tmps) = true) (t e yt : TypeId) (k : Nat) (x y : Operand) (ho : op.op = .binOp .eql t x y yt)
    (l : List (BitVec 8)) (hx : a.eval x = .agg (blist l).toArray) (hy : a.eval y = .agg (blist l).toArray) (hg : P.eqGuardType P.depth t = false) (ht : P.underlying t = some (.array k e)) (he : P.underlying e = some (.int .u8)) (hs : (P.info? e).map (·.size) = some 1) (hl : l.length = k) :
    YieldsIf P ops S op (.bool true) a := by
  have h := yieldsIf_eql (S := S) hw t e yt k x y ho l l hx hy hg ht he hs hl hl
  rwa [decide_eq_true rfl] at h
theorem yieldsIf_neq {P : Program} {ops : Array Oper} {S : World → Prop} {op : Oper} {a : Act} (hw : Region.wanted op (yielded ops a.tmps) = true) (t e yt : TypeId) (k : Nat) (x y : Operand) (ho : op.op = .binOp .neq t x y yt)
    (l m : List (BitVec 8)) (hx : a.eval x = .agg (blist l).toArray) (hy : a.eval y = .agg (blist m).toArray) (hg : P.eqGuardType P.depth t = false) (ht : P.underlying t = some (.array k e)) (he : P.underlying e = some (.int .u8)) (hs : (P.info? e).map (·.size) = some 1) (hl : l.length = k) (hm : m.length = k) :
    YieldsIf P ops S op (.bool (!decide (l = m))) a :=
  .inl ⟨hw, fun w _ => by
    unfold execOp
    simp only [ho, hx, hy, Sem.run_bind, run_eqGuard_agg w .neq t x y _ _ hg, Result.andThen_ok, run_neq_hash w ht he hs l m hl hm, Sem.run_pure]⟩
theorem yieldsIf_neq_same {P : Program} {ops : Array Oper} {S : World → Prop} {op : Oper} {a : Act} (hw : Region.wanted op (yielded ops a.tmps) = true) (t e yt : TypeId) (k : Nat) (x y : Operand) (ho : op.op = .binOp .neq t x y yt)
    (l : List (BitVec 8)) (hx : a.eval x = .agg (blist l).toArray) (hy : a.eval y = .agg (blist l).toArray) (hg : P.eqGuardType P.depth t = false) (ht : P.underlying t = some (.array k e)) (he : P.underlying e = some (.int .u8)) (hs : (P.info? e).map (·.size) = some 1) (hl : l.length = k) :
    YieldsIf P ops S op (.bool false) a := by
  have h := yieldsIf_neq (S := S) hw t e yt k x y ho l l hx hy hg ht he hs hl hl
  rwa [decide_eq_true rfl] at h
end Go.Proofs.Ytpbijcchdjppmaa
