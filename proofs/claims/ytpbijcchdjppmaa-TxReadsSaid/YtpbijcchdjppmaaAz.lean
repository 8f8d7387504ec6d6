/- append(own, make([]byte, m)...): zeros behind a slice of bytes that the call has made. Nothing of the program. -/
import Derived.Test.YtpbijcchdjppmaaBb
import Derived.Laws.AppendOwn
import Derived.Lib.AppendZeros
namespace Go.Proofs.Ytpbijcchdjppmaa
open Go Go.RowKit Go.ChangeShapes Go.WideShapes
theorem zero_bytes (m : Nat) : Builtin.zeroCells #[.int .u8 0] m = (blist (List.replicate m 0#8)).toArray := by
  apply Array.ext'
  apply List.ext_getElem?
  intro j
  by_cases hj : j < m
  · simp [Builtin.zeroCells, blist, hj, Nat.mod_one, nb8]
  · simp [Builtin.zeroCells, blist, hj]
theorem run_append_zeros {P : Program} (w : World) (t tn ty e : TypeId) (i : TypeInfo) (k kn : IntKind) (ht : P.underlying t = some (.slice e)) (htn : P.underlying tn = some (.int kn)) (hi : P.info? e = some i) (hz : i.zero = some (.int .u8 0)) (hs : i.size = 1) (hb : i.bytes = 1)
    (B g n cap : Nat) (l : List (BitVec 8)) (hown : OwnB e B w (.slice (some ⟨g, 0, none⟩) n cap) l) (m : Nat) (h0 : 0 < m) (hbase : B ≤ w.heap.size) (h63 : l.length + m ≤ 1099511627776) :
    ∃ v' w', (Builtin.append_ #[t, tn] ty #[.slice (some ⟨g, 0, none⟩) n cap, .int k (m : Int)]).run P w = .ok v' w' ∧ OwnB e B w' v' (l ++ List.replicate m 0#8) ∧ w.grownBy w' (some g) := by
  obtain ⟨hxl, ⟨e1, _⟩ | ⟨g', cap', cur, e1, hbg, hg, hnc, hcm, hcs, htake⟩⟩ := hown
  · cases e1
  · injection e1 with e1 e2 e3
    injection e1 with e1
    injection e1 with e1
    subst e1 e3
    subst e2
    rw [Nat.mul_one] at hcs htake
    have hn : m ≠ 0 := by omega
    have hw : IntKind.i64.wrap (m : Int) = m := by rw [IntKind.wrap_i64]; omega
    have hneg : ¬ ((m : Int) < 0) := by omega
    have h48i : ¬ (281474976710656 < (m : Int)) := by omega
    have hzc : Builtin.zeroCells (Value.int .u8 0).cells m = (blist (List.replicate m 0#8)).toArray := zero_bytes m
    have hlr : (blist (List.replicate m 0#8)).length = m := by rw [blist_length, List.length_replicate]
    have hall : blist (l ++ List.replicate m 0#8) = blist l ++ blist (List.replicate m 0#8) := blist_app _ _
    have hlen : (blist (l ++ List.replicate m 0#8)).length = (l ++ List.replicate m 0#8).length * 1 := by rw [blist_length, Nat.mul_one]
    have hll : (l ++ List.replicate m 0#8).length = l.length + m := by simp
    by_cases hroom : l.length + m ≤ cap
    · have hfit : l.length + 0 + (blist (List.replicate m 0#8)).length ≤ cur.size := by omega
      have hst := run_storeCells_at P g l.length e (blist (List.replicate m 0#8)) 0 cur w hg hfit (blist_one _)
      rw [Nat.add_zero] at hst
      refine ⟨.slice (some ⟨g, 0, none⟩) (l.length + m) cap, w.setRow g (cur.toList.take l.length ++ blist (List.replicate m 0#8) ++ cur.toList.drop (l.length + (blist (List.replicate m 0#8)).length)).toArray, ?_, ⟨hlen, .inr ⟨g, cap, _, by rw [hll], hbg, setRow_heap w g cur _ e _ hg, by rw [hll]; exact hroom, hcm, ?_, ?_⟩⟩, ⟨rfl, rfl, rfl, by simp, fun k _ hk => setRow_other w g k _ (fun e => hk (by rw [e]))⟩⟩
      · simp [Builtin.append_, run_underlying ht, run_underlying htn, sizeOf, typeInfo, zeroValue, hi, hz, hs, hb, asInt, asIntOf, hw, hn, hneg, h48i, hroom, hzc, Addr.add_lit, hst]
      · simp only [List.size_toArray, List.length_append, List.length_take, List.length_drop, Array.length_toList, Nat.mul_one]
        omega
      · rw [Nat.mul_one, hll, hall, htake]
        rw [← show (blist l ++ blist (List.replicate m 0#8)).length = l.length + m by rw [List.length_append, blist_length, hlr]]
        exact List.take_left
    · have hn' : ¬ (l.length + m ≤ cap) := hroom
      have h63' : ¬ (9223372036854775807 < ((l.length : Int) + (m : Int))) := by omega
      have h48' : ¬ (281474976710656 < Builtin.nextslicecap (l.length + m) cap) := by
        have := growslice_fits (bytes := 1) (show cap < l.length + m by omega) (by omega)
        omega
      have holds : ∀ j u, (blist l)[j]? = some u → w.drew.cell? ((⟨g, 0, none⟩ : Addr).add j) = some u := fun j u hu =>
        World.ownsRow.cells (w := w) (base := B) (e := e) (size := 1) (v := .slice (some ⟨g, 0, none⟩) l.length cap) (n := l.length) ⟨hxl, .inr ⟨g, cap, cur, rfl, hbg, hg, hnc, hcm, by rw [Nat.mul_one]; exact hcs, by rw [Nat.mul_one]; exact htake⟩⟩ rfl j u hu
      have hfo := run_firstCells_some (P := P) w.drew 1 l.length ⟨g, 0, none⟩ l.length cap (blist l) (by rw [blist_length, Nat.mul_one]) holds
      have hge := grownCap_ge w (l.length + m) cap e
      have hcm' : grownCap w (l.length + m) cap e ≤ maxLen := grownCap_le_maxLen w (l.length + m) cap e (by unfold maxLen; omega)
      refine ⟨.slice (some ⟨w.heap.size, 0, none⟩) (l.length + m) (grownCap w (l.length + m) cap e), w.drew.alloc (.cells ((blist l).toArray ++ (blist (List.replicate m 0#8)).toArray ++ Builtin.zeroCells (Value.int .u8 0).cells (grownCap w (l.length + m) cap e - (l.length + m))) e), ?_, ⟨hlen, .inr ⟨w.heap.size, _, _, by rw [hll], hbase, heap_alloc_new w.drew _, by rw [hll]; exact hge, hcm', ?_, ?_⟩⟩, ⟨rfl, rfl, rfl, by simp, fun k hk _ => Below.heap_alloc w.drew _ k hk⟩⟩
      · simp [Builtin.append_, run_underlying ht, run_underlying htn, sizeOf, typeInfo, zeroValue, hi, hz, hs, hb, asInt, asIntOf, hw, hn, hneg, h48i, hn', h63', h48', hzc, Question.forced, hfo, newRow, grownCap]
        congr 2
        apply Array.ext'
        simp [List.append_assoc]
      · simp only [Array.size_append, List.size_toArray, size_zeroCells, blist_length, List.length_replicate, Nat.mul_one]
        show l.length + m + (grownCap w (l.length + m) cap e - (l.length + m)) * 1 = _
        omega
      · simp only [Array.toList_append, List.append_assoc]
        rw [Nat.mul_one, hll, hall, ← List.append_assoc]
        rw [← show (blist l ++ blist (List.replicate m 0#8)).length = l.length + m by rw [List.length_append, blist_length, hlr]]
        exact List.take_left
/-- append(own, a...) and append(own, make([]byte, m)...), as steps of a region that draws its order -/
theorem step_append_bytes {P : Program} {w : World} {ops : Array Oper} {o : Oper} {a : Act} {K : Act → World → Prop} {Q : Exit → Act → World → Prop} {E : Prop} (hwt : Region.wanted o (yielded ops a.tmps) = true) (s x : Operand) (t : TypeId)
    (ho : o.op = .call { callee := .builtin .append, args := #[s, x], argTypes := #[t, t] })
    (T : TypeId) (ht : P.underlying t = some (.slice T)) (hinfo : (P.info? T).map (fun i => (i.zero, i.size, i.bytes)) = some (some (.int .u8 0), 1, 1))
    (B : Nat) (v : Value) (l : List (BitVec 8)) (hs : a.eval s = v) (hown : OwnB T B w v l) (ad : Option Addr) (m c : Nat) (l2 : List (BitVec 8)) (hx : a.eval x = .slice ad m c) (hw : Bytes8 w ad m l2) (hc : ad = none → c = 0)
    (h63 : l.length + m ≤ 1099511627776) (hbase : B ≤ w.heap.size)
    (h : ∀ v' w', OwnB T B w' v' (l ++ l2) → w.grownBy w' v.ownBlock → (v ≠ .slice none 0 0 → v' ≠ .slice none 0 0) → K (a.put o.dst v') w') : if Region.wanted o (yielded ops a.tmps) = true then Oper.wp P o a w K Q else E := by
  rw [if_pos hwt]
  obtain ⟨i0, hi, hz0, hz1, hz2⟩ := info_parts hinfo
  obtain ⟨hl2, hm, hcell⟩ := hw
  rcases ad with _ | ad
  · have h0 : m = 0 := by
      rcases Nat.eq_zero_or_pos m with h0 | h0
      · exact h0
      · obtain ⟨_, e, _⟩ := hcell 0 h0
        cases e
    subst h0
    obtain rfl := List.length_eq_zero_iff.1 hl2
    obtain rfl := hc rfl
    have hrun := run_append_owned_none (P := P) (w := w) B t o.type T i0 1 ht hi v _ _ hown
    unfold Oper.wp
    simp [execOp, ho, resolve, invoke, builtin, hs, hx, hrun, Result.andThen]
    exact h v w (by simpa using hown) (World.grownBy.refl w _) id
  · refine wp_append_own w s x t ho B T i0 (.int .u8 0) 1 1 ht hi hz0 hz1 hz2 rfl (by decide) v _ _ hs hown ad m c (blist l2) hx (by rw [blist_length, hl2, Nat.mul_one]) (fun j u hj => ?_) (blist_one _) (by unfold maxLen; omega) (by omega) hbase ?_
    · have hj2 : j < l2.length := by
        have := (List.getElem?_eq_some_iff.1 hj).1
        rwa [blist_length] at this
      obtain ⟨ad', e, hx2⟩ := hcell j (by omega)
      injection e with e
      subst e
      rw [hx2, ← hj, blist_at l2 j hj2]
    · intro v' w' h1 h2 h3
      exact h v' w' (OwnB.all hl2 h1) h2 (fun g e => g (h3.1 e).1)
theorem step_append_zeros {P : Program} {w : World} {ops : Array Oper} {o : Oper} {a : Act} {K : Act → World → Prop} {Q : Exit → Act → World → Prop} {E : Prop} (hwt : Region.wanted o (yielded ops a.tmps) = true) (s x : Operand) (t tn : TypeId)
    (ho : o.op = .call { callee := .builtin .append, args := #[s, x], argTypes := #[t, tn] })
    (T : TypeId) (k kn : IntKind) (ht : P.underlying t = some (.slice T)) (htn : P.underlying tn = some (.int kn)) (hinfo : (P.info? T).map (fun i => (i.zero, i.size, i.bytes)) = some (some (.int .u8 0), 1, 1))
    (B g n cap : Nat) (l : List (BitVec 8)) (hs : a.eval s = .slice (some ⟨g, 0, none⟩) n cap) (hown : OwnB T B w (.slice (some ⟨g, 0, none⟩) n cap) l) (m : Nat) (h0 : 0 < m) (hx : a.eval x = .int k (m : Int))
    (h63 : l.length + m ≤ 1099511627776) (hbase : B ≤ w.heap.size)
    (h : ∀ v' w', OwnB T B w' v' (l ++ List.replicate m 0#8) → w.grownBy w' (some g) → K (a.put o.dst v') w') : if Region.wanted o (yielded ops a.tmps) = true then Oper.wp P o a w K Q else E := by
  rw [if_pos hwt]
  obtain ⟨i0, hi, hz0, hz1, hz2⟩ := info_parts hinfo
  obtain ⟨v', w', hr, h1, h2⟩ := run_append_zeros (P := P) w t tn o.type T i0 k kn ht htn hi hz0 hz1 hz2 B g n cap l hown m h0 hbase h63
  exact Go.Lib.wp_append_run w s x t tn ho _ _ hs hx v' w' hr (h v' w' h1 h2)
/-- a slice of the call's own that isn't nil stays so -/
theorem OwnB.some {T : TypeId} {B K : Nat} {w : World} {v : Value} {l : List (BitVec 8)} (h : OwnB T B w v l) (hK : l.length = K) (h0 : v ≠ .slice none 0 0) : ∃ g c, v = .slice (some ⟨g, 0, none⟩) K c ∧ K ≤ c ∧ Bytes8 w (some ⟨g, 0, none⟩) K l := by
  obtain ⟨a, c, rfl, h1, _, h2⟩ := h.shape hK
  obtain ⟨_, ⟨e, _⟩ | ⟨g, cap, cur, e, _⟩⟩ := h
  · exact absurd e h0
  · injection e with e1 e2 e3
    subst e1
    exact ⟨g, c, rfl, h1, h2⟩
end Go.Proofs.Ytpbijcchdjppmaa
