/- A region that draws its order, within a round of a range over a function: its first operation loads a cell that its last one stores to; between them all only reads but one that makes memory, and that one may come ahead of the load. Nothing of the program. -/
import Derived.Test.YtamigcbodplmcaaPz
import Derived.OrdersHeld
namespace Go.Proofs.Ytamigcbodplmcaa
open Go Go.RowKit
section
variable {P : Program} {md : Region.Mode} {ops : Array Oper} {Q : Exit → Act → World → Prop} {S : World → Prop} {z n : Nat}
/-- whatever order is picked, and S holds behind whatever has a number up to n -/
def anyC (P : Program) (md : Region.Mode) (ops : Array Oper) (Q : Exit → Act → World → Prop) (S : World → Prop) (n : Nat) : Nat → Array Bool → Act → World → Prop
  | 0, lst, a, w => Region.ready md ops lst = [] ∧ Q .normal a w
  | f + 1, lst, a, w => (Region.ready md ops lst = [] → Q .normal a w) ∧
    ∀ i, i ∈ Region.ready md ops lst → wpOp P ops Q i (fun a' w' => (i ≤ n → S w') ∧ anyC P md ops Q S n f (lst.setIfInBounds i true) a' w') a w
theorem anyC.any : ∀ {f : Nat} {lst : Array Bool} {a : Act} {w : World}, anyC P md ops Q S n f lst a w → wpAny P md ops Q f lst a w
  | 0, _, _, _, h => h
  | _ + 1, _, _, _, h => And.intro h.1 (fun i hi => wpOp_mono (fun _ _ g => anyC.any g.2) (h.2 i hi))
/-- the load first -/
theorem anyC.load {oz : Oper} {v : Value} (hz : ops[z]? = some oz) (hsel : ∀ (j : Nat) (o : Oper) cs b, ops[j]? = some o → o.op ≠ .select cs b)
    (hQ : ∀ c a w, Q (.panic c) (a.put oz.dst v) w → Q (.panic c) a w)
    (hT : ∀ j oj, ops[j]? = some oj → n < j → ∃ e, e ∈ oj.after ∧ Region.binds md e = true ∧ e.on = z) :
    ∀ (f : Nat) (lst : Array Bool) (a : Act) (w : World), (∀ j oj, ops[j]? = some oj → j ≠ z → lst.getD j true = false → (∀ e ∈ oj.after, Region.binds md e = true → e.on ≠ z) → oz.apart ops oj = true) →
      z ∈ Region.ready md ops lst → YieldsIf P ops S oz v a → S w → anyC P md ops Q S n f (lst.setIfInBounds z true) (a.put oz.dst v) w → wpAny P md ops Q (f + 1) lst a w := by
  intro f
  induction f with
  | zero =>
    intro lst a w _ hr hy hS H
    constructor
    · intro e; rw [e] at hr; cases hr
    · intro j hj
      by_cases hjz : j = z
      · rw [hjz]; exact hy.wpOp hz hS H.any
      · have g := ready_mono hj hjz
        rw [H.1] at g
        cases g
  | succ f ih =>
    intro lst a w hfree hr hy hS H
    constructor
    · intro e; rw [e] at hr; cases hr
    · intro j hj
      by_cases hjz : j = z
      · rw [hjz]; exact hy.wpOp hz hS H.any
      · obtain ⟨hun, oj, hoj, hall⟩ := mem_ready.1 hj
        have hzun : lst.getD z false = false := getD_both (mem_ready.1 hr).1
        have hnot : ∀ e ∈ oj.after, Region.binds md e = true → e.on ≠ z := by
          intro e he hb heq
          have g := hall e he hb
          rw [heq, hzun] at g
          cases g
        have hjn : j ≤ n := by
          rcases Nat.lt_or_ge n j with g | g
          · obtain ⟨e, he, hb, ho⟩ := hT j oj hoj g
            exact absurd ho (hnot e he hb)
          · exact g
        have g2 := wpOp_putIf hoj (hfree j oj hoj hjz hun hnot) (fun cs b => hsel z oz cs b hz) (fun cs b => hsel j oj cs b hoj) hQ hy (H.2 j (ready_mono hj hjz))
        refine wpOp_mono (fun a' w' g3 => ?_) g2
        refine ih _ a' w' (fun k ok hk hkz hku hkn => hfree k ok hk hkz ?_ hkn) (ready_mono hr (Ne.symm hjz)) g3.1 (g3.2.1 hjn) ?_
        · by_cases e : j = k
          · rw [← e]; exact hun
          · rwa [getD_set_ne true e] at hku
        · have g4 := g3.2.2
          rwa [Array.setIfInBounds_comm _ _ (Ne.symm hjz)] at g4
/-- the tail -/
theorem anyC.seq : ∀ (l : List Oper) (k : Nat) (lst : Array Bool) (a : Act) (w : World), n < k → (∀ j, l[j]? = ops[k + j]?) → Region.seqB md ops l.length k lst = true → wpList P ops Q l a w → anyC P md ops Q S n l.length lst a w
  | [], _, _, _, _, _, _, hB, h => And.intro (by simpa [Region.seqB] using hB) h
  | o :: l, k, lst, a, w, hk, hl, hB, h => by
    have h0 : ops[k]? = some o := by simpa using (hl 0).symm
    simp only [List.length_cons, Region.seqB, Bool.and_eq_true, decide_eq_true_eq] at hB
    constructor
    · intro e; rw [hB.1] at e; cases e
    · intro i hi
      obtain rfl : i = k := by rw [hB.1] at hi; simpa using hi
      have hw : wpOp P ops Q i (wpList P ops Q l) a w := by unfold wpOp; simp only [h0]; exact h
      exact wpOp_mono (fun a' w' g => And.intro (fun e => absurd e (by omega)) (anyC.seq l (i + 1) _ a' w' (by omega) (fun j => by have g := hl (j + 1); rw [List.getElem?_cons_succ] at g; rw [g]; congr 1; omega) hB.2 g)) hw
/-- one more edge, from the load to the one that makes memory -/
def addEdge (ops : Array Oper) (n z : Nat) : Array Oper := ops.modify n fun o => { o with after := o.after.push { on := z, ground := .data } }
theorem addEdge_at (ops : Array Oper) (n z i : Nat) : (addEdge ops n z)[i]? = if n = i then ops[i]?.map (fun o => { o with after := o.after.push { on := z, ground := .data } }) else ops[i]? := by
  unfold addEdge
  rw [Array.getElem?_modify]
theorem addEdge_ready {lst : Array Bool} (hz : lst.getD z false = true) {j : Nat} : j ∈ Region.ready md ops lst ↔ j ∈ Region.ready md (addEdge ops n z) lst := by
  rw [mem_ready, mem_ready]
  refine and_congr Iff.rfl ?_
  rw [addEdge_at]
  by_cases e : n = j
  · rw [if_pos e]
    cases ops[j]? with
    | none => simp
    | some o =>
      constructor
      · rintro ⟨o', h0, h⟩
        injection h0 with h0
        subst h0
        refine ⟨_, rfl, fun e he hb => ?_⟩
        rcases Array.mem_push.1 he with g | g
        · exact h e g hb
        · rw [g]; exact hz
      · rintro ⟨_, h1, h⟩
        injection h1 with h1
        subst h1
        exact ⟨o, rfl, fun e he hb => h e (Array.mem_push.2 (.inl he)) hb⟩
  · rw [if_neg e]
theorem anyC.head (hg : ∀ (i : Nat) (o : Oper), ops[i]? = some o → o.guard = none) {w : World} {m g : Nat} {L : Array Bool → Act → Prop} (hS : S w) (hL : ∀ lst a, lst.getD z false = true → L lst a → anyC P md ops Q S n g lst a w) :
    ∀ (f : Nat) (lst : Array Bool) (a : Act), lst.getD z false = true → wpAnyL P md (addEdge ops n z) w m L f lst a → anyC P md ops Q S n (f + g) lst a w
  | 0, lst, a, hz, h => by rw [Nat.zero_add]; exact hL lst a hz h
  | f + 1, lst, a, hz, h => by
    rw [show f + 1 + g = (f + g) + 1 by omega]
    constructor
    · intro e
      refine absurd (List.eq_nil_iff_forall_not_mem.2 fun j hj => ?_) h.1
      have := (addEdge_ready (n := n) hz).2 hj
      rw [e] at this
      cases this
    · intro i hi
      have h2 := (h.2 i ((addEdge_ready hz).1 hi)).2
      have h3 : stOp P ops w i (wpAnyL P md (addEdge ops n z) w m L f (lst.setIfInBounds i true)) a := by
        unfold stOp at h2 ⊢
        rw [addEdge_at] at h2
        cases ho : ops[i]? with
        | none => rw [ho] at h2; simpa using h2
        | some o =>
          have hgo := hg i o ho
          have hw : ∀ y, Region.wanted o y = true := fun y => by simp [Region.wanted, hgo]
          rw [ho] at h2
          simp only [hw, if_true]
          by_cases e : n = i
          · rw [if_pos e] at h2
            simp only [Option.map_some] at h2
            have hw2 : ∀ y, Region.wanted { o with after := o.after.push { on := z, ground := .data } } y = true := fun y => by simp [Region.wanted, hgo]
            simp only [hw2, if_true] at h2
            exact h2
          · rw [if_neg e] at h2
            simp only [hw, if_true] at h2
            exact h2
      exact wpOp_of_stOp (fun a' g' => And.intro (fun _ => hS) (anyC.head hg hS hL f _ a' (getD_set_true hz) g')) h3
theorem addEdge_size (ops : Array Oper) (n z : Nat) : (addEdge ops n z).size = ops.size := by unfold addEdge; rw [Array.size_modify]
theorem addEdge_ready_eq {lst : Array Bool} (hz : lst.getD z false = true) : Region.ready md (addEdge ops n z) lst = Region.ready md ops lst := by
  have h := fun j => @addEdge_ready md ops z n lst hz j
  unfold Region.ready at h ⊢
  rw [addEdge_size] at h ⊢
  refine List.filter_congr fun j hj => ?_
  have h1 := h j
  rw [List.mem_filter, List.mem_filter] at h1
  rw [Bool.eq_iff_iff]
  exact ⟨fun g => (h1.2 ⟨hj, g⟩).2, fun g => (h1.1 ⟨hj, g⟩).2⟩
theorem addEdge_seq : ∀ (g k : Nat) (lst : Array Bool), lst.getD z false = true → Region.seqB md (addEdge ops n z) g k lst = Region.seqB md ops g k lst
  | 0, _, lst, hz => by simp only [Region.seqB, addEdge_ready_eq hz]
  | g + 1, k, lst, hz => by simp only [Region.seqB, addEdge_ready_eq hz]; rw [addEdge_seq g (k + 1) _ (getD_set_true hz)]
end
/-- the order's shape, to be reckoned -/
def loadB (ops : Array Oper) (n : Nat) : Bool :=
  Region.noSelect ops && Region.noSelect (addEdge ops n 0) && decide (1 ≤ n) && decide (n < ops.size) && Region.sinkB .any (addEdge ops n 0) n && Region.chainB .any (addEdge ops n 0) n &&
  Region.lexHead .any (addEdge ops n 0) (ops.size - n) (n - 1) 1 ((Array.replicate ops.size false).setIfInBounds 0 true) &&
  (Region.ready .any ops (Array.replicate ops.size false)).contains 0 && (Region.ready .any (addEdge ops n 0) (Array.replicate ops.size false)).contains 0 && Region.free .any ops (Array.replicate ops.size false) 0 &&
  (List.range ops.size).all (fun j => decide (j ≤ n) || Region.waitsFor .any ops j 0) && ops.toList.all (fun o => o.guard.isNone)
theorem wpIn_round_load {P : Program} {lp k id : Nat} {Q : Exit → Act → World → Prop} {a : Act} {w : World} {l : List Oper} {S : World → Prop} {oz on : Oper} {v : Value} (n : Nat) (hm : P.follows .mixedOrders = true) (hB : loadB l.toArray n = true)
    (hnd : ∀ o ∈ l, ∀ c, o.op ≠ .defer c) (hlo : ¬ LetsOut Q) (hQ : ∀ c a w, ¬ Q (.panic c) a w) (hz : l[0]? = some oz) (hn : l[n]? = some on) (hy : YieldsIf P l.toArray S oz v a) (hS : S w.drew)
    (h : wpStill P (addEdge l.toArray n 0) w.drew (fun a' => ∃ u wn, (execOp a'.eval on).run P w.drew = .ok (.value u) wn ∧ S wn ∧ wpList P l.toArray Q (l.drop (n + 1)) (a'.put on.dst u) wn) ((l.take n).drop 1) (a.put oz.dst v)) :
    (Code.region id l.toArray true).wpIn (Fence.wide.inRound lp) k P Q a w := by
  simp only [loadB, Bool.and_eq_true, decide_eq_true_eq] at hB
  obtain ⟨⟨⟨⟨⟨⟨⟨⟨⟨⟨⟨hsel, hsel'⟩, h1⟩, hnl⟩, hs⟩, hc⟩, hlex⟩, hr⟩, hr'⟩, hf⟩, hT⟩, hg⟩ := hB
  have hsz : l.toArray.size = l.length := by simp
  have hg' : ∀ (i : Nat) (o : Oper), l.toArray[i]? = some o → o.guard = none := fun i o ho => by
    rw [List.getElem?_toArray] at ho
    have := List.all_eq_true.1 hg o (List.mem_of_getElem? ho)
    simpa using this
  have hz' : l.toArray[0]? = some oz := by rw [List.getElem?_toArray]; exact hz
  have hn' : l.toArray[n]? = some on := by rw [List.getElem?_toArray]; exact hn
  refine wpIn_region_any hm (anyIn_round hlo (fun i o ho => hnd o (by
    rw [List.getElem?_toArray] at ho
    exact List.mem_of_getElem? ho)) _ _ _ _ ?_)
  obtain ⟨f, hfs⟩ : ∃ f, l.toArray.size = f + 1 := ⟨l.toArray.size - 1, by omega⟩
  have hrd : 0 ∈ Region.ready .any l.toArray (Array.replicate l.toArray.size false) := by simpa using hr
  have hrd' : 0 ∈ Region.ready .any (addEdge l.toArray n 0) (Array.replicate l.toArray.size false) := by simpa using hr'
  have inv0 : HeadInv .any (addEdge l.toArray n 0) n (Array.replicate l.toArray.size false) :=
    ⟨by rw [addEdge_size]; simp, fun j oj _ hl => (by rw [getD_replicate_false] at hl; cases hl), fun t _ ht => getD_in (by rw [addEdge_size] at ht; simpa using ht) (getD_replicate_false _ _)⟩
  have hzl : ((Array.replicate l.toArray.size false).setIfInBounds 0 true).getD 0 false = true := by
    rw [hsz]
    simp
    omega
  have H1 := wpAnyL_lex (P := P) (md := .any) (ops := addEdge l.toArray n 0) (w := w.drew) (n := n) (g := l.toArray.size - n) hsel' hs hc (by rw [addEdge_size]; exact hnl) ((l.take n).drop 1) 1 ((Array.replicate l.toArray.size false).setIfInBounds 0 true) _ (fun j hj => by
      rw [addEdge_at, if_neg (by simp at hj; omega), List.getElem?_toArray, List.getElem?_drop, List.getElem?_take, if_pos (by simp at hj; omega)]) (by simp; omega) (inv0.set hrd' (by omega)) (by
      rw [show ((l.take n).drop 1).length = n - 1 by simp; omega]; exact hlex) h
  rw [show ((l.take n).drop 1).length = n - 1 by simp; omega] at H1
  have H2 := anyC.head (P := P) (md := .any) (ops := l.toArray) (Q := Q) (S := S) (z := 0) (n := n) (g := l.toArray.size - n) hg' hS (fun lst a' hzl' hL => by
    obtain ⟨hq, u, wn, hrun, hSn, hl⟩ := hL
    rw [addEdge_seq _ _ _ hzl'] at hq
    rw [show l.toArray.size - n = (l.drop (n + 1)).length + 1 by simp; omega] at hq ⊢
    simp only [Region.seqB, Bool.and_eq_true, decide_eq_true_eq] at hq
    constructor
    · intro e; rw [hq.1] at e; cases e
    · intro i hi
      obtain rfl : i = n := by rw [hq.1] at hi; simpa using hi
      unfold wpOp
      simp only [hn']
      have hw : Region.wanted on (yielded l.toArray a'.tmps) = true := by simp [Region.wanted, hg' _ _ hn']
      rw [if_pos hw]
      refine .inl ?_
      unfold Oper.wp
      rw [hrun]
      exact ⟨fun _ => hSn, anyC.seq (l.drop (i + 1)) (i + 1) _ _ _ (by omega) (fun j => by rw [List.getElem?_toArray, List.getElem?_drop]) hq.2 hl⟩) (n - 1) _ _ hzl H1
  rw [show n - 1 + (l.toArray.size - n) = f by omega] at H2
  rw [hfs]
  rw [hfs] at hrd H2 hf
  refine anyC.load (n := n) hz' (Region.noSelect_spec hsel) (fun c a w e => absurd e (hQ _ _ _)) (fun j oj hj hnj => ?_) f _ a w.drew (Region.free_spec hz' hf) hrd hy hS H2
  have hjl : j < l.toArray.size := (Array.getElem?_eq_some_iff.1 hj).1
  have := List.all_eq_true.1 hT j (List.mem_range.2 hjl)
  simp only [Bool.or_eq_true, decide_eq_true_eq] at this
  rcases this with g | g
  · omega
  · obtain ⟨o', ho', e, he, hb, ho⟩ := Region.waitsFor_spec g
    obtain rfl : o' = oj := Option.some.inj (ho'.symm.trans hj)
    exact ⟨e, he, hb, ho⟩
end Go.Proofs.Ytamigcbodplmcaa
