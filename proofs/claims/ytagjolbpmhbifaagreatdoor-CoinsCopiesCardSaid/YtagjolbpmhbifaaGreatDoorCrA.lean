/- the reference's sets: lists of points and coins (pure and in memory); less -/
import Derived.Test.YtagjolbpmhbifaaGreatDoorCtn
import Derived.Test.YtagjolbpmhbifaaGreatDoorCth
import Derived.Test.YtagjolbpmhbifaaGreatDoorDgy
import Derived.Test.YtagjolbpmhbifaaGreatDoorDgv
namespace Go.Proofs.YtagjolbpmhbifaaGreatDoor
open Go Go.RowKit Go.ChangeShapes Go.WideShapes
namespace Cs
abbrev Hv := Pt × Tx.Co
/-- the coins without a point, with one more -/
def rwo (l : List Hv) (p : Pt) : List Hv := l.filter (fun x => !decide (x.1 = p))
instance (p q : Pt) : Decidable (Ahead p q) := by unfold Ahead; infer_instance
def rwi (l : List Hv) (p : Pt) (c : Tx.Co) : List Hv := match l with
  | [] => [(p, c)]
  | x :: l => if Ahead p x.1 then (p, c) :: x :: l else x :: rwi l p c
def Srt (l : List Hv) : Prop := (l.map (·.1)).Pairwise Ahead
theorem srt_keys {l : List Hv} (h : Srt l) : Keys l := by
  unfold Keys
  exact List.Pairwise.imp (fun {a b} (hab : Ahead a b) => show a ≠ b from fun e => by subst e; exact ahead_irrefl _ hab) h
theorem look_filter (l : List Hv) (p q : Pt) : look (rwo l p) q = if q = p then none else look l q := by
  induction l with
  | nil =>
    show look [] q = _
    by_cases h : q = p
    · rw [if_pos h]; rfl
    · rw [if_neg h]
  | cons x l ih =>
    unfold rwo at ih ⊢
    rw [List.filter_cons]
    unfold look at ih ⊢
    rw [idx_cons]
    by_cases hx : x.1 = p
    · rw [decide_eq_true hx]
      simp only [Bool.not_true, Bool.false_eq_true, if_false]
      rw [ih]
      by_cases hq : q = p
      · rw [if_pos hq, if_pos hq]
      · rw [if_neg hq, if_neg hq, if_neg (fun e => hq (e.trans hx))]
        cases idx q l <;> rfl
    · rw [decide_eq_false hx]
      simp only [Bool.not_false, if_true]
      rw [idx_cons]
      by_cases hq : q = x.1
      · rw [if_pos hq, if_pos hq, if_neg (fun e => hx (hq.symm.trans e))]
      · rw [if_neg hq, if_neg hq]
        have h2 : Option.map (·.2) (Option.map (fun r : Nat × Tx.Co => (r.1 + 1, r.2)) (idx q (List.filter (fun x => !decide (x.1 = p)) l))) = Option.map (·.2) (idx q (List.filter (fun x => !decide (x.1 = p)) l)) := by
          cases idx q (List.filter (fun x => !decide (x.1 = p)) l) <;> rfl
        have h3 : Option.map (·.2) (Option.map (fun r : Nat × Tx.Co => (r.1 + 1, r.2)) (idx q l)) = Option.map (·.2) (idx q l) := by
          cases idx q l <;> rfl
        rw [h2, h3, ih]
theorem look_rwi (l : List Hv) (p : Pt) (c : Tx.Co) (q : Pt) (hn : look l p = none) : look (rwi l p c) q = if q = p then some c else look l q := by
  induction l with
  | nil =>
    unfold rwi look
    rw [idx_cons]
    by_cases h : q = p
    · rw [if_pos h, if_pos h]; rfl
    · rw [if_neg h, if_neg h]; rfl
  | cons x l ih =>
    have hx : ¬ p = x.1 := fun e => by
      unfold look at hn
      rw [idx_cons, if_pos e] at hn
      cases hn
    have hl : look l p = none := by
      unfold look at hn ⊢
      rw [idx_cons, if_neg hx] at hn
      cases h : idx p l with
      | none => rfl
      | some r => rw [h] at hn; cases hn
    unfold rwi
    by_cases ha : Ahead p x.1
    · rw [if_pos ha]
      unfold look
      rw [idx_cons]
      by_cases h : q = p
      · rw [if_pos h, if_pos h]; rfl
      · rw [if_neg h, if_neg h]
        cases idx q (x :: l) <;> rfl
    · rw [if_neg ha]
      have ih2 := ih hl
      unfold look at ih2 ⊢
      rw [idx_cons, idx_cons]
      by_cases hq : q = x.1
      · rw [if_pos hq, if_pos hq, if_neg (fun e => hx (e.symm.trans hq))]
      · rw [if_neg hq, if_neg hq]
        have h2 : Option.map (·.2) (Option.map (fun r : Nat × Tx.Co => (r.1 + 1, r.2)) (idx q (rwi l p c))) = Option.map (·.2) (idx q (rwi l p c)) := by
          cases idx q (rwi l p c) <;> rfl
        have h3 : Option.map (·.2) (Option.map (fun r : Nat × Tx.Co => (r.1 + 1, r.2)) (idx q l)) = Option.map (·.2) (idx q l) := by
          cases idx q l <;> rfl
        rw [h2, h3, ih2]
theorem srt_rwo {l : List Hv} (h : Srt l) (p : Pt) : Srt (rwo l p) := List.Pairwise.sublist ((List.filter_sublist).map _) h
theorem rwi_mem {l : List Hv} {p : Pt} {c : Tx.Co} {x : Hv} (h : x ∈ rwi l p c) : x ∈ l ∨ x = (p, c) := by
  induction l with
  | nil => exact .inr (List.mem_singleton.1 h)
  | cons y l ih =>
    unfold rwi at h
    split at h
    · rcases List.mem_cons.1 h with h | h
      · exact .inr h
      · exact .inl h
    · rcases List.mem_cons.1 h with h | h
      · exact .inl (List.mem_cons.2 (.inl h))
      · rcases ih h with h | h
        · exact .inl (List.mem_cons_of_mem _ h)
        · exact .inr h
theorem srt_rwi {l : List Hv} (h : Srt l) (hl : ∀ x, x ∈ l → x.1.1.length = 32) {p : Pt} (hp : p.1.length = 32) (c : Tx.Co) (hn : look l p = none) : Srt (rwi l p c) := by
  unfold Srt at h ⊢
  induction l with
  | nil => unfold rwi; simp
  | cons x l ih =>
    have hx : ¬ p = x.1 := fun e => by
      unfold look at hn
      rw [idx_cons, if_pos e] at hn
      cases hn
    have hnl : look l p = none := by
      unfold look at hn ⊢
      rw [idx_cons, if_neg hx] at hn
      cases h : idx p l with
      | none => rfl
      | some r => rw [h] at hn; cases hn
    rw [List.map_cons, List.pairwise_cons] at h
    unfold rwi
    by_cases ha : Ahead p x.1
    · rw [if_pos ha, List.map_cons, List.pairwise_cons, List.map_cons, List.pairwise_cons]
      refine ⟨fun q hq => ?_, h⟩
      rcases List.mem_cons.1 hq with rfl | hq
      · exact ha
      · exact ahead_trans ha (h.1 q hq)
    · rw [if_neg ha, List.map_cons, List.pairwise_cons]
      have hxp : Ahead x.1 p := by
        rcases ahead_total hp (hl x List.mem_cons_self) with h1 | h1 | h1
        · exact absurd h1 ha
        · exact absurd h1 hx
        · exact h1
      refine ⟨fun q hq => ?_, ih h.2 (fun y hy => hl y (List.mem_cons_of_mem _ hy)) hnl⟩
      obtain ⟨y, hy, rfl⟩ := List.mem_map.1 hq
      rcases rwi_mem hy with hy | rfl
      · exact h.1 _ (List.mem_map.2 ⟨y, hy, rfl⟩)
      · exact hxp
theorem rwi_len (l : List Hv) (p : Pt) (c : Tx.Co) : (rwi l p c).length = l.length + 1 := by
  induction l with
  | nil => rfl
  | cons x l ih =>
    unfold rwi
    split
    · rfl
    · rw [List.length_cons, ih, List.length_cons]
end Cs
def hvCells (x : Cs.Hv) : List Value := ptCells x.1.1 x.1.2 ++ coCells x.2
def hvRec : Rec Cs.Hv where
  k := 35
  cells := hvCells
  ok := fun x => Cs.ptOk x.1 ∧ Tx.CoOk x.2
  pos := by omega
  len t h := by
    show (hvCells t).length = 35
    unfold hvCells
    rw [List.length_append, ptCells_len h.1.1]
    rfl
  one t v hv := by
    rcases List.mem_append.1 hv with h | h
    · exact ptRec.one t.1 v h
    · exact coRec.one t.2 v h
theorem hv_pt {x : Cs.Hv} (j : Nat) (v : Value) (h : (ptCells x.1.1 x.1.2)[j]? = some v) : (hvCells x)[j]? = some v := by
  unfold hvCells
  rw [List.getElem?_append_left (List.getElem?_eq_some_iff.1 h).1]
  exact h
theorem hv_co {x : Cs.Hv} (hl : x.1.1.length = 32) (j : Nat) (v : Value) (h : (coCells x.2)[j]? = some v) : (hvCells x)[33 + j]? = some v := by
  unfold hvCells
  rw [List.getElem?_append_right (by rw [ptCells_len hl]; omega), ptCells_len hl, Nat.add_sub_cancel_left]
  exact h
/-- a part of a record, where it lies in a slice -/
theorem Recs.load_part {α : Type} {R : Rec α} {P : Program} {T : TypeId} {d : TypeDesc} (hT : P.underlying T = some d) (hd : d.isRow = true) {w : World} {x : Addr} {n i : Nat} {L : List α} {t : α} (h : Recs R w (some x) n L) (hi : L[i]? = some t) (sub : List Value) (hsz : (P.info? T).map (·.size) = some sub.length) (hs : ∀ (j : Nat) (v : Value), sub[j]? = some v → (R.cells t)[j]? = some v) :
    (Instr.loadAt T (.pointer (some (x.add (i * R.k))))).run P w = .ok (.agg sub.toArray) w := by
  obtain ⟨y, e, hx⟩ := h.2.2.2 i t hi
  injection e with e
  subst e
  have h1 := run_loadCells_list (P := P) w (x.add (i * R.k)) sub (fun j v hj => by rw [Addr.add_add]; exact hx j v (hs j v hj))
  cases hq : P.info? T with
  | none => simp [hq] at hsz
  | some inf =>
    have hz : inf.size = sub.length := by simpa [hq] using hsz
    have hagg : (isAgg T).run P w = .ok true w := by
      unfold isAgg
      rw [Sem.run_bind, run_underlying hT w]
      cases d <;> first | rfl | (exact absurd hd (by simp [TypeDesc.isRow]))
    simp [Instr.loadAt, Instr.sureAddr, loadVar, Sem.run_bind, hagg, sizeOf, typeInfo, hq, hz, h1]
theorem Recs.load_later {α : Type} {R : Rec α} {P : Program} {T : TypeId} {d : TypeDesc} (hT : P.underlying T = some d) (hd : d.isRow = true) {w : World} {x : Addr} {n i : Nat} {L : List α} {t : α} (h : Recs R w (some x) n L) (hi : L[i]? = some t) (off : Nat) (sub : List Value) (hsz : (P.info? T).map (·.size) = some sub.length) (hs : ∀ (j : Nat) (v : Value), sub[j]? = some v → (R.cells t)[(off + 1) + j]? = some v) :
    (Instr.loadAt T (.pointer (some ⟨(x.add (i * R.k)).block, (x.add (i * R.k)).off + (off + 1), none⟩))).run P w = .ok (.agg sub.toArray) w := by
  have h1 := run_loadVar_mid (P := P) w (x.add (i * R.k)).block ((x.add (i * R.k)).off + (off + 1)) T sub d (fun j v hj => by
    have h2 := h.fieldS (j := off + j) hi (by
      have := hs j v hj
      rwa [show off + 1 + j = off + j + 1 by omega] at this)
    rw [show (x.add (i * R.k)).off + (off + 1) + j = (x.add (i * R.k)).off + (off + j + 1) by omega]
    exact h2) hT hd hsz
  simp only [Instr.loadAt, Instr.sureAddr, Sem.run_bind, Sem.run_pure, Result.andThen_ok, h1]
theorem size_have : (Tryz.prog.info? 112).map (·.size) = some hvRec.k := by kernel_rfl
end Go.Proofs.YtagjolbpmhbifaaGreatDoor
