/- What applying and taking back comes to (pure): fees, errors, worth. Nothing of the program. · Errors of Fee, Do, Back (pure); that a second Do fails, that a Back is possible. Nothing of the program. · the id of the chapter's example: two digests, word by word (mkcsb.py) · A slice literal of one record. Nothing of the program. · the reference's Sign (mklkg.py) · what signing does. Nothing of the program. · The chapter's example (pure) · A range over a map of points to coins: which entries are still to come · The operations on a map of points to coins, for the walk · SHA-256 of 'a' and 32 zeros, word by word, step by step · what package lock answers, as a premise; the chapter's example (mklkp.py) · package lock: Lock, Seal, where they are Word of Sum of the key's bytes (and the id's, as a second part) -/
import Derived.Test.YtdfplenniamnoaaGreatDoorJ04
import Derived.Test.YtdfplenniamnoaaGreatDoorJ06
import Derived.Test.YtdfplenniamnoaaGreatDoorJ14
import Derived.Test.YtdfplenniamnoaaGreatDoorJ02
import Derived.Test.YtdfplenniamnoaaGreatDoorJ03
import Derived.Maps.RangeRun
import Derived.Tactics
import Derived.Test.YtdfplenniamnoaaGreatDoorJ11
/-! What applying and taking back comes to (pure): fees, errors, worth. Nothing of the program. -/
namespace Go.Proofs.YtdfplenniamnoaaGreatDoor
open Go Go.RowKit
namespace Cs
theorem put_keys' {M : Mp} (h : Keys M) (p : Pt) (c : Tx.Co) : Keys (put M p c) := put_keys h
theorem idx_cons (p : Pt) (x : Pt × Tx.Co) (M : Mp) : idx p (x :: M) = if p = x.1 then some (0, x.2) else (idx p M).map (fun r => (r.1 + 1, r.2)) := rfl
def delAll (M : Mp) (l : List Pt) : Mp := l.foldl (fun M p => del M p) M
def putAll (M : Mp) (l : Mp) : Mp := l.foldl (fun M x => put M x.1 x.2) M
theorem delAll_keys : ∀ (l : List Pt) {M : Mp}, Keys M → Keys (delAll M l)
  | [], _, h => h
  | p :: l, _, h => delAll_keys l (del_keys h p)
theorem putAll_keys : ∀ (l : Mp) {M : Mp}, Keys M → Keys (putAll M l)
  | [], _, h => h
  | x :: l, _, h => putAll_keys l (put_keys' h x.1 x.2)
theorem look_delAll : ∀ (l : List Pt) {M : Mp} (_ : Keys M) (q : Pt), look (delAll M l) q = if q ∈ l then none else look M q
  | [], M, _, q => by simp [delAll]
  | p :: l, M, h, q => by
    have ih := look_delAll l (del_keys h p) q
    show look (delAll (del M p) l) q = _
    rw [ih, look_del h]
    by_cases h1 : q ∈ l
    · rw [if_pos h1, if_pos (List.mem_cons_of_mem _ h1)]
    · rw [if_neg h1]
      by_cases h2 : q = p
      · rw [if_pos h2, if_pos (by rw [h2]; exact List.mem_cons_self)]
      · rw [if_neg h2, if_neg (fun e => (List.mem_cons.1 e).elim h2 h1)]
theorem worth_delAll : ∀ (l : List Pt) {M : Mp} (_ : Keys M) (_ : l.Nodup) (_ : ∀ p, p ∈ l → (look M p).isSome = true), worth (delAll M l) + (l.map (fun p => ((look M p).getD ⟨0, 0#64⟩).v)).sum = worth M
  | [], M, _, _, _ => by simp [delAll]
  | p :: l, M, h, hn, hs => by
    obtain ⟨h1, h2⟩ := List.nodup_cons.1 hn
    obtain ⟨c, hc⟩ := Option.isSome_iff_exists.1 (hs p List.mem_cons_self)
    have hd : ∀ q, q ∈ l → look (del M p) q = look M q := fun q hq => by
      rw [look_del h, if_neg (fun e => h1 (by rw [← e]; exact hq))]
    have ih := worth_delAll l (del_keys h p) h2 (fun q hq => by rw [hd q hq]; exact hs q (List.mem_cons_of_mem _ hq))
    have e : l.map (fun q => ((look (del M p) q).getD ⟨0, 0#64⟩).v) = l.map (fun q => ((look M q).getD ⟨0, 0#64⟩).v) := List.map_congr_left fun q hq => by rw [hd q hq]
    rw [e] at ih
    have h3 := worth_del hc
    show worth (delAll (del M p) l) + _ = _
    rw [List.map_cons, List.sum_cons, hc]
    show worth (delAll (del M p) l) + (c.v + _) = _
    omega
theorem look_putAll : ∀ (l : Mp) {M : Mp} (_ : Keys M) (_ : Keys l) (q : Pt), look (putAll M l) q = match look l q with
    | some c => some c
    | none => look M q
  | [], M, _, _, q => rfl
  | x :: l, M, h, hl, q => by
    obtain ⟨h1, h2⟩ := List.nodup_cons.1 (show (x.1 :: l.map (·.1)).Nodup from hl)
    have ih := look_putAll l (put_keys' h x.1 x.2) h2 q
    show look (putAll (put M x.1 x.2) l) q = _
    rw [ih, look_put h]
    by_cases h3 : q = x.1
    · have h4 : look l q = none := look_none.2 fun y hy e => h1 (List.mem_map.2 ⟨y, hy, by rw [e, h3]⟩)
      have h5 : look (x :: l) q = some x.2 := (look_some hl).2 (by rw [h3]; exact List.mem_cons_self)
      rw [h4, h5, if_pos h3]
    · have h5 : look (x :: l) q = look l q := by
        unfold look
        rw [idx_cons, if_neg h3, Option.map_map]
        rfl
      rw [h5, if_neg h3]
theorem worth_putAll : ∀ (l : Mp) {M : Mp} (_ : Keys M) (_ : Keys l) (_ : ∀ x, x ∈ l → look M x.1 = none), worth (putAll M l) = worth M + worth l
  | [], M, _, _, _ => by simp [putAll, worth]
  | x :: l, M, h, hl, ha => by
    obtain ⟨h1, h2⟩ := List.nodup_cons.1 (show (x.1 :: l.map (·.1)).Nodup from hl)
    have ih := worth_putAll l (put_keys' h x.1 x.2) h2 (fun y hy => by
      rw [look_put h, if_neg (fun e => h1 (List.mem_map.2 ⟨y, hy, e⟩))]
      exact ha y (List.mem_cons_of_mem _ hy))
    have h3 := worth_put (c := x.2) (ha x List.mem_cons_self)
    show worth (putAll (put M x.1 x.2) l) = _
    rw [ih, h3]
    unfold worth
    rw [List.map_cons, List.sum_cons]
    omega
/-- a transaction's own coins as a map -/
def ownL (id : List (BitVec 8)) (co : List Tx.Co) : Mp := co.mapIdx (fun i c => ((id, (i : Int)), c))
theorem ownL_at {id : List (BitVec 8)} {co : List Tx.Co} {i : Nat} {x : Pt × Tx.Co} : (ownL id co)[i]? = some x ↔ ∃ c, co[i]? = some c ∧ x = ((id, (i : Int)), c) := by
  unfold ownL
  rw [List.getElem?_mapIdx, Option.map_eq_some_iff]
  exact ⟨fun ⟨c, h1, h2⟩ => ⟨c, h1, h2.symm⟩, fun ⟨c, h1, h2⟩ => ⟨c, h1, h2.symm⟩⟩
theorem ownL_keys (id : List (BitVec 8)) (co : List Tx.Co) : Keys (ownL id co) := by
  unfold Keys
  rw [List.nodup_iff_pairwise_ne, List.pairwise_iff_getElem]
  intro i j hi hj hlt e
  rw [List.length_map] at hi hj
  rw [List.getElem_map, List.getElem_map] at e
  obtain ⟨c, _, h1⟩ := ownL_at.1 (List.getElem?_eq_getElem hi)
  obtain ⟨d, _, h2⟩ := ownL_at.1 (List.getElem?_eq_getElem hj)
  rw [h1, h2] at e
  have e2 : (i : Int) = (j : Int) := congrArg Prod.snd e
  omega
theorem look_ownL (id : List (BitVec 8)) (co : List Tx.Co) (q : Pt) : look (ownL id co) q = own id co q := by
  unfold own
  by_cases h : q.1 = id ∧ 0 ≤ q.2
  · rw [if_pos h]
    have hq : q = (id, ((q.2.toNat : Nat) : Int)) := Prod.ext h.1 (by show q.2 = _; omega)
    cases hc : co[q.2.toNat]? with
    | some c =>
      rw [look_some (ownL_keys id co)]
      exact List.mem_of_getElem? (ownL_at.2 ⟨c, hc, by rw [← hq]⟩)
    | none =>
      rw [look_none]
      intro x hx e
      obtain ⟨i, hi⟩ := List.mem_iff_getElem?.1 hx
      obtain ⟨c, h1, rfl⟩ := ownL_at.1 hi
      have e2 : (i : Int) = q.2 := congrArg Prod.snd e
      rw [← e2, Int.toNat_natCast] at hc
      rw [hc] at h1
      cases h1
  · rw [if_neg h, look_none]
    intro x hx e
    obtain ⟨i, hi⟩ := List.mem_iff_getElem?.1 hx
    obtain ⟨c, h1, rfl⟩ := ownL_at.1 hi
    exact h ⟨by rw [← e], by rw [← e]; show 0 ≤ (i : Int); omega⟩
theorem worth_ownL (id : List (BitVec 8)) (co : List Tx.Co) : worth (ownL id co) = (Tx.vals co).sum := by
  have e : (ownL id co).map (fun x => x.2.v) = Tx.vals co := by
    apply List.ext_getElem?
    intro i
    unfold ownL Tx.vals
    rw [List.getElem?_map, List.getElem?_mapIdx, List.getElem?_map, Option.map_map]
    rfl
  unfold worth
  rw [e]
/-- applied -/
def doM (M : Mp) (id : List (BitVec 8)) (t : Tx.T) : Mp := putAll (delAll M (t.sp.map pt)) (ownL id t.co)
theorem doM_keys {M : Mp} (h : Keys M) (id : List (BitVec 8)) (t : Tx.T) : Keys (doM M id t) := putAll_keys _ (delAll_keys _ h)
theorem doM_is {M : Mp} (h : Keys M) (id : List (BitVec 8)) (t : Tx.T) : IsDo M (doM M id t) id t := fun q => by
  unfold doM
  rw [look_putAll _ (delAll_keys _ h) (ownL_keys _ _), look_ownL, look_delAll _ h]
  cases own id t.co q <;> rfl
theorem do_worth {M N : Mp} (hM : Keys M) (hN : Keys N) {id : List (BitVec 8)} {t : Tx.T} (hd : IsDo M N id t) (hn : (t.sp.map pt).Nodup) (hs : ∀ p, p ∈ t.sp.map pt → (look M p).isSome = true) (ho : ∀ q, (own id t.co q).isSome = true → look M q = none) :
    worth N + ((t.sp.map pt).map (fun p => ((look M p).getD ⟨0, 0#64⟩).v)).sum = worth M + (Tx.vals t.co).sum := by
  have hp : N.Perm (doM M id t) := perm_of_look hN (doM_keys hM id t) (fun q => by rw [hd q, doM_is hM id t q])
  have h1 := worth_delAll (t.sp.map pt) hM hn hs
  have h2 := worth_putAll (ownL id t.co) (delAll_keys (t.sp.map pt) hM) (ownL_keys id t.co) (fun x hx => by
    have h3 : look (ownL id t.co) x.1 = some x.2 := (look_some (ownL_keys id t.co)).2 hx
    rw [look_ownL] at h3
    rw [look_delAll _ hM, ho x.1 (by rw [h3]; rfl)]
    split <;> rfl)
  rw [worth_perm hp]
  unfold doM
  rw [h2, worth_ownL]
  omega
end Cs
end Go.Proofs.YtdfplenniamnoaaGreatDoor

/-! Errors of Fee, Do, Back (pure); that a second Do fails, that a Back is possible. Nothing of the program. -/
namespace Go.Proofs.YtdfplenniamnoaaGreatDoor
open Go Go.RowKit
namespace Cs
def spentOf (M : Mp) (t : Tx.T) : List Tx.Co := (t.sp.map pt).map (fun p => (look M p).getD ⟨0, 0#64⟩)
def inT (M : Mp) (t : Tx.T) : Int × Int := Am.total (Tx.vals (spentOf M t)) 0
def outT (t : Tx.T) : Int × Int := Am.total (Tx.vals t.co) 0
def feeE (M : Mp) (t : Tx.T) : Int :=
  if Tx.check t = 0 then
    if ∀ p, p ∈ t.sp.map pt → (look M p).isSome = true then
      if Lk.check t (spentOf M t) = 0 then
        if (inT M t).2 = 0 then if (inT M t).1 < (outT t).1 then 9 else 0
        else (inT M t).2
      else Lk.check t (spentOf M t)
    else 7
  else Tx.check t
def feeV (M : Mp) (t : Tx.T) : Int := if feeE M t = 0 then (inT M t).1 - (outT t).1 else 0
def clash (M : Mp) (id : List (BitVec 8)) (t : Tx.T) : Bool := (ownL id t.co).any (fun x => (look M x.1).isSome)
def doE (M : Mp) (id : List (BitVec 8)) (t : Tx.T) : Int := if feeE M t = 0 then if clash M id t then 6 else 0 else feeE M t
def backE (M : Mp) (id : List (BitVec 8)) (t : Tx.T) (spent : List Tx.Co) : Int :=
  if spent.length = t.sp.length then
    if (ownL id t.co).all (fun x => (look M x.1).isSome) then
      if (t.sp.map pt).any (fun p => (look M p).isSome) then 6 else 0
    else 4
  else 1
def backM (M : Mp) (id : List (BitVec 8)) (t : Tx.T) (spent : List Tx.Co) : Mp := putAll (delAll M ((ownL id t.co).map (·.1))) ((t.sp.map pt).zip spent)
theorem total_ok : ∀ (l : List Int) (s : Int), (Am.total l s).2 = 0 → (Am.total l s).1 = s + l.sum
  | [], s, _ => by simp [Am.total]
  | z :: l, s, h => by
    unfold Am.total at h ⊢
    by_cases h1 : Am.Good z
    · rw [if_pos h1] at h ⊢
      by_cases h2 : Am.Good (s + z)
      · rw [if_pos h2] at h ⊢
        rw [total_ok l (s + z) h, List.sum_cons, Int.add_assoc]
      · rw [if_neg h2] at h
        exact absurd h (by decide)
    · rw [if_neg h1] at h
      exact absurd h (by decide)
theorem check_parts {t : Tx.T} (h : Tx.check t = 0) : 1 ≤ t.sp.length ∧ (t.sp.map pt).Nodup ∧ (outT t).2 = 0 := by
  unfold Tx.check at h
  by_cases h1 : Tx.Sized t
  · rw [if_pos h1] at h
    by_cases h2 : ∀ s, s ∈ t.sp → ¬ Tx.badSp s
    · rw [if_pos h2] at h
      by_cases h3 : (Am.total (Tx.vals t.co) 0).2 = 0
      · rw [if_pos h3] at h
        by_cases h4 : Tx.Twice t.sp
        · rw [if_pos h4] at h
          exact absurd h (by decide)
        · refine ⟨h1.1, ?_, h3⟩
          rw [List.nodup_iff_pairwise_ne, List.pairwise_iff_getElem]
          intro i j hi hj hlt e
          rw [List.length_map] at hi hj
          rw [List.getElem_map, List.getElem_map] at e
          exact h4 ⟨j, i, t.sp[j], t.sp[i], hlt, List.getElem?_eq_getElem hj, List.getElem?_eq_getElem hi, (congrArg Prod.fst e).symm, (congrArg Prod.snd e).symm⟩
      · rw [if_neg h3] at h
        exact absurd h h3
    · rw [if_neg h2] at h
      exact absurd h (by decide)
  · rw [if_neg h1] at h
    exact absurd h (by decide)
theorem fee_parts {M : Mp} {t : Tx.T} (h : feeE M t = 0) : Tx.check t = 0 ∧ (∀ p, p ∈ t.sp.map pt → (look M p).isSome = true) ∧ Lk.check t (spentOf M t) = 0 ∧ (inT M t).2 = 0 ∧ (outT t).1 ≤ (inT M t).1 := by
  unfold feeE at h
  by_cases h1 : Tx.check t = 0
  · rw [if_pos h1] at h
    by_cases h2 : ∀ p, p ∈ t.sp.map pt → (look M p).isSome = true
    · rw [if_pos h2] at h
      by_cases h3 : Lk.check t (spentOf M t) = 0
      · rw [if_pos h3] at h
        by_cases h4 : (inT M t).2 = 0
        · rw [if_pos h4] at h
          by_cases h5 : (inT M t).1 < (outT t).1
          · rw [if_pos h5] at h
            exact absurd h (by decide)
          · exact ⟨h1, h2, h3, h4, by omega⟩
        · rw [if_neg h4] at h
          exact absurd h h4
      · rw [if_neg h3] at h
        exact absurd h h3
    · rw [if_neg h2] at h
      exact absurd h (by decide)
  · rw [if_neg h1] at h
    exact absurd h h1
theorem clash_none {M : Mp} {id : List (BitVec 8)} {t : Tx.T} (h : clash M id t = false) : ∀ q, (own id t.co q).isSome = true → look M q = none := by
  intro q hq
  obtain ⟨c, hc⟩ := Option.isSome_iff_exists.1 hq
  rw [← look_ownL] at hc
  have hm := (look_some (ownL_keys id t.co)).1 hc
  unfold clash at h
  have h2 := List.any_eq_false.1 h _ hm
  cases hl : look M q with
  | none => rfl
  | some d => rw [hl] at h2; exact absurd rfl h2
theorem do_parts {M : Mp} {id : List (BitVec 8)} {t : Tx.T} (h : doE M id t = 0) : feeE M t = 0 ∧ ∀ q, (own id t.co q).isSome = true → look M q = none := by
  unfold doE at h
  by_cases h1 : feeE M t = 0
  · rw [if_pos h1] at h
    cases hc : clash M id t with
    | true => rw [hc] at h; exact absurd h (by decide)
    | false => exact ⟨h1, clash_none hc⟩
  · rw [if_neg h1] at h
    exact absurd h h1
/-- what is applied takes its fee -/
theorem do_fee {M N : Mp} (hM : Keys M) (hN : Keys N) {id : List (BitVec 8)} {t : Tx.T} (h : doE M id t = 0) (hd : IsDo M N id t) : worth N = worth M - feeV M t ∧ 0 ≤ feeV M t := by
  obtain ⟨h1, h2⟩ := do_parts h
  obtain ⟨c1, c2, _, c4, c5⟩ := fee_parts h1
  obtain ⟨_, k2, k3⟩ := check_parts c1
  have hw := do_worth hM hN hd k2 c2 h2
  have e1 : (inT M t).1 = (Tx.vals (spentOf M t)).sum := by
    have := total_ok _ _ c4
    rw [Int.zero_add] at this
    exact this
  have e2 : (outT t).1 = (Tx.vals t.co).sum := by
    have := total_ok _ _ k3
    rw [Int.zero_add] at this
    exact this
  have e3 : Tx.vals (spentOf M t) = (t.sp.map pt).map (fun p => ((look M p).getD ⟨0, 0#64⟩).v) := by
    unfold Tx.vals spentOf
    rw [List.map_map]
    rfl
  unfold feeV
  rw [if_pos h1, e1, e2, e3]
  rw [e1, e2, e3] at c5
  omega
theorem look_puts : ∀ (l : Mp) {M : Mp} (_ : Keys M) (q : Pt), look (putAll M l) q = match l.reverse.find? (fun x => decide (x.1 = q)) with
    | some x => some x.2
    | none => look M q
  | [], M, _, q => rfl
  | x :: l, M, h, q => by
    have ih := look_puts l (put_keys' h x.1 x.2) q
    show look (putAll (put M x.1 x.2) l) q = _
    rw [ih, List.reverse_cons, List.find?_append, look_put h]
    cases hf : l.reverse.find? (fun x => decide (x.1 = q)) with
    | some y => rfl
    | none =>
      by_cases e : q = x.1
      · rw [if_pos e, List.find?_cons_of_pos (by simpa using e.symm)]
        rfl
      · rw [if_neg e, List.find?_cons_of_neg (by simpa using fun e2 => e e2.symm)]
        rfl
theorem backM_is {M : Mp} (h : Keys M) (id : List (BitVec 8)) (t : Tx.T) (spent : List Tx.Co) : IsBack M (backM M id t spent) id t spent := fun q => by
  unfold backM
  rw [look_puts _ (delAll_keys _ h), look_delAll _ h]
  have e : q ∈ (ownL id t.co).map (·.1) ↔ (own id t.co q).isSome = true := by
    rw [← look_ownL]
    constructor
    · intro hm
      obtain ⟨x, hx, rfl⟩ := List.mem_map.1 hm
      rw [(look_some (ownL_keys id t.co) (p := x.1) (c := x.2)).2 hx]
      rfl
    · intro hs
      obtain ⟨c, hc⟩ := Option.isSome_iff_exists.1 hs
      exact List.mem_map.2 ⟨_, (look_some (ownL_keys id t.co)).1 hc, rfl⟩
  cases hf : ((t.sp.map pt).zip spent).reverse.find? (fun x => decide (x.1 = q)) with
  | some x => rfl
  | none =>
    show (if q ∈ (ownL id t.co).map (·.1) then none else look M q) = if (own id t.co q).isSome then none else look M q
    by_cases hq : (own id t.co q).isSome = true
    · rw [if_pos (e.2 hq), if_pos hq]
    · rw [if_neg (fun h => hq (e.1 h)), if_neg hq]
/-- what was applied may be taken back, and all is as it was -/
theorem back_ok {M N : Mp} {id : List (BitVec 8)} {t : Tx.T} (h : doE M id t = 0) (hd : IsDo M N id t) : backE N id t (spentOf M t) = 0 := by
  obtain ⟨h1, h2⟩ := do_parts h
  obtain ⟨c1, c2, _, _, _⟩ := fee_parts h1
  unfold backE
  rw [if_pos (by simp [spentOf]), if_pos, if_neg]
  · intro ha
    obtain ⟨p, hp, hs⟩ := List.any_eq_true.1 ha
    rw [hd p] at hs
    cases ho : own id t.co p with
    | some c =>
      have h3 := h2 p (by rw [ho]; rfl)
      have h4 := c2 p hp
      rw [h3] at h4
      cases h4
    | none =>
      rw [ho] at hs
      have e2 : ((if p ∈ t.sp.map pt then none else look M p) : Option Tx.Co).isSome = true := hs
      rw [if_pos hp] at e2
      cases e2
  · refine List.all_eq_true.2 fun x hx => ?_
    have h3 : own id t.co x.1 = some x.2 := by
      rw [← look_ownL]
      exact (look_some (ownL_keys id t.co)).2 hx
    rw [hd x.1, h3]
    rfl
theorem spent_zip {M : Mp} {t : Tx.T} (h : ∀ p, p ∈ t.sp.map pt → (look M p).isSome = true) : ∀ x, x ∈ (t.sp.map pt).zip (spentOf M t) → look M x.1 = some x.2 := by
  intro x hx
  obtain ⟨i, hi⟩ := List.mem_iff_getElem?.1 hx
  rw [List.getElem?_zip_eq_some] at hi
  obtain ⟨h1, h2⟩ := hi
  unfold spentOf at h2
  rw [List.getElem?_map, h1] at h2
  injection h2 with h2
  obtain ⟨c, hc⟩ := Option.isSome_iff_exists.1 (h x.1 (List.mem_of_getElem? h1))
  replace h2 : (look M x.1).getD ⟨0, 0#64⟩ = x.2 := h2
  rw [hc] at h2
  rw [hc, ← h2]
  rfl
theorem back_same {M N K L : Mp} {id : List (BitVec 8)} {t : Tx.T} (h : doE M id t = 0) (hd : IsDo M N id t) (he : ∀ q, look K q = look N q) (hb : IsBack K L id t (spentOf M t)) : ∀ q, look L q = look M q :=
  back_do hd he hb (spent_zip (fee_parts (do_parts h).1).2.1) (by simp [spentOf]) (do_parts h).2
end Cs
end Go.Proofs.YtdfplenniamnoaaGreatDoor

/-! the id of the chapter's example: two digests, word by word (mkcsb.py) -/
namespace Go.Proofs.YtdfplenniamnoaaGreatDoor.Dg
end Go.Proofs.YtdfplenniamnoaaGreatDoor.Dg

/-! A slice literal of one record. Nothing of the program. -/
namespace Go.Proofs.YtdfplenniamnoaaGreatDoor
open Go Go.RowKit Go.ChangeShapes Go.WideShapes
/-! a slice literal of one record -/
theorem fold_row : ∀ (l pre b r : List Value), b.length = l.length → (l.zipIdx pre.length).foldl (fun acc (p : Value × Nat) => acc.setIfInBounds (0 + p.2) p.1) (pre ++ b ++ r).toArray = (pre ++ l ++ r).toArray
  | [], pre, b, r, hb => by
    obtain rfl := List.length_eq_zero_iff.1 hb
    rfl
  | v :: l, pre, [], r, hb => by cases hb
  | v :: l, pre, b0 :: b, r, hb => by
    rw [List.zipIdx_cons, List.foldl_cons]
    have e : (pre ++ b0 :: b ++ r).toArray.setIfInBounds (0 + pre.length) v = ((pre ++ [v]) ++ b ++ r).toArray := by
      rw [List.setIfInBounds_toArray, Nat.zero_add]
      congr 1
      simp
    have ih := fold_row l (pre ++ [v]) b r (by simpa using hb)
    rw [List.length_append] at ih
    simp only
    rw [e]
    rw [show pre.length + [v].length = pre.length + 1 from rfl] at ih
    rw [ih]
    simp
theorem fill_row {k : Nat} (cs zs : Array Value) (hc : cs.size = k) (hz : zs.size = k) : Instr.fill (fun i => some (i * k, k)) zs [(0, .agg cs)] = some cs := by
  have h := fold_row cs.toList [] zs.toList [] (by rw [Array.length_toList, Array.length_toList, hc, hz])
  have hcc : (Value.agg cs).cells = cs := rfl
  unfold Instr.fill
  simp only [Nat.zero_mul, hcc, hc, hz, ne_eq, not_true_eq_false, Nat.zero_add, gt_iff_lt, Nat.lt_irrefl, decide_false, Bool.or_self, Bool.false_eq_true, if_false]
  unfold Instr.fill
  congr 1
  rw [← Array.foldl_toList, Array.toList_zipIdx]
  simpa using h
theorem run_build_row {P : Program} {t T : TypeId} {z : Array Value} {k by_ : Nat} (ht : P.underlying t = some (.slice T)) (hi : (P.info? T).map (fun i => (i.zero, i.size, i.bytes)) = some (some (.agg z), k, by_)) (hk : 0 < k) (hk2 : k ≤ 16777216) (cs : Array Value) (hc : cs.size = k) (w : World) :
    (Instr.buildSlice t 1 #[(0, .agg cs)]).run P w = .ok (.slice (some ⟨w.heap.size, 0, none⟩) 1 1) (w.alloc (.cells cs T)) := by
  obtain ⟨i0, hi0, hz0, hz1, hz2⟩ := info_parts hi
  have hf := fill_row cs ((Array.range (1 * k)).map (z[· % z.size]!)) hc (by simp)
  have hz : (Value.agg z).cells = z := rfl
  have hne : ¬ k = 0 := by omega
  have hgt : ¬ 16777216 < k := by omega
  simp at hf
  simp [Instr.buildSlice, Sem.run_bind, run_underlying ht, sizeOf, typeInfo, zeroValue, hi0, hz0, hz1, hz, newRow, hf, hne, hgt]
theorem wpList_build_row {P : Program} {w : World} {ops : Array Oper} {rest : List Oper} {o : Oper} {a : Act} {Q : Exit → Act → World → Prop} (hgd : o.guard = none) (x : Operand) (t : TypeId) (ho : o.op = .buildSlice t 1 #[(0, x)])
    (T : TypeId) {z : Array Value} {k by_ : Nat} (ht : P.underlying t = some (.slice T)) (hi : (P.info? T).map (fun i => (i.zero, i.size, i.bytes)) = some (some (.agg z), k, by_)) (hk : 0 < k) (hk2 : k ≤ 16777216) (cs : Array Value) (hc : cs.size = k) (hx : a.eval x = .agg cs)
    (h : wpList P ops Q rest (a.put o.dst (.slice (some ⟨w.heap.size, 0, none⟩) 1 1)) (w.alloc (.cells cs T))) : wpList P ops Q (o :: rest) a w :=
  wpList_plain hgd fun K hK => by
    have hr := run_build_row (P := P) ht hi hk hk2 cs hc w
    unfold Oper.wp execOp
    simp only [ho, List.map_toArray, List.map_cons, List.map_nil, hx, Sem.run_bind, Sem.run_pure, Result.andThen_ok, hr]
    exact hK _ _ h
end Go.Proofs.YtdfplenniamnoaaGreatDoor

/-! the reference's Sign (mklkg.py) -/
namespace Go.Proofs.YtdfplenniamnoaaGreatDoor
open Go Go.RowKit Go.ChangeShapes Go.WideShapes
namespace Lk
end Lk
end Go.Proofs.YtdfplenniamnoaaGreatDoor

/-! what signing does. Nothing of the program. -/
namespace Go.Proofs.YtdfplenniamnoaaGreatDoor
open Go Go.RowKit Go.ChangeShapes Go.WideShapes
namespace Lk
end Lk
end Go.Proofs.YtdfplenniamnoaaGreatDoor

/-! The chapter's example (pure) -/
namespace Go.Proofs.YtdfplenniamnoaaGreatDoor
open Go Go.RowKit
namespace Cs
end Cs
end Go.Proofs.YtdfplenniamnoaaGreatDoor

/-! A range over a map of points to coins: which entries are still to come -/
namespace Go.Proofs.YtdfplenniamnoaaGreatDoor
open Go Go.RowKit Go.ChangeShapes Go.WideShapes
/-- block r ranges over the map in block b, which holds M; left is still to come -/
def RangeAt (w : World) (b r : Nat) (M left : List (Cs.Pt × Tx.Co)) : Prop :=
  ∃ (es : Array MapEntry) (clock since c0 : Nat) (seen : Array Nat), w.heap[b]? = some (.map es clock) ∧ es.toList.map (fun e => (e.key, e.val)) = M.map (fun x => (Cs.ptV x.1, Cs.coV x.2)) ∧ (M.map (·.1)).Nodup ∧ (∀ x, x ∈ M → Cs.ptOk x.1 ∧ Tx.CoOk x.2) ∧
    (∀ e, e ∈ es.toList → e.born < clock) ∧ (es.toList.map (·.born)).Nodup ∧
    w.heap[r]? = some (.mapIter (some b) since seen c0) ∧ (∀ x ∈ es.toList, x.born < since) ∧ since ≤ c0 ∧ since ≤ clock ∧
    (leftOf es seen).toList.map (fun e => (e.key, e.val)) = left.map (fun x => (Cs.ptV x.1, Cs.coV x.2))
section
variable {w : World} {b r : Nat} {M left : List (Cs.Pt × Tx.Co)}
theorem RangeAt.ne (h : RangeAt w b r M left) : r ≠ b := by
  rintro rfl
  obtain ⟨es, clock, since, c0, seen, h1, _, _, _, _, _, h7, _⟩ := h
  rw [h1] at h7
  cases h7
theorem RangeAt.lt (h : RangeAt w b r M left) : b < w.heap.size ∧ r < w.heap.size := by
  obtain ⟨es, clock, since, c0, seen, h1, _, _, _, _, _, h7, _⟩ := h
  exact ⟨(Array.getElem?_eq_some_iff.1 h1).1, (Array.getElem?_eq_some_iff.1 h7).1⟩
theorem RangeAt.moved {F : Nat → Prop} {w' : World} (h : RangeAt w b r M left) (hm : Moved F w w') (hb : ¬ F b) (hr : ¬ F r) : RangeAt w' b r M left := by
  obtain ⟨l1, l2⟩ := h.lt
  obtain ⟨es, clock, since, c0, seen, h1, h2, h3, h4, h5, h6, h7, h8⟩ := h
  exact ⟨es, clock, since, c0, seen, (hm.block b l1 hb).trans h1, h2, h3, h4, h5, h6, (hm.block r l2 hr).trans h7, h8⟩
theorem RangeAt.below {w' : World} (h : RangeAt w b r M left) (hb : Below w.heap.size w w') : RangeAt w' b r M left := h.moved (F := fun _ => False) (Moved.of_below hb) (fun e => e) (fun e => e)

theorem MapAt.ranges (h : MapAt w b M) : ∃ w', (Instr.range 111 (.map (some b))).run Tryz.prog w = .ok (.pointer (some ⟨w.heap.size, 0, none⟩)) w' ∧ RangeAt w' b w.heap.size M M ∧ Below w.heap.size w w' := by
  have hlt := h.lt
  obtain ⟨es, clock, hb, he, hn, hM, h1, h2⟩ := h
  refine ⟨_, run_range_map w _ _ _ b es clock Tryz.underlying111 hb, ⟨es, clock, clock, clock, #[], ((MapKept.heap_alloc w _).2 b hlt).trans hb, he, hn, hM, h1, h2, (MapKept.heap_alloc w _).1, h1, Nat.le_refl _, Nat.le_refl _, ?_⟩, (Below.refl _ _).alloc (Nat.le_refl _) _⟩
  have e : (leftOf es #[]).toList = es.toList := by simp [leftOf]
  rw [e]
  exact he
theorem left_push {es : Array MapEntry} {seen : Array Nat} (k : Nat) : (leftOf es (seen.push k)).toList = (leftOf es seen).toList.filter (fun y => !(y.born == k)) := by
  unfold leftOf
  rw [Array.toList_filter, Array.toList_filter, List.filter_filter]
  congr 1
  funext y
  simp only [Array.contains_push, Bool.not_or]
  rw [Bool.and_comm]
/-- the step -/
theorem RangeAt.next (h : RangeAt w b r M left) (ty : TypeId) :
    (left = [] ∧ (Instr.next (.pointer (some ⟨r, 0, none⟩)) false ty).run Tryz.prog w = .ok (.tuple #[.bool false]) w) ∨
    ∃ (l1 l2 : List (Cs.Pt × Tx.Co)) (x : Cs.Pt × Tx.Co) (w' : World), left = l1 ++ x :: l2 ∧ (Instr.next (.pointer (some ⟨r, 0, none⟩)) false ty).run Tryz.prog w = .ok (.tuple #[.bool true, Cs.ptV x.1, Cs.coV x.2]) w' ∧
      RangeAt w' b r M (l1 ++ l2) ∧ Moved (fun j => j = r) w w' ∧ (Instr.entry (.pointer (some ⟨r, 0, none⟩))).run Tryz.prog w' = .ok (.tuple #[Cs.ptV x.1, Cs.coV x.2]) w' := by
  have hne := h.ne
  obtain ⟨es, clock, since, c0, seen, h1, h2, h3, h4, h5, h6, h7, h8, h9, h10, h11⟩ := h
  rcases run_next_at (P := Tryz.prog) w ty r b since c0 seen es clock h7 h1 h8 h9 with ⟨h0, hrun⟩ | ⟨e, he, w1, hw1, hrun⟩
  · refine .inl ⟨?_, hrun⟩
    have e := congrArg List.length h11
    simp only [List.length_map, Array.length_toList, h0] at e
    exact List.length_eq_zero_iff.1 e.symm
  · obtain ⟨A, B, hAB⟩ := List.append_of_mem he
    rw [hAB, List.map_append, List.map_cons] at h11
    obtain ⟨l1, l2', rfl, hA, hB⟩ := List.map_eq_append_iff.1 h11.symm
    obtain ⟨x, l2, rfl, hx, hB2⟩ := List.map_eq_cons_iff.1 hB
    injection hx with hk hv
    rw [← hk, ← hv] at hrun
    have hw : w1.heap = w.heap := by rcases hw1 with rfl | rfl <;> rfl
    have hr1 : w1.heap[r]? = some (.mapIter (some b) since seen c0) := by rw [hw]; exact h7
    have hb1 : w1.heap[b]? = some (.map es clock) := by rw [hw]; exact h1
    have s1 : (ChangeMaps.setBlock w1 r (.mapIter (some b) since (seen.push e.born) clock)).heap[r]? = some (.mapIter (some b) since (seen.push e.born) clock) := by
      show (w1.heap.setIfInBounds r _)[r]? = _
      rw [Array.getElem?_setIfInBounds_self_of_lt (Array.getElem?_eq_some_iff.1 hr1).1]
    have s2 : ∀ j, j ≠ r → (ChangeMaps.setBlock w1 r (.mapIter (some b) since (seen.push e.born) clock)).heap[j]? = w.heap[j]? := fun j hj => by
      show (w1.heap.setIfInBounds r _)[j]? = _
      rw [Array.getElem?_setIfInBounds_ne (fun e => hj e.symm), hw]
    have hsub : (leftOf es seen).toList.Sublist es.toList := by
      unfold leftOf
      rw [Array.toList_filter]
      exact List.filter_sublist
    have hnd : ((A ++ e :: B).map (·.born)).Nodup := by rw [← hAB]; exact h6.sublist (hsub.map _)
    have hleft : (leftOf es (seen.push e.born)).toList = A ++ B := by
      rw [left_push, hAB, List.filter_append, List.filter_cons]
      rw [List.map_append, List.map_cons, List.nodup_append] at hnd
      obtain ⟨_, n2, n3⟩ := hnd
      have f1 : A.filter (fun y => !(y.born == e.born)) = A := List.filter_eq_self.2 fun y hy => by
        have := n3 y.born (List.mem_map.2 ⟨y, hy, rfl⟩) e.born List.mem_cons_self
        simpa using this
      have f2 : B.filter (fun y => !(y.born == e.born)) = B := List.filter_eq_self.2 fun y hy => by
        have n4 := (List.nodup_cons.1 n2).1
        have : y.born ≠ e.born := fun e2 => n4 (List.mem_map.2 ⟨y, hy, e2⟩)
        simpa using this
      rw [f1, f2]
      simp
    refine .inr ⟨l1, l2, x, _, rfl, hrun, ⟨es, clock, since, clock, seen.push e.born, (s2 b (fun e => hne e.symm)).trans h1, h2, h3, h4, h5, h6, s1, h8, h10, h10, ?_⟩, ?_, ?_⟩
    · rw [hleft, List.map_append, ← hA, ← hB2, List.map_append]
    · refine ⟨?_, ?_, ?_, ?_, fun j _ hj => s2 j hj⟩
      · rcases hw1 with rfl | rfl <;> rfl
      · rcases hw1 with rfl | rfl <;> rfl
      · rcases hw1 with rfl | rfl <;> rfl
      · show w.heap.size ≤ (w1.heap.setIfInBounds r _).size
        rw [Array.size_setIfInBounds, hw]
        exact Nat.le_refl _
    · rw [hk, hv]
      exact run_entry_at _ r b since seen es clock e s1 ((s2 b (fun e => hne e.symm)).trans h1) (hsub.subset he) h6
end
end Go.Proofs.YtdfplenniamnoaaGreatDoor

/-! The operations on a map of points to coins, for the walk -/
namespace Go.Proofs.YtdfplenniamnoaaGreatDoor
open Go Go.RowKit Go.ChangeShapes Go.WideShapes
def ptRec : Rec Cs.Pt where
  k := 33
  cells := fun p => ptCells p.1 p.2
  ok := Cs.ptOk
  pos := by omega
  len t h := ptCells_len h.1
  one t v hv := by
    rcases List.mem_append.1 hv with h | h
    · exact blist_one _ v h
    · rw [List.mem_singleton.1 h]; rfl
theorem size_ptr : (Tryz.prog.info? 36).map (·.size) = some ptRec.k := by kernel_rfl
abbrev Fp := Nat → Prop
namespace Cs
def putE (M : Mp) (p : Pt) (c : Tx.Co) : Int := if Am.Good c.v then if (look M p).isSome then 6 else 0 else 9
def worthT (M : Mp) : Int × Int := if Am.Good (worth M) then (worth M, 0) else (0, 9)
/-- one point ahead of another -/
def Ahead (p q : Pt) : Prop := Dg.cmp p.1 q.1 = -1 ∨ (p.1 = q.1 ∧ p.2 < q.2)
/-- a set's own blocks behind a call: the old ones, new ones -/
def Grown (w : World) (F F' : Fp) : Prop := ∀ j, F' j → F j ∨ w.heap.size ≤ j
end Cs
section
variable {w : World} {ops : Array Oper} {rest : List Oper} {o : Oper} {a : Act} {Q : Exit → Act → World → Prop} {M left : List (Cs.Pt × Tx.Co)} {b r : Nat}
/-- what a look-up answers -/
def Cs.got (M : List (Cs.Pt × Tx.Co)) (p : Cs.Pt) (c : Bool) : Value := if c then .tuple #[Cs.coV ((Cs.look M p).getD ⟨0, 0#64⟩), .bool (Cs.look M p).isSome] else Cs.coV ((Cs.look M p).getD ⟨0, 0#64⟩)
theorem step_mapUpdate_pt {K : Act → World → Prop} {E : Prop} (hwt : Region.wanted o (yielded ops a.tmps) = true) (m x v : Operand) (hop : o.op = Op.mapUpdate 111 m x v) (hm : a.eval m = .map (some b)) (h : MapAt w b M) (p : Cs.Pt) (hx : a.eval x = Cs.ptV p) (hp : Cs.ptOk p) (c : Tx.Co) (hv : a.eval v = Cs.coV c) (hc : Tx.CoOk c)
    (hK : ∀ w', MapAt w' b (Cs.put M p c) → Moved (fun j => j = b) w w' → K (a.put o.dst undef) w') : if Region.wanted o (yielded ops a.tmps) = true then Oper.wp Tryz.prog o a w K Q else E := by
  rw [if_pos hwt]
  obtain ⟨w', hrun, r1, r2⟩ := h.put p hp c hc
  unfold Oper.wp
  simp [execOp, hop, hm, hx, hv, hrun, Result.andThen]
  exact hK w' r1 r2
theorem step_delete_pt {K : Act → World → Prop} {E : Prop} (hwt : Region.wanted o (yielded ops a.tmps) = true) (m x : Operand) (hop : o.op = Op.call { callee := Callee.builtin Builtin.delete, args := #[m, x], argTypes := #[111, 36] }) (hm : a.eval m = .map (some b)) (h : MapAt w b M) (p : Cs.Pt) (hx : a.eval x = Cs.ptV p) (hp : p.1.length = 32)
    (hK : ∀ w', MapAt w' b (Cs.del M p) → Moved (fun j => j = b) w w' → K (a.put o.dst (.tuple #[])) w') : if Region.wanted o (yielded ops a.tmps) = true then Oper.wp Tryz.prog o a w K Q else E := by
  rw [if_pos hwt]
  obtain ⟨w', hrun, r1, r2⟩ := h.del p hp o.type
  unfold Oper.wp
  simp [execOp, hop, resolve, invoke, builtin, hm, hx, hrun, Result.andThen]
  exact hK w' r1 r2
end
end Go.Proofs.YtdfplenniamnoaaGreatDoor

/-! SHA-256 of 'a' and 32 zeros, word by word, step by step -/
namespace Go.Proofs.YtdfplenniamnoaaGreatDoor.Dg
end Go.Proofs.YtdfplenniamnoaaGreatDoor.Dg

/-! what package lock answers, as a premise; the chapter's example (mklkp.py) -/
namespace Go.Proofs.YtdfplenniamnoaaGreatDoor
open Go Go.RowKit Go.ChangeShapes Go.WideShapes
structure LockA (KD : World → Prop) : Prop where
  stay : ∀ {w w' : World}, KD w → Below w.heap.size w w' → KD w'
  lock : ∀ (key : List (BitVec 8)) (w : World), KD w → key.length ≤ 10000 → Calls Tryz.prog 51 #[.string (strB key)] w fun e w' => e = .returned (.int .u64 (nb64 (Lk.lockOf key))) ∧ Below w.heap.size w w'
  sealed : ∀ (key id : List (BitVec 8)) (w : World), KD w → key.length ≤ 10000 → id.length = 32 → Calls Tryz.prog 109 #[.string (strB key), .agg (blist id).toArray] w fun e w' => e = .returned (.int .u64 (nb64 (Lk.sealOf key id))) ∧ Below w.heap.size w w'
  opens : ∀ (s : Tx.Sp) (c : Tx.Co) (id : List (BitVec 8)) (w : World), KD w → Tx.SpOk s → s.key.length ≤ 10000 → id.length = 32 → Calls Tryz.prog 119 #[.agg (spCells s).toArray, .agg (coCells c).toArray, .agg (blist id).toArray] w fun e w' => e = .returned (.bool (Lk.opens s c id)) ∧ Below w.heap.size w w'
end Go.Proofs.YtdfplenniamnoaaGreatDoor

/-! package lock: Lock, Seal, where they are Word of Sum of the key's bytes (and the id's, as a second part) -/
namespace Go.Proofs.YtdfplenniamnoaaGreatDoor
open Go Go.RowKit Go.ChangeShapes Go.WideShapes
set_option maxRecDepth 100000 in
set_option maxHeartbeats 4000000 in
theorem plock_any (key : List (BitVec 8)) (w : World) (hK : KDg w) (hk : key.length ≤ 10000) :
    Calls Tryz.prog 51 #[.string (strB key)] w fun e w' => e = .returned (.int .u64 (nb64 (Lk.lockOf key))) ∧ Below w.heap.size w w' := by
  obtain ⟨k, hkl⟩ : ∃ k, k = key.length := ⟨_, rfl⟩
  obtain ⟨W1, hW1⟩ : ∃ x, x = Lib.bytesWorld w 5 (strB key) := ⟨_, rfl⟩
  have hb1 : Below w.heap.size w W1 := by rw [hW1]; exact conv_below w _ _
  have hrow := conv_row w 5 key (by omega)
  rw [← hW1] at hrow
  have hrun := Lib.run_convert_string_bytes (P := Tryz.prog) w 9 163 5 (strB key) Tryz.underlying9 Tryz.underlying163 Tryz.underlying5
  rw [← hW1, strB_size] at hrun
  obtain ⟨v, hv⟩ : ∃ v : Value, v = .slice (some ⟨w.heap.size, 0, none⟩) key.length (grownCap w key.length 0 5) := ⟨_, rfl⟩
  rw [← hv] at hrun hrow
  obtain ⟨g, c, rfl, hc, _, hB⟩ := hrow.shape hkl.symm
  have hP := parts_one (c := c) 163 hB hc (fun e => by cases e)
  have hb2 := hb1.alloc hb1.size (.cells #[.slice (some ⟨g, 0, none⟩) k c] 163)
  have hS := dsum_any _ 1 1 [key] _ (hK.below hb2) hP (by omega) (by rw [List.flatten_singleton]; omega)
  rw [List.flatten_singleton] at hS
  have HS := Lib.hid hS
  have HR := Lib.hid hrun
  have HX := Lib.hid (show Lk.lockOf key = Dg.top (Dg.sum key) 8 from rfl)
  clear hrow hrun hv hB hkl hW1 hS hP hK
  go_enter Tryz.func51, Tryz.ntmps51
  go_wp2_with (first
    | (go_at_call 106; refine (word_any (Dg.sum key) (Dg.sum_len key) w3).mono ?_; rintro e w4 ⟨rfl, hb4⟩)
    | (go_at_call 107; refine HS.out.mono ?_; rintro e w3 ⟨rfl, hb3⟩)
    | (refine wpList_convert_run rfl 9 163 (.tmp 3) rfl _ _ rfl HR.out ?_))
  go_ret
  exact ⟨by rw [HX.out]; rfl, hb2.trans ((hb3.trans (hb4.mono hb3.size)).mono hb2.size)⟩
set_option maxRecDepth 100000 in
set_option maxHeartbeats 4000000 in
theorem pseal_any (key id : List (BitVec 8)) (w : World) (hK : KDg w) (hk : key.length ≤ 10000) (hid : id.length = 32) :
    Calls Tryz.prog 109 #[.string (strB key), .agg (blist id).toArray] w fun e w' => e = .returned (.int .u64 (nb64 (Lk.sealOf key id))) ∧ Below w.heap.size w w' := by
  obtain ⟨W0, hW0⟩ : ∃ x, x = w.alloc (.cells (blist id).toArray 34) := ⟨_, rfl⟩
  have hb0 : Below w.heap.size w W0 := by rw [hW0]; exact (Below.refl _ w).alloc (Nat.le_refl _) _
  have hX : Has W0 w.heap.size 34 (blist id).toArray := by rw [hW0]; exact Has.fresh _ _ _
  have HW := Lib.hid hW0
  obtain ⟨k, hkl⟩ : ∃ k, k = key.length := ⟨_, rfl⟩
  obtain ⟨W1, hW1⟩ : ∃ x, x = Lib.bytesWorld W0 5 (strB key) := ⟨_, rfl⟩
  have hb1 : Below W0.heap.size W0 W1 := by rw [hW1]; exact conv_below W0 _ _
  have hrow := conv_row W0 5 key (by omega)
  rw [← hW1] at hrow
  have hrun := Lib.run_convert_string_bytes (P := Tryz.prog) W0 9 163 5 (strB key) Tryz.underlying9 Tryz.underlying163 Tryz.underlying5
  rw [← hW1, strB_size] at hrun
  obtain ⟨v, hv⟩ : ∃ v : Value, v = .slice (some ⟨W0.heap.size, 0, none⟩) key.length (grownCap W0 key.length 0 5) := ⟨_, rfl⟩
  rw [← hv] at hrun hrow
  obtain ⟨g, c, rfl, hc, _, hB⟩ := hrow.shape hkl.symm
  have hX1 := hX.under hb1 hX.lt
  have hb01 := hb0.trans (hb1.mono hb0.size)
  have hP := parts_two (c := c) (c2 := 32) 163 hB hc (fun e => by cases e) (bytes_has32 hX1 hid) (Nat.le_refl _) (fun e => by cases e)
  have hb2 := hb01.alloc hb01.size (.cells #[.slice (some ⟨g, 0, none⟩) k c, .slice (some ⟨w.heap.size, 0, none⟩) 32 32] 163)
  have hS := dsum_any _ 2 2 [key, id] _ (hK.below hb2) hP (by omega) (by simp; omega)
  have HF := Lib.hid (show [key, id].flatten = key ++ id by simp)
  rw [HF.out] at hS
  have HS := Lib.hid hS
  have HR := Lib.hid hrun
  have HX := Lib.hid (show Lk.sealOf key id = Dg.top (Dg.sum (key ++ id)) 8 from rfl)
  clear hrow hrun hv hB hkl hW1 hS hP hK hX hX1 hW0
  go_enter Tryz.func109, Tryz.ntmps109
  go_upto_region 1 with fail
  rw [← HW.out]
  go_wp2_with (first
    | (go_at_call 106; refine (word_any (Dg.sum (key ++ id)) (Dg.sum_len _) w3).mono ?_; rintro e w4 ⟨rfl, hb4⟩)
    | (go_at_call 107; refine HS.out.mono ?_; rintro e w3 ⟨rfl, hb3⟩)
    | (refine wpList_convert_run rfl 9 163 (.tmp 5) rfl _ _ rfl HR.out ?_))
  go_ret
  exact ⟨by rw [HX.out]; rfl, hb2.trans ((hb3.trans (hb4.mono hb3.size)).mono hb2.size)⟩
end Go.Proofs.YtdfplenniamnoaaGreatDoor
