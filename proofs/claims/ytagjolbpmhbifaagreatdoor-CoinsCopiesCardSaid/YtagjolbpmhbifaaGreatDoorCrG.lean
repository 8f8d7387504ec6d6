/- law 12: the set beside the reference's list, behind Put and Do (pure); Put and Back of none -/
import Derived.Test.YtagjolbpmhbifaaGreatDoorCrD
import Derived.Test.YtagjolbpmhbifaaGreatDoorCrF
import Derived.Test.YtagjolbpmhbifaaGreatDoorCsy
namespace Go.Proofs.YtagjolbpmhbifaaGreatDoor
open Go Go.RowKit Go.ChangeShapes Go.WideShapes
namespace Cs
theorem look_cons (x : Hv) (l : List Hv) (q : Pt) : look (x :: l) q = if q = x.1 then some x.2 else look l q := by
  unfold look
  rw [idx_cons]
  by_cases h : q = x.1
  · rw [if_pos h, if_pos h]; rfl
  · rw [if_neg h, if_neg h]
    cases idx q l <;> rfl
theorem look_nokey {l : List Hv} {q : Pt} (h : ∀ x, x ∈ l → x.1 ≠ q) : look l q = none := by
  unfold look
  rw [idx_none.2 h]
  rfl
theorem rwos_look : ∀ (ps : List Pt) (l : List Hv) (q : Pt), look (ps.foldl rwo l) q = if q ∈ ps then none else look l q
  | [], l, q => by rw [if_neg (by simp)]; rfl
  | p :: ps, l, q => by
    rw [List.foldl_cons, rwos_look ps, look_filter]
    by_cases h1 : q ∈ ps
    · rw [if_pos h1, if_pos (List.mem_cons_of_mem _ h1)]
    · rw [if_neg h1]
      by_cases h2 : q = p
      · rw [if_pos h2, if_pos (h2 ▸ List.mem_cons_self)]
      · rw [if_neg h2, if_neg (fun h => (List.mem_cons.1 h).elim h2 h1)]
theorem rwos_srt : ∀ (ps : List Pt) {l : List Hv}, Srt l → Srt (ps.foldl rwo l)
  | [], _, h => h
  | _ :: ps, _, h => rwos_srt ps (srt_rwo h _)
theorem rwos_mem : ∀ (ps : List Pt) {l : List Hv} {x : Hv}, x ∈ ps.foldl rwo l → x ∈ l
  | [], _, _, h => h
  | _ :: ps, _, _, h => (List.mem_filter.1 (rwos_mem ps h)).1
theorem rwis_look : ∀ (xs l : List Hv), Keys xs → Srt l → (∀ x, x ∈ l → x.1.1.length = 32) → (∀ x, x ∈ xs → x.1.1.length = 32) → (∀ x, x ∈ xs → look l x.1 = none) →
    Srt (xs.foldl (fun l x => rwi l x.1 x.2) l) ∧ ∀ q, look (xs.foldl (fun l x => rwi l x.1 x.2) l) q = match look xs q with | some c => some c | none => look l q
  | [], l, _, hs, _, _, _ => ⟨hs, fun q => rfl⟩
  | x :: xs, l, hk, hs, hl, hx, hn => by
    have hk2 : x.1 ∉ xs.map (·.1) ∧ (xs.map (·.1)).Nodup := by
      unfold Keys at hk
      rw [List.map_cons, List.nodup_cons] at hk
      exact hk
    have hnx := hn x List.mem_cons_self
    have hx32 := hx x List.mem_cons_self
    have ih := rwis_look xs (rwi l x.1 x.2) hk2.2 (srt_rwi hs hl hx32 x.2 hnx) (fun y hy => (rwi_mem hy).elim (hl y) (fun e => by rw [e]; exact hx32)) (fun y hy => hx y (List.mem_cons_of_mem _ hy)) (fun y hy => by
      rw [look_rwi l x.1 x.2 y.1 hnx, if_neg (fun e => hk2.1 (by rw [← e]; exact List.mem_map_of_mem hy))]
      exact hn y (List.mem_cons_of_mem _ hy))
    rw [List.foldl_cons]
    refine ⟨ih.1, fun q => ?_⟩
    rw [ih.2 q, look_cons]
    by_cases h : q = x.1
    · rw [if_pos h, h, look_nokey (l := xs) (fun y hy e => hk2.1 (by rw [← e]; exact List.mem_map_of_mem hy)), look_rwi l x.1 x.2 x.1 hnx, if_pos rfl]
    · rw [if_neg h, look_rwi l x.1 x.2 q hnx, if_neg h]
theorem own_none {M : Mp} {id : List (BitVec 8)} {t : Tx.T} (h : clash M id t = false) : ∀ x, x ∈ ownL id t.co → look M x.1 = none := fun x hx => by
  unfold clash at h
  rw [List.any_eq_false] at h
  have h1 := h x hx
  cases h2 : look M x.1 with
  | none => rfl
  | some c => rw [h2] at h1; exact (h1 rfl).elim
theorem ownL_id {id : List (BitVec 8)} {co : List Tx.Co} {x : Hv} (hx : x ∈ ownL id co) : x.1.1 = id := by
  obtain ⟨i, hi⟩ := List.mem_iff_getElem?.1 hx
  obtain ⟨c, _, rfl⟩ := ownL_at.1 hi
  rfl
theorem rdo_look {m : List Hv} {id : List (BitVec 8)} {t : Tx.T} (hs : Srt m) (hl : ∀ x, x ∈ m → x.1.1.length = 32) (hid : id.length = 32) (hc : clash m id t = false) : Srt (rdo m id t) ∧ IsDo m (rdo m id t) id t := by
  have h := rwis_look (ownL id t.co) ((t.sp.map pt).foldl rwo m) (ownL_keys _ _) (rwos_srt _ hs) (fun x hx => hl x (rwos_mem _ hx)) (fun x hx => by rw [ownL_id hx, hid]) (fun x hx => by
    rw [rwos_look, own_none hc x hx]
    exact ite_self _)
  refine ⟨h.1, fun q => ?_⟩
  show look ((ownL id t.co).foldl (fun l x => rwi l x.1 x.2) ((t.sp.map pt).foldl rwo m)) q = _
  rw [h.2 q, look_ownL, rwos_look]
  cases own id t.co q <;> rfl
theorem putE_look {M m : Mp} (e : look M = look m) (p : Pt) (c : Tx.Co) : putE M p c = putE m p c := by
  unfold putE
  rw [e]
theorem doE_look {M m : Mp} (e : look M = look m) (id : List (BitVec 8)) (t : Tx.T) : doE M id t = doE m id t := by
  unfold doE clash feeE inT spentOf
  rw [e]
theorem do_clash {M : Mp} {id : List (BitVec 8)} {t : Tx.T} (h : doE M id t = 0) : clash M id t = false := by
  unfold doE at h
  by_cases h1 : feeE M t = 0
  · rw [if_pos h1] at h
    cases hc : clash M id t
    · rfl
    · rw [hc, if_pos rfl] at h
      exact absurd h (by decide)
  · rw [if_neg h1] at h
    exact absurd h h1
theorem put_none {M : Mp} {p : Pt} {c : Tx.Co} (h : putE M p c = 0) : look M p = none := by
  unfold putE at h
  by_cases h1 : Am.Good c.v
  · rw [if_pos h1] at h
    cases h2 : look M p with
    | none => rfl
    | some d =>
      rw [h2] at h
      exact absurd h (by simp)
  · rw [if_neg h1] at h
    exact absurd h (by decide)
theorem Beside.put {M M' : Mp} {m : List Hv} (hb : Beside M m) (hl : ∀ x, x ∈ m → x.1.1.length = 32) {p : Pt} (hp : p.1.length = 32) {c : Tx.Co} (h : ∀ q, Cs.look M' q = if putE M p c = 0 ∧ q = p then some c else Cs.look M q) : Beside M' (if putE m p c = 0 then rwi m p c else m) := by
  have e := funext hb.look
  rw [putE_look e] at h
  by_cases h1 : putE m p c = 0
  · rw [if_pos h1]
    have hn := put_none h1
    refine ⟨srt_rwi hb.srt hl hp c hn, fun q => ?_⟩
    rw [h q, look_rwi m p c q hn]
    by_cases h2 : q = p
    · rw [if_pos ⟨h1, h2⟩, if_pos h2]
    · rw [if_neg (fun h => h2 h.2), if_neg h2, hb.look]
  · rw [if_neg h1]
    refine ⟨hb.srt, fun q => ?_⟩
    rw [h q, if_neg (fun h => h1 h.1), hb.look]
theorem Beside.do_ {M M' : Mp} {m : List Hv} (hb : Beside M m) (hl : ∀ x, x ∈ m → x.1.1.length = 32) {id : List (BitVec 8)} (hid : id.length = 32) {t : Tx.T} (h1 : doE M id t = 0 → IsDo M M' id t) (h2 : ¬ doE M id t = 0 → ∀ q, Cs.look M' q = Cs.look M q) : Beside M' (if doE m id t = 0 then rdo m id t else m) := by
  have e := funext hb.look
  rw [doE_look e] at h1 h2
  by_cases h3 : doE m id t = 0
  · rw [if_pos h3]
    have h4 := rdo_look hb.srt hl hid (do_clash h3)
    refine ⟨h4.1, fun q => ?_⟩
    rw [h1 h3 q, h4.2 q, hb.look]
  · rw [if_neg h3]
    exact ⟨hb.srt, fun q => by rw [h2 h3 q, hb.look]⟩
theorem beside_nil : Beside [] [] := ⟨List.Pairwise.nil, fun _ => rfl⟩
theorem rdo_len (m : List Hv) (id : List (BitVec 8)) (t : Tx.T) : (rdo m id t).length ≤ m.length + t.co.length := by
  unfold rdo
  rw [rwis_len, ownL, List.length_mapIdx]
  have := rwos_len (t.sp.map pt) m
  omega
end Cs
end Go.Proofs.YtagjolbpmhbifaaGreatDoor
