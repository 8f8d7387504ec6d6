/- what signing does. Nothing of the program. -/
import Derived.Test.YtcedecljbgailaaDoorLkG
namespace Go.Proofs.YtcedecljbgailaaDoor
open Go Go.RowKit Go.ChangeShapes Go.WideShapes
namespace Lk
theorem zip_base (id : List (BitVec 8)) : ∀ (l : List Tx.Sp) (k : List (List (BitVec 8))), k.length = l.length → ((l.zip k).map (fun p => signSp id p.1 p.2)).flatMap (Tx.encSp false) = l.flatMap (Tx.encSp false)
  | [], k, _ => rfl
  | s :: l, [], h => by simp at h
  | s :: l, x :: k, h => by
    rw [List.zip_cons_cons, List.map_cons, List.flatMap_cons, List.flatMap_cons, zip_base id l k (by simpa using h)]
    rfl
theorem base_sign (t : Tx.T) (keys : List (List (BitVec 8))) (h : keys.length = t.sp.length) : Tx.enc false (sign t keys) = Tx.enc false t := by
  have e1 : (signed t keys).flatMap (Tx.encSp false) = t.sp.flatMap (Tx.encSp false) := zip_base _ t.sp keys h
  unfold Tx.enc sign
  dsimp only
  rw [e1, signed_len t keys h]
theorem id_sign (t : Tx.T) (keys : List (List (BitVec 8))) (h : keys.length = t.sp.length) : Tx.idOf false (sign t keys) = Tx.idOf false t := by
  rw [Tx.idOf, Tx.idOf, base_sign t keys h]
theorem zip_again (id : List (BitVec 8)) : ∀ (l : List Tx.Sp) (k : List (List (BitVec 8))), (((l.zip k).map (fun p => signSp id p.1 p.2)).zip k).map (fun p => signSp id p.1 p.2) = (l.zip k).map (fun p => signSp id p.1 p.2)
  | [], k => rfl
  | s :: l, [] => rfl
  | s :: l, x :: k => by
    rw [List.zip_cons_cons, List.map_cons, List.zip_cons_cons, List.map_cons, zip_again id l k]
    rfl
/-- signing again changes nothing -/
theorem sign_again (t : Tx.T) (keys : List (List (BitVec 8))) (h : keys.length = t.sp.length) : sign (sign t keys) keys = sign t keys := by
  have e1 : signed (sign t keys) keys = signed t keys := by
    unfold signed
    rw [id_sign t keys h]
    exact zip_again _ t.sp keys
  show (⟨signed (sign t keys) keys, t.co, t.firm⟩ : Tx.T) = _
  rw [e1]
  rfl
/-- the coins that keys lock -/
def coins (keys : List (List (BitVec 8))) : List Tx.Co := keys.map (fun k => ⟨0, lockOf k⟩)
theorem signed_get {t : Tx.T} {keys : List (List (BitVec 8))} {j : Nat} {s : Tx.Sp} (h : (signed t keys)[j]? = some s) : ∃ u key, t.sp[j]? = some u ∧ keys[j]? = some key ∧ s = signSp (Tx.idOf false t) u key := by
  unfold signed at h
  rw [List.getElem?_map] at h
  cases hz : (t.sp.zip keys)[j]? with
  | none => rw [hz] at h; cases h
  | some p =>
    rw [hz] at h
    have h2 : s = signSp (Tx.idOf false t) p.1 p.2 := by injection h with h; exact h.symm
    rw [List.getElem?_zip_eq_some] at hz
    exact ⟨p.1, p.2, hz.1, hz.2, h2⟩
/-- what is signed opens the coins that its keys lock -/
theorem check_sign (t : Tx.T) (keys : List (List (BitVec 8))) (h : keys.length = t.sp.length) : check (sign t keys) (coins keys) = 0 := by
  have hl : (coins keys).length = (sign t keys).sp.length := by
    show (keys.map _).length = (signed t keys).length
    rw [List.length_map, signed_len t keys h, h]
  rw [check, if_pos hl, if_pos]
  intro j s c hs hc
  obtain ⟨u, key, _, hk, rfl⟩ := signed_get hs
  have hc2 : c = ⟨0, lockOf key⟩ := by
    unfold coins at hc
    rw [List.getElem?_map, hk] at hc
    injection hc with hc
    exact hc.symm
  rw [hc2, id_sign t keys h, opens, decide_eq_true_iff]
  exact ⟨rfl, rfl⟩
/-- every seal turned by one -/
def spoil (t : Tx.T) : Tx.T := ⟨t.sp.map (fun s => ⟨s.h, s.n, s.key, s.sl + 1#64⟩), t.co, t.firm⟩
theorem base_spoil (t : Tx.T) : Tx.enc false (spoil t) = Tx.enc false t := by
  have e1 : (t.sp.map (fun s : Tx.Sp => (⟨s.h, s.n, s.key, s.sl + 1#64⟩ : Tx.Sp))).flatMap (Tx.encSp false) = t.sp.flatMap (Tx.encSp false) := by
    rw [List.flatMap_map]
    rfl
  unfold Tx.enc spoil
  dsimp only
  rw [e1, List.length_map]
theorem ne_succ (x : BitVec 64) : ¬ x = x + 1#64 := by
  intro e
  have h := congrArg BitVec.toNat e
  rw [BitVec.toNat_add] at h
  have := x.isLt
  simp at h
  omega
theorem check_spoil (t : Tx.T) (keys : List (List (BitVec 8))) (h : keys.length = t.sp.length) (h0 : keys ≠ []) : check (spoil (sign t keys)) (coins keys) = 10 := by
  have hl : (coins keys).length = (spoil (sign t keys)).sp.length := by
    show (keys.map _).length = ((signed t keys).map _).length
    rw [List.length_map, List.length_map, signed_len t keys h, h]
  rw [check, if_pos hl, if_neg]
  intro ha
  have hp : 0 < keys.length := List.length_pos_iff.2 h0
  obtain ⟨u, hu⟩ : ∃ u, t.sp[0]? = some u := ⟨t.sp[0]'(by omega), List.getElem?_eq_getElem _⟩
  obtain ⟨key, hk⟩ : ∃ k, keys[0]? = some k := ⟨keys[0]'hp, List.getElem?_eq_getElem _⟩
  have hs := signed_at hu hk
  have h1 := ha 0 ⟨u.h, u.n, key, sealOf key (Tx.idOf false t) + 1#64⟩ ⟨0, lockOf key⟩ (by
    show ((signed t keys).map _)[0]? = _
    rw [List.getElem?_map, hs]
    rfl) (by
    unfold coins
    rw [List.getElem?_map, hk]
    rfl)
  rw [opens, decide_eq_true_iff] at h1
  have h2 : Tx.idOf false (spoil (sign t keys)) = Tx.idOf false t := by
    rw [Tx.idOf, base_spoil, base_sign t keys h]
    rfl
  rw [h2] at h1
  exact ne_succ _ h1.2
theorem sign_small {t : Tx.T} (hs : Tx.Small t) (keys : List (List (BitVec 8))) (h : keys.length = t.sp.length) (hk : ∀ k, k ∈ keys → k.length ≤ 300) : Tx.Small (sign t keys) := by
  refine ⟨by show (signed t keys).length ≤ 30; rw [signed_len t keys h]; exact hs.1, hs.2.1, fun s hm => ?_⟩
  obtain ⟨j, hj⟩ := List.mem_iff_getElem?.1 hm
  obtain ⟨u, key, _, hk2, rfl⟩ := signed_get hj
  have := hk key (List.mem_of_getElem? hk2)
  show key.length ≤ 5000
  omega
end Lk
end Go.Proofs.YtcedecljbgailaaDoor
