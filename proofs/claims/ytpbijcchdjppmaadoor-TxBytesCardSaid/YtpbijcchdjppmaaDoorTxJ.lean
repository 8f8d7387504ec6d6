/- another witness: what stays of the bytes, and what doesn't. Nothing of the program. -/
import Derived.Test.YtpbijcchdjppmaaDoorTxP
namespace Go.Proofs.YtpbijcchdjppmaaDoor
open Go Go.RowKit Go.ChangeShapes Go.WideShapes
namespace Tx
theorem le8_inj {x y : BitVec 64} (h : Pk.le x 8 = Pk.le y 8) : x = y := by
  have h1 := Pk.rd_le x 8 (.inr (.inr (.inr rfl))) []
  have h2 := Pk.rd_le y 8 (.inr (.inr (.inr rfl))) []
  rw [h, h2] at h1
  have h3 := congrArg Prod.snd h1
  dsimp only at h3
  rw [low_all, low_all] at h3
  exact h3.symm
theorem text_inj {k1 k2 : List (BitVec 8)} (h : Pk.text k1 = Pk.text k2) : k1 = k2 := by
  have hl : k1.length = k2.length := by
    have e := congrArg List.length h
    unfold Pk.text at e
    rw [List.length_append, List.length_append, Pk.count_len, Pk.count_len] at e
    split at e <;> split at e <;> (try split at e) <;> (try split at e) <;> (try split at e) <;> (try split at e) <;> omega
  unfold Pk.text at h
  rw [hl] at h
  exact List.append_cancel_left h
theorem wit_inj {k1 k2 : List (BitVec 8)} {s1 s2 : BitVec 64} (h : Pk.text k1 ++ Pk.le s1 8 = Pk.text k2 ++ Pk.le s2 8) : k1 = k2 ∧ s1 = s2 := by
  obtain ⟨h1, h2⟩ := List.append_inj' h (by rw [Pk.le_len, Pk.le_len])
  exact ⟨text_inj h1, le8_inj h2⟩
theorem cut_at {α : Type} {L : List α} {k : Nat} {s : α} (h : L[k]? = some s) : L = L.take k ++ s :: L.drop (k + 1) := by
  obtain ⟨h2, h3⟩ := List.getElem?_eq_some_iff.1 h
  have h4 := List.drop_eq_getElem_cons h2
  rw [h3] at h4
  rw [← h4, List.take_append_drop]
theorem set_cut {α : Type} {L : List α} {k : Nat} {s : α} (h : L[k]? = some s) (s' : α) : L.set k s' = L.take k ++ s' :: L.drop (k + 1) := by
  obtain ⟨h2, _⟩ := List.getElem?_eq_some_iff.1 h
  rw [List.set_eq_take_append_cons_drop, if_pos h2]
/-- a spend with another witness -/
def sw (s : Sp) (key : List (BitVec 8)) (sl : BitVec 64) : Sp := ⟨s.h, s.n, key, sl⟩
def tw (t : T) (k : Nat) (s' : Sp) : T := ⟨t.sp.set k s', t.co, t.firm⟩
theorem base_wit {t : T} {k : Nat} {s : Sp} (h : t.sp[k]? = some s) (key : List (BitVec 8)) (sl : BitVec 64) : enc false (tw t k (sw s key sl)) = enc false t := by
  have e1 : (t.sp.set k (sw s key sl)).flatMap (encSp false) = t.sp.flatMap (encSp false) := by
    have h3 := congrArg (List.flatMap (encSp false)) (cut_at h)
    rw [h3, set_cut h, List.flatMap_append, List.flatMap_append, List.flatMap_cons, List.flatMap_cons]
    rfl
  unfold enc tw
  dsimp only
  rw [e1, List.length_set]
theorem wit_same {t : T} {k : Nat} {s : Sp} (h : t.sp[k]? = some s) (s' : Sp) : tw t k s' = t ↔ s' = s := by
  constructor
  · intro e
    have e1 : t.sp.set k s' = t.sp := congrArg T.sp e
    have e2 := congrArg (fun l : List Sp => l[k]?) e1
    obtain ⟨h2, _⟩ := List.getElem?_eq_some_iff.1 h
    simp only [List.getElem?_set_self h2, h] at e2
    injection e2
  · rintro rfl
    have e1 : t.sp.set k s' = t.sp := by rw [set_cut h]; exact (cut_at h).symm
    unfold tw
    rw [e1]
theorem bytes_wit {t : T} {k : Nat} {s : Sp} (h : t.sp[k]? = some s) (key : List (BitVec 8)) (sl : BitVec 64) : enc true (tw t k (sw s key sl)) = enc true t ↔ tw t k (sw s key sl) = t := by
  constructor
  · intro e
    rw [wit_same h]
    have h3 := congrArg (List.flatMap (encSp true)) (cut_at h)
    rw [List.flatMap_append, List.flatMap_cons] at h3
    unfold enc tw at e
    dsimp only at e
    rw [List.length_set] at e
    have e2 := List.append_cancel_right (List.append_cancel_right (List.append_cancel_right e))
    have e3 := List.append_cancel_left e2
    rw [h3, set_cut h, List.flatMap_append, List.flatMap_cons] at e3
    have e4 := List.append_cancel_right (List.append_cancel_left e3)
    have e5 : Pk.text key ++ Pk.le sl 8 = Pk.text s.key ++ Pk.le s.sl 8 := List.append_cancel_left e4
    obtain ⟨k1, k2⟩ := wit_inj e5
    rw [sw, k1, k2]
  · intro e
    rw [e]
theorem wit_small {t : T} (h : Small t) (k : Nat) (s : Sp) (key : List (BitVec 8)) (sl : BitVec 64) (hk : key.length ≤ 300) : Small (tw t k (sw s key sl)) := by
  refine ⟨by show (t.sp.set k _).length ≤ 30; rw [List.length_set]; exact h.1, h.2.1, fun u hu => ?_⟩
  have hu2 : u ∈ t.sp.set k (sw s key sl) := hu
  rcases List.mem_or_eq_of_mem_set hu2 with h1 | h1
  · exact h.2.2 u h1
  · rw [h1]
    show key.length ≤ 5000
    omega
end Tx
/-- a spend's witness written -/
theorem recs_wit {w w' : World} {T : TypeId} {g n k : Nat} {cur : Array Value} {L : List Tx.Sp} {s : Tx.Sp} (h : Recs spRec w (some ⟨g, 0, none⟩) n L) (hh : Has w g T cur) (hs : L[k]? = some s) (key : List (BitVec 8)) (sl : BitVec 64) (hk : key.length ≤ 300)
    (hw : w' = (w.setCell ⟨g, k * 35 + 33, none⟩ (.string (strB key))).setCell ⟨g, k * 35 + 34, none⟩ (.int .u64 (nb64 sl))) : Recs spRec w' (some ⟨g, 0, none⟩) n (L.set k (Tx.sw s key sl)) := by
  have hH : Has w' g T ((cur.setIfInBounds (k * 35 + 33) (.string (strB key))).setIfInBounds (k * 35 + 34) (.int .u64 (nb64 sl))) := by rw [hw]; exact (hh.put _ _).put _ _
  have hok := h.okay hs
  have hok' : Tx.SpOk (Tx.sw s key sl) := ⟨hok.1, hok.2.1, by show key.length ≤ maxLen; unfold maxLen; omega⟩
  have hk2 : k < L.length := (List.getElem?_eq_some_iff.1 hs).1
  have hall : ∀ t, t ∈ L.set k (Tx.sw s key sl) → spRec.ok t := fun t ht => by
    rcases List.mem_or_eq_of_mem_set ht with h1 | h1
    · exact h.2.2.1 t h1
    · rw [h1]; exact hok'
  have hfl := h.flat
  have hcur : ∀ j u, (spRec.row L)[j]? = some u → cur[j]? = some u := fun j u hj => by
    have h1 := hfl j u hj
    rw [Addr.add_mid, Nat.zero_add, hh.cell] at h1
    exact h1
  have hlen : (L.set k (Tx.sw s key sl)).length = n := by rw [List.length_set]; exact h.1
  have hR : Recs spRec w' (some ⟨g, 0, none⟩) (L.set k (Tx.sw s key sl)).length (L.set k (Tx.sw s key sl)) := recs_fresh hall hH (by rw [hlen]; exact h.2.1) (fun j u hj => by
    have hjl : j < (L.set k (Tx.sw s key sl)).length * 35 := by
      have e := (List.getElem?_eq_some_iff.1 hj).1
      rwa [spRec.row_len hall] at e
    rw [List.length_set] at hjl
    obtain ⟨i, jj, hi, hjj, rfl⟩ : ∃ i jj, i < L.length ∧ jj < 35 ∧ j = i * 35 + jj := ⟨j / 35, j % 35, by omega, by omega, by omega⟩
    have hcz : k * 35 + 34 < cur.size := by
      obtain ⟨v, hv⟩ : ∃ v, (spCells s)[34]? = some v := ⟨(spCells s)[34]'(by rw [spCells_len hok.1]; omega), List.getElem?_eq_getElem _⟩
      have e := hcur (k * 35 + 34) v (by rw [show k * 35 + 34 = k * spRec.k + 34 from rfl, spRec.row_at h.2.2.1 k 34 s hs (by show 34 < 35; omega)]; exact hv)
      exact (Array.getElem?_eq_some_iff.1 e).1
    by_cases hik : i = k
    · subst hik
      have e0 : (L.set i (Tx.sw s key sl))[i]? = some (Tx.sw s key sl) := List.getElem?_set_self hk2
      have e1 : (spRec.row (L.set i (Tx.sw s key sl)))[i * 35 + jj]? = (spCells (Tx.sw s key sl))[jj]? := spRec.row_at hall i jj _ e0 hjj
      rw [e1] at hj
      by_cases h34 : jj = 34
      · subst h34
        rw [show (34 : Nat) = 32 + 2 from rfl, spCells_at (s := Tx.sw s key sl) hok.1] at hj
        rw [Array.getElem?_setIfInBounds_self_of_lt (by rw [Array.size_setIfInBounds]; exact hcz)]
        exact hj
      · rw [Array.getElem?_setIfInBounds_ne (by omega)]
        by_cases h33 : jj = 33
        · subst h33
          rw [show (33 : Nat) = 32 + 1 from rfl, spCells_at (s := Tx.sw s key sl) hok.1] at hj
          rw [Array.getElem?_setIfInBounds_self_of_lt (by omega)]
          exact hj
        · rw [Array.getElem?_setIfInBounds_ne (by omega)]
          refine hcur _ _ ?_
          rw [show i * 35 + jj = i * spRec.k + jj from rfl, spRec.row_at h.2.2.1 i jj s hs hjj]
          show (spCells s)[jj]? = some u
          rw [← hj]
          unfold spCells
          by_cases h32 : jj < 32
          · rw [List.getElem?_append_left (by rw [blist_length, hok.1]; omega), List.getElem?_append_left (by rw [blist_length]; show jj < s.h.length; rw [hok.1]; omega)]
            rfl
          · obtain rfl : jj = 32 := by omega
            rw [List.getElem?_append_right (by rw [blist_length, hok.1]; omega), List.getElem?_append_right (by rw [blist_length]; show s.h.length ≤ 32; rw [hok.1]; omega), blist_length, blist_length]
            show _ = (_ : List Value)[32 - s.h.length]?
            rw [hok.1]
            rfl
    · have e0 : (L.set k (Tx.sw s key sl))[i]? = L[i]? := List.getElem?_set_ne (fun e => hik e.symm)
      rw [Array.getElem?_setIfInBounds_ne (by omega), Array.getElem?_setIfInBounds_ne (by omega)]
      obtain ⟨x, hx⟩ : ∃ x, L[i]? = some x := ⟨L[i], List.getElem?_eq_getElem hi⟩
      have e1 : (spRec.row (L.set k (Tx.sw s key sl)))[i * 35 + jj]? = (spCells x)[jj]? := spRec.row_at hall i jj _ (by rw [e0]; exact hx) hjj
      rw [e1] at hj
      refine hcur _ _ ?_
      rw [show i * 35 + jj = i * spRec.k + jj from rfl, spRec.row_at h.2.2.1 i jj x hx hjj]
      exact hj)
  rw [hlen] at hR
  exact hR
end Go.Proofs.YtpbijcchdjppmaaDoor
