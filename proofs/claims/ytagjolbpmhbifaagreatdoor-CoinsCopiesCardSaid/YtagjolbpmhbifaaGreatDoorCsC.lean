/- The chapter's example (pure) -/
import Derived.Test.YtagjolbpmhbifaaGreatDoorCsy
import Derived.Test.YtagjolbpmhbifaaGreatDoorCsB
import Derived.Test.YtagjolbpmhbifaaGreatDoorLkx
import Derived.Test.YtagjolbpmhbifaaGreatDoorTxI
namespace Go.Proofs.YtagjolbpmhbifaaGreatDoor
open Go Go.RowKit
namespace Cs
abbrev z32L : List (BitVec 8) := List.replicate 32 0#8
def e0 : Tx.T := ⟨[⟨z32L, 0, [], 0#64⟩], [⟨7, 0#64⟩], false⟩
theorem e0_id : Tx.idOf false e0 = Dg.sum Dg.b32L := by
  have h1 : Tx.enc false e0 = Dg.b55L := by decide +kernel
  show Dg.sum (Dg.sum (Tx.enc false e0)) = _
  rw [h1, Dg.b55_sum]
  rfl
theorem e0_ne : ¬ Tx.idOf false e0 = z32L := by
  rw [e0_id, Dg.b32_sum]
  decide +kernel
/-- signed, whatever the seal -/
def e1 (sl : BitVec 64) : Tx.T := ⟨[⟨z32L, 0, [97#8], sl⟩], [⟨7, 0#64⟩], false⟩
def m0 (lk : BitVec 64) : Mp := [((z32L, 0), ⟨10, lk⟩)]
theorem e1_sign : Lk.sign e0 [[97#8]] = e1 (Lk.sealOf [97#8] (Tx.idOf false e0)) := rfl
theorem e1_id (sl : BitVec 64) : Tx.idOf false (e1 sl) = Tx.idOf false e0 := rfl
theorem e1_check (sl : BitVec 64) : Tx.check (e1 sl) = 0 := by
  unfold Tx.check
  rw [if_pos (show Tx.Sized (e1 sl) from ⟨by show 1 ≤ 1; omega, by show 1 ≤ 8; omega, by show 1 ≤ 1; omega, by show 1 ≤ 8; omega⟩), if_pos, if_pos, if_neg]
  · rintro ⟨i, k, s, o, h1, h2, _⟩
    have h3 := (List.getElem?_eq_some_iff.1 h2).1
    have h4 : i < 1 := h3
    omega
  · rfl
  · intro s hs
    obtain rfl := List.mem_singleton.1 (show s ∈ [(⟨z32L, 0, [97#8], sl⟩ : Tx.Sp)] from hs)
    simp [Tx.badSp]
theorem e1_opens : Lk.check (e1 (Lk.sealOf [97#8] (Tx.idOf false e0))) [⟨10, Lk.lockOf [97#8]⟩] = 0 := by
  unfold Lk.check
  rw [if_pos (show [(⟨10, Lk.lockOf [97#8]⟩ : Tx.Co)].length = (e1 (Lk.sealOf [97#8] (Tx.idOf false e0))).sp.length from rfl), if_pos]
  intro j s c hs hc
  cases j with
  | zero =>
    injection hs with hs
    injection hc with hc
    rw [← hs, ← hc, e1_id, Lk.opens, decide_eq_true_iff]
    exact ⟨rfl, rfl⟩
  | succ j =>
    have h3 : j + 1 < 1 := (List.getElem?_eq_some_iff.1 hs).1
    omega
theorem m0_look (lk : BitVec 64) (q : Pt) : look (m0 lk) q = if q = (z32L, 0) then some ⟨10, lk⟩ else none := by
  unfold look m0
  rw [idx_cons]
  split <;> rfl
theorem e1_fee {M : Mp} (h : look M = look (m0 (Lk.lockOf [97#8]))) : feeE M (e1 (Lk.sealOf [97#8] (Tx.idOf false e0))) = 0 ∧ feeV M (e1 (Lk.sealOf [97#8] (Tx.idOf false e0))) = 3 := by
  rw [(feeE_same h _).1, (feeE_same h _).2]
  have hs : spentOf (m0 (Lk.lockOf [97#8])) (e1 (Lk.sealOf [97#8] (Tx.idOf false e0))) = [⟨10, Lk.lockOf [97#8]⟩] := by
    show [(look (m0 _) (z32L, 0)).getD ⟨0, 0#64⟩] = _
    rw [m0_look, if_pos rfl]
    rfl
  have hf : feeE (m0 (Lk.lockOf [97#8])) (e1 (Lk.sealOf [97#8] (Tx.idOf false e0))) = 0 := by
    unfold feeE inT
    rw [if_pos (e1_check _), if_pos, hs, if_pos e1_opens, if_pos (by rfl), if_neg (by decide)]
    intro p hp
    obtain rfl := List.mem_singleton.1 (show p ∈ [(z32L, (0 : Int))] from hp)
    rw [m0_look, if_pos rfl]
    rfl
  refine ⟨hf, ?_⟩
  unfold feeV inT
  rw [if_pos hf, hs]
  rfl
theorem e1_do {M : Mp} (h : look M = look (m0 (Lk.lockOf [97#8]))) : doE M (Tx.idOf false e0) (e1 (Lk.sealOf [97#8] (Tx.idOf false e0))) = 0 := by
  rw [doE_same h]
  unfold doE
  rw [if_pos (e1_fee (M := m0 (Lk.lockOf [97#8])) rfl).1, if_neg]
  intro hc
  unfold clash at hc
  obtain ⟨x, hx, hs⟩ := List.any_eq_true.1 hc
  obtain rfl := List.mem_singleton.1 (show x ∈ [((Tx.idOf false e0, (0 : Int)), (⟨7, 0#64⟩ : Tx.Co))] from hx)
  rw [m0_look, if_neg (fun e => e0_ne (congrArg Prod.fst e))] at hs
  cases hs
theorem e1_after {M N : Mp} (hM : Keys M) (hN : Keys N) (h : look M = look (m0 (Lk.lockOf [97#8]))) (hd : IsDo M N (Tx.idOf false e0) (e1 (Lk.sealOf [97#8] (Tx.idOf false e0)))) : worth N = 7 ∧ N.length = 1 := by
  have hk : Keys (m0 (Lk.lockOf [97#8])) := by simp [Keys, m0]
  have h1 := do_fee hM hN (e1_do h) hd
  have h2 := worth_perm (perm_of_look hM hk (fun q => congrFun h q))
  have h3 : worth (m0 (Lk.lockOf [97#8])) = 10 := rfl
  have h4 := (e1_fee h).2
  have h5 : N.Perm (doM (m0 (Lk.lockOf [97#8])) (Tx.idOf false e0) (e1 (Lk.sealOf [97#8] (Tx.idOf false e0)))) := perm_of_look hN (doM_keys hk _ _) (fun q => by rw [hd q, doM_is hk _ _ q, h])
  refine ⟨by omega, ?_⟩
  rw [h5.length_eq]
  rfl
end Cs
end Go.Proofs.YtagjolbpmhbifaaGreatDoor
