/- the chapter's example, over the premise -/
import Derived.Test.YtagjolbpmhbifaaGreatDoorCsO
namespace Go.Proofs.YtagjolbpmhbifaaGreatDoor
open Go Go.RowKit Go.ChangeShapes Go.WideShapes
theorem pt_zero : Cs.ptV (Cs.z32L, 0) = .agg zPt := by rfl
theorem e0_small : Tx.Small Cs.e0 := ⟨by decide, by decide, fun s hs => by
  obtain rfl := List.mem_singleton.1 (show s ∈ [(⟨Cs.z32L, 0, [], 0#64⟩ : Tx.Sp)] from hs)
  decide⟩
set_option maxRecDepth 100000 in
set_option maxHeartbeats 4000000 in
theorem alive12 {S : World → Value → Fp → Cs.Mp → Prop} (ok : CoinsOk S) (w : World) (hK : KDg w) :
    Calls Tryz.prog 5 #[] w fun e w' => e = .returned (.bool true) ∧ Below w.heap.size w w' := by
  have HKW := Lib.hid hK
  have HOK := ok
  clear hK ok
  obtain ⟨lk, hlk⟩ : ∃ x, x = Lk.lockOf [97#8] := ⟨_, rfl⟩
  have HLK := Lib.hid hlk
  clear hlk
  go_enter Tryz.func5, Tryz.ntmps5
  go_upto_region 2 with (go_at_call 8; refine (HOK.new w).mono ?_; rintro e w1 ⟨v, F, rfl, hS, hF, hb1⟩)
  have HC1 := Lib.hid (show Calls Tryz.prog 24 #[.string ⟨#[97]⟩] w1 fun e w' => e = .returned (.int .u64 (nb64 lk)) ∧ Below w1.heap.size w1 w' from HLK.out ▸ plock_any [97#8] w1 (HKW.out.below hb1) (by decide))
  have hE : Cs.putE [] (Cs.z32L, 0) ⟨10, lk⟩ = 0 := by rfl
  have HC2 := Lib.hid (show ∀ w2, Below w1.heap.size w1 w2 → Calls Tryz.prog 9 #[v, .agg zPt, .agg #[.int .i64 10, .int .u64 (nb64 lk)]] w2 fun e w' => ∃ (F' : Fp) (M' : Cs.Mp), e = .returned .nilIface ∧ S w' v F' M' ∧ (∀ q, Cs.look M' q = Cs.look (Cs.m0 lk) q) ∧ Cs.Grown w2 F F' ∧ Moved F w2 w' from fun w2 hb => by
    refine (HOK.put (HOK.below hS hb) (Cs.z32L, 0) ⟨by simp, by decide⟩ ⟨10, lk⟩ (by constructor <;> (dsimp only; omega))).mono ?_
    rintro e w' ⟨F', M', he, h1, h2, h3, h4, _⟩
    rw [hE] at he h2
    refine ⟨F', M', he, h1, fun q => ?_, h3, h4⟩
    rw [h2 q, Cs.m0_look]
    by_cases hq : q = (Cs.z32L, 0)
    · rw [if_pos ⟨rfl, hq⟩, if_pos hq]
    · rw [if_neg (fun e => hq e.2), if_neg hq]
      rfl)
  clear hE
  go_upto_region 4 with (first
    | (go_at_call 9; refine (HC2.out w2 hb2).mono ?_; rintro e w3 ⟨F2, M2, rfl, hS2, hl2, hg2, hm2⟩)
    | (go_at_call 24; refine HC1.out.mono ?_; rintro e w2 ⟨rfl, hb2⟩))
  have hb12 := hb1.trans (hb2.mono hb1.size)
  have hT3 : Below w.heap.size w w3 := hb12.trans (hm2.below hF hb12.size)
  obtain ⟨B, hB⟩ : ∃ B, B = w3.heap.size := ⟨_, rfl⟩
  obtain ⟨W4, hW4⟩ : ∃ x, x = ((w3.alloc (.cells zSp 75)).alloc (.cells #[.int .i64 7, .int .u64 0] 35)).alloc (.cells #[.string ⟨#[97]⟩] 9) := ⟨_, rfl⟩
  have hb4 : Below w3.heap.size w3 W4 := by
    rw [hW4]
    exact (((Below.refl _ w3).alloc (Nat.le_refl _) _).alloc (by simp) _).alloc (by simp; omega) _
  have h0 : Has W4 w3.heap.size 75 zSp := by rw [hW4]; exact ((Has.fresh w3 _ _).past _).past _
  have h1 : Has W4 (w3.heap.size + 1) 35 #[.int .i64 7, .int .u64 0] := by rw [hW4]; exact (Has.fresh_at _ _ _ (by simp)).past _
  have h2 : Has W4 (w3.heap.size + 1 + 1) 9 #[.string ⟨#[97]⟩] := by rw [hW4]; exact Has.fresh_at _ _ _ (by simp)
  have er : spRec.row Cs.e0.sp = zSp.toList := by rfl
  have hTX : TxAt W4 (some ⟨w3.heap.size, 0, none⟩) 1 1 (some ⟨w3.heap.size + 1, 0, none⟩) 1 1 Cs.e0 :=
    ⟨recs_fresh (R := spRec) (fun s hs => by
        obtain rfl := List.mem_singleton.1 (show s ∈ [(⟨Cs.z32L, 0, [], 0#64⟩ : Tx.Sp)] from hs)
        exact ⟨by simp, by constructor <;> decide, by show 0 ≤ maxLen; unfold maxLen; omega⟩) h0 (by show 1 ≤ maxLen; unfold maxLen; omega) (fun j u hj => by rw [er] at hj; rw [← Array.getElem?_toList]; exact hj),
      recs_fresh (R := coRec) (fun c hc => by
        obtain rfl := List.mem_singleton.1 (show c ∈ [(⟨7, 0#64⟩ : Tx.Co)] from hc)
        constructor <;> decide) h1 (by show 1 ≤ maxLen; unfold maxLen; omega) (fun j u hj => by rw [← Array.getElem?_toList]; exact hj),
      Nat.le_refl _, Nat.le_refl _, (fun e => by cases e), (fun e => by cases e)⟩
  have hKS : Recs strRec W4 (some ⟨w3.heap.size + 1 + 1, 0, none⟩) 1 [[97#8]] :=
    recs_fresh (R := strRec) (L := [[97#8]]) (fun l hl => by
        obtain rfl := List.mem_singleton.1 hl
        show 1 ≤ maxLen
        unfold maxLen
        omega) h2 (by show 1 ≤ maxLen; unfold maxLen; omega) (fun j u hj => by rw [← Array.getElem?_toList]; exact hj)
  have HW4 := Lib.hid hW4
  have HSG := Lib.hid (psign_any (some ⟨w3.heap.size, 0, none⟩) 1 1 (some ⟨w3.heap.size + 1, 0, none⟩) 1 1 Cs.e0 false rfl (some ⟨w3.heap.size + 1 + 1, 0, none⟩) 1 [[97#8]] W4 hTX e0_small hKS (fun k hk => by rw [List.mem_singleton.1 hk]; decide) ((HKW.out.below hT3).below hb4))
  clear hW4 h0 h1 h2 er hTX hKS
  go_upto_region 5 with (go_at_call 25; rw [← HW4.out]; refine HSG.out.mono ?_; rintro e w5 ⟨sa, sq, sb, sr, rfl, hO, hb5⟩)
  obtain ⟨w6, hw6⟩ : ∃ x, x = w5.alloc (.cells #[.slice sa 1 sq, .slice sb 1 sr, .bool Cs.e0.firm] 39) := ⟨_, rfl⟩
  have hb6 : Below w5.heap.size w5 w6 := by rw [hw6]; exact (Below.refl _ _).alloc (Nat.le_refl _) _
  have hX : Has w6 w5.heap.size 39 #[.slice sa 1 sq, .slice sb 1 sr, .bool Cs.e0.firm] := by rw [hw6]; exact Has.fresh _ _ _
  rw [← hw6]
  obtain ⟨g2, hg⟩ : ∃ g, g = w5.heap.size := ⟨_, rfl⟩
  rw [← hg] at hX ⊢
  have hb36 := hb4.trans ((hb5.trans (hb6.mono hb5.size)).mono hb4.size)
  have hT6 := hT3.trans (hb36.mono hT3.size)
  have hS6 := HOK.below hS2 hb36
  have hlook : Cs.look M2 = Cs.look (Cs.m0 (Lk.lockOf [97#8])) := by
    funext q
    rw [hl2 q, HLK.out]
  obtain ⟨sl, hsl⟩ : ∃ x, x = Lk.sealOf [97#8] (Tx.idOf false Cs.e0) := ⟨_, rfl⟩
  have hAT : TxAt w6 sa 1 sq sb 1 sr (Cs.e1 sl) := by
    have h := hO.at.below hb6
    rw [Cs.e1_sign, ← hsl] at h
    exact h
  have hsm : Tx.Small (Cs.e1 sl) := by
    rw [hsl, ← Cs.e1_sign]
    exact Lk.sign_small e0_small [[97#8]] rfl (fun k hk => by rw [List.mem_singleton.1 hk]; decide)
  have hfe := Cs.e1_fee hlook
  have hdo := Cs.e1_do hlook
  have hke := HOK.keys hS6
  rw [← hsl] at hfe hdo
  have HF := Lib.hid (show Calls Tryz.prog 12 #[v, txv sa 1 sq sb 1 sr Cs.e0.firm] w6 fun e w' => e = .returned (.tuple #[.int .i64 3, .nilIface]) ∧ Below w6.heap.size w6 w' from by
    have h := HOK.fee hS6 sa 1 sq sb 1 sr (Cs.e1 sl) hAT hsm (HKW.out.below hT6)
    rw [hfe.1, hfe.2] at h
    exact h)
  have HD := Lib.hid (show ∀ w7, Below w6.heap.size w6 w7 → Calls Tryz.prog 13 #[v, txv sa 1 sq sb 1 sr Cs.e0.firm] w7 fun e w' => ∃ (F' : Fp) (M' : Cs.Mp) (ua : Option Addr) (un uq : Nat) (ub : Option Addr) (um ur : Nat) (uf : Bool) (uc : Option Addr) (uk ul : Nat), e = .returned (.tuple #[.agg #[.slice ua un uq, .slice ub um ur, .bool uf, .slice uc uk ul], .nilIface]) ∧ S w' v F' M' ∧ (Cs.worth M' = 7 ∧ M'.length = 1) ∧ Moved F2 w7 w' from fun w7 hb => by
    refine (HOK.do_ (HOK.below hS6 hb) sa 1 sq sb 1 sr (Cs.e1 sl) (hAT.below hb) hsm ((HKW.out.below hT6).below hb)).mono ?_
    rintro e w' ⟨F', M', ua, un, uq, ub, um, ur, uc, uk, ul, u, sp, he, h1, _, h3, _, _, h6, _⟩
    rw [Cs.e1_id, hdo] at he h3
    have h7 := h3 rfl
    refine ⟨F', M', ua, un, uq, ub, um, ur, u.firm, uc, uk, ul, he, h1, ?_, h6⟩
    have h8 := h7.1
    rw [hsl] at h8
    exact Cs.e1_after hke.1 (HOK.keys h1).1 hlook h8)
  have HX := Lib.hid hX
  have HF2 := Lib.hid (show ∀ j, F2 j → w.heap.size ≤ j from fun j h => (hg2 j h).elim (hF j) (fun h => Nat.le_trans hb12.size h))
  clear hfe hdo hke hAT hsm hlook hX hw6 hg hsl hO hS2 hl2 hg2 hm2 hS hF hb4 hb5 hb6 hb36 HSG HW4 hS6
  have lX := (HX.out).load_agg (P := Tryz.prog) (t := 39) Tryz.underlying39 rfl (by kernel_rfl)
  go_upto_region 8 with (first
    | (go_at_call 12; refine HF.out.mono ?_; rintro e w7 ⟨rfl, hb7⟩)
    | (refine wpList_load_run rfl 39 (.tmp 2) rfl _ _ rfl lX ?_))
  clear lX
  have lX := (HX.out.under hb7 HX.out.lt).load_agg (P := Tryz.prog) (t := 39) Tryz.underlying39 rfl (by kernel_rfl)
  go_upto_region 9 with (first
    | (go_at_call 13; refine (HD.out w7 hb7).mono ?_; rintro e w8 ⟨F3, M3, ua, un, uq, ub, um, ur, uf, uc, uk, ul, rfl, hS3, hw3, hm8⟩)
    | (refine wpList_load_run rfl 39 (.tmp 2) rfl _ _ rfl lX ?_))
  obtain ⟨w9, hw9⟩ : ∃ x, x = w8.alloc (.cells #[.slice ua un uq, .slice ub um ur, .bool uf, .slice uc uk ul] 50) := ⟨_, rfl⟩
  have hb9 : Below w8.heap.size w8 w9 := by rw [hw9]; exact (Below.refl _ _).alloc (Nat.le_refl _) _
  rw [← hw9]
  have hT7 := hT6.trans (hb7.mono hT6.size)
  have hT9 := (hT7.trans (hm8.below HF2.out hT7.size)).trans (hb9.mono (by have := hT7.size; have := hm8.size; omega))
  have HWT := Lib.hid (show ∀ W', Below w9.heap.size w9 W' → Calls Tryz.prog 10 #[v] W' fun e w' => e = .returned (.tuple #[.int .i64 7, .nilIface]) ∧ Below W'.heap.size W' w' from fun W' hb => by
    have h := HOK.worth (HOK.below (HOK.below hS3 hb9) hb) (by rw [hw3.2]; decide)
    rw [show Cs.worthT M3 = (7, 0) by rw [Cs.worthT, hw3.1]; rfl] at h
    exact h)
  have HLN := Lib.hid (show ∀ W', Below w9.heap.size w9 W' → Calls Tryz.prog 23 #[v] W' fun e w' => e = .returned (.int .i64 1) ∧ Below W'.heap.size W' w' from fun W' hb => by
    have h := HOK.len (HOK.below (HOK.below hS3 hb9) hb)
    rw [hw3.2] at h
    exact h)
  clear lX hw9 hb9 hm8 hS3 hw3 hT7 hb7
  go_wp2_with (first
    | (go_at_call 23; refine (HLN.out w10 hb10).mono ?_; rintro e w11 ⟨rfl, hb11⟩)
    | (go_at_call 10; refine (HWT.out w9 (Below.refl _ _)).mono ?_; rintro e w10 ⟨rfl, hb10⟩))
  go_ret
  exact ⟨rfl, hT9.trans ((hb10.trans (hb11.mono hb10.size)).mono hT9.size)⟩
end Go.Proofs.YtagjolbpmhbifaaGreatDoor
