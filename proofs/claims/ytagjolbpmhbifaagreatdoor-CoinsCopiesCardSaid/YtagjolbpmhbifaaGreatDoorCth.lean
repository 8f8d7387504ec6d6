/- package coins: Fee · package coins: exchange (mkcti.py) · package coins: Do (mkctj.py) · package coins: what the premise asks -/
import Derived.Test.YtagjolbpmhbifaaGreatDoorCtd
import Derived.Test.YtagjolbpmhbifaaGreatDoorCtC
import Derived.Test.YtagjolbpmhbifaaGreatDoorCsO
import Derived.Test.YtagjolbpmhbifaaGreatDoorTxD
/-! package coins: Fee -/
namespace Go.Proofs.YtagjolbpmhbifaaGreatDoor
open Go Go.RowKit Go.ChangeShapes Go.WideShapes
theorem Cs.spent_good {M : Cs.Mp} (hg : ∀ x, x ∈ M → Am.Good x.2.v) (t : Tx.T) : ∀ c, c ∈ Cs.spentOf M t → Am.Good c.v := fun c hc => by
  obtain ⟨p, _, rfl⟩ := List.mem_map.1 hc
  unfold Cs.look
  cases hi : Cs.idx p M with
  | none => exact ⟨by decide, by decide⟩
  | some r => exact hg _ (List.mem_of_getElem? (Cs.idx_at hi))
theorem Cs.any_not {M : Cs.Mp} (L : List Cs.Pt) : (!(L.any fun s => !(Cs.look M s).isSome)) = true ↔ ∀ p, p ∈ L → (Cs.look M p).isSome = true := by
  rw [Bool.not_eq_true', List.any_eq_false]
  exact ⟨fun h p hp => by
    have h1 := h p hp
    cases h2 : (Cs.look M p).isSome
    · rw [h2] at h1
      exact (h1 rfl).elim
    · rfl, fun h p hp => by rw [h p hp]; exact Bool.false_ne_true⟩
theorem Cs.total_isgood : ∀ (l : List Int) (s : Int), Am.Good s → (Am.total l s).2 = 0 → Am.Good (Am.total l s).1
  | [], s, hs, _ => hs
  | z :: l, s, hs, h => by
    unfold Am.total at h ⊢
    by_cases h1 : Am.Good z
    · rw [if_pos h1] at h ⊢
      by_cases h2 : Am.Good (s + z)
      · rw [if_pos h2] at h ⊢
        exact total_isgood l (s + z) h2 h
      · rw [if_neg h2] at h
        exact absurd h (by decide)
    · rw [if_neg h1] at h
      exact absurd h (by decide)
theorem SetN.there {F : Nat → Prop} {w : World} {v : Value} {M : Cs.Mp} (h : SetN w v F M) {p : Cs.Pt} (hp : (Cs.look M p).isSome = true) : ∃ g b, v = .pointer (some ⟨g, 0, none⟩) ∧ SetB w g b M := by
  rcases h with ⟨g, b, h1, h2, _⟩ | ⟨_, _, rfl⟩
  · exact ⟨g, b, h1, h2⟩
  · cases hp
set_option maxRecDepth 100000 in
set_option maxHeartbeats 8000000 in
theorem pfee_any {w : World} {v : Value} {F : Nat → Prop} {M : Cs.Mp} (h : SetN w v F M) (hg : ∀ x, x ∈ M → Am.Good x.2.v) (a : Option Addr) (n q : Nat) (b : Option Addr) (m r : Nat) (t : Tx.T) (ht : TxAt w a n q b m r t) (hs : Tx.Small t) (hK : KDg w) :
    Calls Tryz.prog 12 #[v, txv a n q b m r t.firm] w fun e w' => e = .returned (.tuple #[.int .i64 (Cs.feeV M t), errn (Cs.feeE M t)]) ∧ Below w.heap.size w w' := by
  obtain ⟨y, rfl⟩ := h.ptr
  have hn6 : n ≤ 1000000000 := by have := hs.1; have := ht.sp.1; omega
  have hm6 : m ≤ 1000000 := by have := hs.2.1; have := ht.co.1; omega
  obtain ⟨W1, hW1⟩ : ∃ ww, ww = w.alloc (.cells #[.slice a n q, .slice b m r, .bool t.firm] 39) := ⟨_, rfl⟩
  have hB1 : Below w.heap.size w W1 := by rw [hW1]; exact (Below.refl _ _).alloc (Nat.le_refl _) _
  have hX : Has W1 w.heap.size 39 #[.slice a n q, .slice b m r, .bool t.firm] := by rw [hW1]; exact Has.fresh _ _ _
  have lX := hX.load_agg (P := Tryz.prog) (t := 39) Tryz.underlying39 rfl (by kernel_rfl)
  have HX := Lib.hid (fun (w' : World) (hb : Below W1.heap.size W1 w') => (hX.under hb hX.lt).load_agg (P := Tryz.prog) (t := 39) Tryz.underlying39 rfl (by kernel_rfl))
  obtain ⟨c1, hc1⟩ : ∃ c, c = Tx.check t := ⟨_, rfl⟩
  have HC := Lib.hid (show Calls Tryz.prog 20 #[txv a n q b m r t.firm] W1 fun e w' => e = .returned (errn c1) ∧ Below W1.heap.size W1 w' from hc1 ▸ pcheck_any a n q b m r t t.firm W1 (ht.below hB1) hm6)
  have HT := Lib.hid (ht.below hB1)
  have HS := Lib.hid (h.below hB1)
  have HG := Lib.hid hg
  have HSM := Lib.hid hs
  have HK := Lib.hid (hK.below hB1)
  have HN := Lib.hid (And.intro hn6 hm6)
  have HW := Lib.hid hW1
  clear hW1 hX ht hs hK h hg hn6 hm6
  by_cases h0 : c1 = 0
  · rw [h0, show errn 0 = Value.nilIface from rfl] at HC
    have HC0 := Lib.hid (show Tx.check t = 0 from hc1.symm.trans h0)
    have HPL := Lib.hid (show (t.sp.map Cs.pt).length = n by rw [List.length_map, HT.out.sp.1])
    clear h0 hc1
    obtain ⟨o1, ho1⟩ : ∃ o, o = !((t.sp.map Cs.pt).any fun s => !(Cs.look M s).isSome) := ⟨_, rfl⟩
    have HO := Lib.hid (show o1 = true ↔ ∀ p, p ∈ t.sp.map Cs.pt → (Cs.look M p).isSome = true by rw [ho1]; exact Cs.any_not _)
    have HA := Lib.hid (show ∀ (w' : World) (a' : Option Addr) (q' : Nat), Below W1.heap.size W1 w' → Recs ptRec w' a' n (t.sp.map Cs.pt) → Calls Tryz.prog 32 #[.pointer y, .slice a' n q'] w' fun e w2 => e = .returned (.bool o1) ∧ Below w'.heap.size w' w2 from fun w' a' q' hb hr => ho1 ▸ phasall_any (HS.out.below hb) a' n q' _ hr)
    clear ho1
    cases o1
    · have hE : Cs.feeE M t = 7 := by unfold Cs.feeE; rw [if_pos HC0.out, if_neg (fun h => by cases HO.out.2 h)]
      have hV : Cs.feeV M t = 0 := by unfold Cs.feeV; rw [hE]; rfl
      rw [hE, hV]
      clear hE hV
      go_enter Tryz.func12, Tryz.ntmps12
      go_upto_region 1 with fail
      rw [← HW.out]
      go_wp2_with (first
        | (go_at_call 32; refine (HA.out _ pa pc (hb2.trans (hb3.mono hb2.size)) hrp).mono ?_; rintro e w4 ⟨rfl, hb4⟩)
        | (go_at_call 33; refine (spby_any a n q b m r t t.firm w2 (HT.out.below hb2) HN.out.1).mono ?_; rintro e w3 ⟨v3, rfl, ho3, hb3⟩; obtain ⟨pa, pc, rfl, hpc, h03, _, hrp⟩ := ho3.shape HPL.out)
        | (go_at_call 20; refine HC.out.mono ?_; rintro e w2 ⟨rfl, hb2⟩; have lX2 := HX.out w2 hb2)
        | (refine wpList_load_run rfl 39 (.tmp 3) rfl _ _ rfl lX ?_)
        | (refine wpList_load_run rfl 39 (.tmp 3) rfl _ _ rfl lX2 ?_))
      go_ret2
      exact ⟨rfl, hB1.trans ((hb2.trans ((hb3.trans (hb4.mono hb3.size)).mono hb2.size)).mono hB1.size)⟩
    · have hall := HO.out.1 rfl
      have hpar := Cs.check_parts HC0.out
      obtain ⟨g, bm, hyy, hsb⟩ : ∃ g bm, Value.pointer y = .pointer (some ⟨g, 0, none⟩) ∧ SetB W1 g bm M := by
        obtain ⟨p, hp⟩ := List.getElem?_eq_some_iff.2 ⟨(by rw [List.length_map]; exact hpar.1 : 0 < (t.sp.map Cs.pt).length), rfl⟩ |> fun h => (⟨_, h⟩ : ∃ p, (t.sp.map Cs.pt)[0]? = some p)
        exact HS.out.there (hall p (List.mem_of_getElem? hp))
      injection hyy with hyy
      subst hyy
      obtain ⟨L, hL⟩ : ∃ L, L = Cs.spentOf M t := ⟨_, rfl⟩
      obtain ⟨c2, hc2⟩ : ∃ c, c = Lk.check t L := ⟨_, rfl⟩
      have HLL := Lib.hid (show L.length = n by rw [hL, Cs.spentOf, List.length_map]; exact HPL.out)
      have HSC := Lib.hid (show ∀ w', Below W1.heap.size W1 w' → Calls Tryz.prog 34 #[.pointer (some ⟨g, 0, none⟩), txv a n q b m r t.firm] w' fun e w2 => ∃ v, e = .returned v ∧ OwnR coRec 35 w'.heap.size w2 v L ∧ Below w'.heap.size w' w2 from fun w' hb => hL ▸ spc_any a n q b m r t t.firm w' (hsb.below hb) (HT.out.below hb) HN.out.1)
      have HLC := Lib.hid (show ∀ w' sa sc, Below W1.heap.size W1 w' → Recs coRec w' sa n L → n ≤ sc ∧ (sa = none → sc = 0) → Calls Tryz.prog 35 #[txv a n q b m r t.firm, .slice sa n sc] w' fun e w2 => e = .returned (errn c2) ∧ Below w'.heap.size w' w2 from fun w' sa sc hb hr hq => hc2 ▸ lockChk a n q b m r t sa n sc L w' (HK.out.below hb) (HT.out.below hb) HSM.out hr hq)
      have HGL := Lib.hid (show ∀ c, c ∈ L → Am.Good c.v from hL ▸ Cs.spent_good HG.out t)
      obtain ⟨T, hT⟩ : ∃ T, T = Cs.tot L := ⟨_, rfl⟩
      obtain ⟨O, hO⟩ : ∃ O, O = (Cs.outT t).1 := ⟨_, rfl⟩
      have HE := Lib.hid (show Cs.feeE M t = if c2 = 0 then if T.2 = 0 then if T.1 < O then 9 else 0 else T.2 else c2 by
        have h5 : Cs.inT M t = T := by
          rw [hT, hL]
          exact Cs.tot_perm (List.Perm.refl _) (Cs.spent_good HG.out t)
        unfold Cs.feeE
        rw [if_pos HC0.out, if_pos hall, ← hL, ← hc2, h5, ← hO])
      have HV := Lib.hid (show Cs.feeE M t = 0 → Cs.feeV M t = T.1 - O from fun h => by
        have h5 : Cs.inT M t = T := by
          rw [hT, hL]
          exact Cs.tot_perm (List.Perm.refl _) (Cs.spent_good HG.out t)
        unfold Cs.feeV
        rw [if_pos h, h5, ← hO])
      have HV0 := Lib.hid (show ¬ Cs.feeE M t = 0 → Cs.feeV M t = 0 from fun h => by unfold Cs.feeV; exact if_neg h)
      have HOG := Lib.hid (show Am.Good O by rw [hO]; exact Cs.total_isgood _ 0 (by decide) hpar.2.2)
      have HTG := Lib.hid (show T.2 = 0 → Am.Good T.1 from fun h => by
        rw [hT, Cs.tot] at h ⊢
        by_cases h6 : Am.Good (Tx.vals L).sum
        · rw [if_pos h6]; exact h6
        · rw [if_neg h6] at h; exact absurd h (by decide))
      have HWS := Lib.hid (show ∀ w' sa sc, Recs coRec w' sa n L → Calls Tryz.prog 28 #[.func (.func 66) #[] #[.pointer (some ⟨w'.heap.size, 0, none⟩)]] (w'.alloc (.cells #[.slice sa n sc] 37)) fun e w2 => e = .returned (.tuple #[.int .i64 T.1, errn T.2]) ∧ Below w'.heap.size w' w2 from fun w' sa sc hr => hT ▸ worth_slice sa n sc L w' hr HN.out.1 HGL.out)
      have HOU := Lib.hid (show ∀ w', Below W1.heap.size W1 w' → Calls Tryz.prog 37 #[txv a n q b m r t.firm] w' fun e w2 => e = .returned (.tuple #[.int .i64 O, .nilIface]) ∧ Below w'.heap.size w' w2 from fun w' hb => by
        have h7 := pout_any a n q b m r t t.firm w' (HT.out.below hb) HN.out.2
        rw [show (Am.total (Tx.vals t.co) 0).2 = 0 from hpar.2.2] at h7
        rw [hO]
        exact h7)
      have hSN : SetN W1 (.pointer (some ⟨g, 0, none⟩)) F M := HS.out
      clear hL hc2 hT hO hall hpar hsb hSN HS HG HSM HK
      obtain ⟨T1, T2⟩ := T
      dsimp only at HE HV HTG HWS
      go_enter Tryz.func12, Tryz.ntmps12
      go_upto_region 1 with fail
      rw [← HW.out]
      go_upto_region 4 with (first
        | (go_at_call 20; refine HC.out.mono ?_; rintro e w2 ⟨rfl, hb2⟩)
        | (refine wpList_load_run rfl 39 (.tmp 3) rfl _ _ rfl lX ?_))
      clear lX
      have lX := HX.out w2 hb2
      go_upto_region 6 with (first
        | (go_at_call 32; refine (HA.out _ pa pc (hb2.trans (hb3.mono hb2.size)) hrp).mono ?_; rintro e w4 ⟨rfl, hb4⟩)
        | (go_at_call 33; refine (spby_any a n q b m r t t.firm w2 (HT.out.below hb2) HN.out.1).mono ?_; rintro e w3 ⟨v3, rfl, ho3, hb3⟩; obtain ⟨pa, pc, rfl, hpc, h03, _, hrp⟩ := ho3.shape HPL.out)
        | (refine wpList_load_run rfl 39 (.tmp 3) rfl _ _ rfl lX ?_))
      have hT4 := hb2.trans ((hb3.trans (hb4.mono hb3.size)).mono hb2.size)
      clear lX ho3 hrp hpc h03
      have lX := HX.out w4 hT4
      go_upto_region 7 with (first
        | (go_at_call 34; refine (HSC.out w4 hT4).mono ?_; rintro e w5 ⟨v5, rfl, ho5, hb5⟩; obtain ⟨sa, sc, rfl, hsc, h0s, _, hrs⟩ := ho5.shape HLL.out)
        | (refine wpList_load_run rfl 39 (.tmp 3) rfl _ _ rfl lX ?_))
      have hT5 := hT4.trans (hb5.mono hT4.size)
      clear lX ho5
      have lX := HX.out w5 hT5
      have HL5 := Lib.hid (HLC.out w5 sa sc hT5 hrs ⟨hsc, h0s⟩)
      clear hb2 hb3 hb4 hb5 hT4
      by_cases h2 : c2 = 0
      · rw [h2, show errn 0 = Value.nilIface from rfl] at HL5
        go_upto_region 10 with (first
          | (go_at_call 35; refine HL5.out.mono ?_; rintro e w6 ⟨rfl, hb6⟩)
          | (refine wpList_load_run rfl 39 (.tmp 3) rfl _ _ rfl lX ?_))
        have hT6 := hT5.trans (hb6.mono hT5.size)
        have HW6 := Lib.hid (HWS.out w6 sa sc (hrs.below hb6))
        clear lX hb6
        rw [if_pos h2] at HE
        by_cases h3 : T2 = 0
        · rw [h3, show errn 0 = Value.nilIface from rfl] at HW6
          rw [if_pos h3] at HE
          go_upto_region 13 with (first
            | (go_at_call 28; refine HW6.out.mono ?_; rintro e w8 ⟨rfl, hb8⟩)
            | (go_at_call 36; refine (svalues_any sa n sc w6).mono ?_; rintro e w7 ⟨rfl, rfl⟩))
          have hT8 := hT6.trans (hb8.mono hT6.size)
          have lX := HX.out w8 hT8
          have hTg := HTG.out h3
          clear hb8 hT6 hT5
          by_cases h4 : T1 < O
          · rw [if_pos h4] at HE
            have hV := HV0.out (by rw [HE.out]; decide)
            have HF := Lib.hid (fun w => pfee_no T1 O (fun h => absurd h.2.2 (by omega)) w)
            go_wp2_with (first
              | (go_at_call 38; refine (HF.out _).mono ?_; rintro e w10 ⟨rfl, rfl⟩)
              | (go_at_call 37; refine (HOU.out w8 hT8).mono ?_; rintro e w9 ⟨rfl, hb9⟩)
              | (refine wpList_load_run rfl 39 (.tmp 3) rfl _ _ rfl lX ?_))
            go_ret2
            rw [HE.out, hV]
            exact ⟨rfl, hB1.trans ((hT8.trans (hb9.mono hT8.size)).mono hB1.size)⟩
          · rw [if_neg h4] at HE
            have hV := HV.out HE.out
            have HF := Lib.hid (fun w => pfee_ok T1 O ⟨hTg, HOG.out, by omega⟩ w)
            go_wp2_with (first
              | (go_at_call 38; refine (HF.out _).mono ?_; rintro e w10 ⟨rfl, rfl⟩)
              | (go_at_call 37; refine (HOU.out w8 hT8).mono ?_; rintro e w9 ⟨rfl, hb9⟩)
              | (refine wpList_load_run rfl 39 (.tmp 3) rfl _ _ rfl lX ?_))
            go_ret2
            rw [HE.out, hV]
            exact ⟨rfl, hB1.trans ((hT8.trans (hb9.mono hT8.size)).mono hB1.size)⟩
        · rw [show errn T2 = erro T2 from if_neg h3] at HW6
          rw [if_neg h3] at HE
          have hV := HV0.out (by rw [HE.out]; exact h3)
          go_wp2_with (first
            | (go_at_call 28; refine HW6.out.mono ?_; rintro e w8 ⟨rfl, hb8⟩)
            | (go_at_call 36; refine (svalues_any sa n sc w6).mono ?_; rintro e w7 ⟨rfl, rfl⟩))
          go_ret2
          rw [HE.out, hV, show errn T2 = erro T2 from if_neg h3]
          exact ⟨rfl, hB1.trans ((hT6.trans (hb8.mono hT6.size)).mono hB1.size)⟩
      · rw [show errn c2 = erro c2 from if_neg h2] at HL5
        rw [if_neg h2] at HE
        have hV := HV0.out (by rw [HE.out]; exact h2)
        go_wp2_with (first
          | (go_at_call 35; refine HL5.out.mono ?_; rintro e w6 ⟨rfl, hb6⟩)
          | (refine wpList_load_run rfl 39 (.tmp 3) rfl _ _ rfl lX ?_))
        go_ret2
        rw [HE.out, hV, show errn c2 = erro c2 from if_neg h2]
        exact ⟨rfl, hB1.trans ((hT5.trans (hb6.mono hT5.size)).mono hB1.size)⟩
  · have hE : Cs.feeE M t = c1 := by unfold Cs.feeE; rw [← hc1]; exact if_neg h0
    have hV : Cs.feeV M t = 0 := by unfold Cs.feeV; rw [hE]; exact if_neg h0
    have he : errn c1 = erro c1 := if_neg h0
    rw [he] at HC
    rw [hE, hV, he]
    clear hE hV he hc1
    go_enter Tryz.func12, Tryz.ntmps12
    go_upto_region 1 with fail
    rw [← HW.out]
    go_wp2_with (first
      | (go_at_call 20; refine HC.out.mono ?_; rintro e w2 ⟨rfl, hb2⟩)
      | (refine wpList_load_run rfl 39 (.tmp 3) rfl _ _ rfl lX ?_))
    go_ret2
    exact ⟨rfl, hB1.trans (hb2.mono hB1.size)⟩
end Go.Proofs.YtagjolbpmhbifaaGreatDoor

/-! package coins: exchange (mkcti.py) -/
namespace Go.Proofs.YtagjolbpmhbifaaGreatDoor
open Go Go.RowKit Go.ChangeShapes Go.WideShapes
theorem Cs.delAll_snoc (M : Cs.Mp) (l : List Cs.Pt) (p : Cs.Pt) : Cs.delAll M (l ++ [p]) = Cs.del (Cs.delAll M l) p := by unfold Cs.delAll; rw [List.foldl_append]; rfl
theorem Cs.putAll_snoc (M l : Cs.Mp) (x : Cs.Pt × Tx.Co) : Cs.putAll M (l ++ [x]) = Cs.put (Cs.putAll M l) x.1 x.2 := by unfold Cs.putAll; rw [List.foldl_append]; rfl
theorem recs_ne_map {α : Type} {R : Rec α} {w : World} {a : Option Addr} {n b : Nat} {L : List α} {M : Cs.Mp} (h : Recs R w a n L) (hm : MapAt w b M) (h0 : 0 < n) (y : Addr) (hy : a = some y) : ¬ y.block = b := fun e => by
  obtain ⟨es, clock, hb, _⟩ := hm
  obtain ⟨t, ht⟩ := h.get h0
  obtain ⟨x, hx, hc⟩ := h.2.2.2 0 t ht
  rw [hy] at hx
  injection hx with hx
  subst hx
  have h1 : 0 < (R.cells t).length := by rw [R.len t (h.okay ht)]; exact R.pos
  have h2 := hc 0 _ (List.getElem?_eq_getElem h1)
  rw [Nat.zero_mul] at h2
  have h3 : (y.add 0).block = b := e
  unfold World.cell? at h2
  rw [h3, hb] at h2
  cases h2
set_option maxRecDepth 100000 in
set_option maxHeartbeats 8000000 in
theorem pexch_any {w : World} {g b : Nat} {M : Cs.Mp} (h : SetB w g b M) (oa : Option Addr) (on oq : Nat) (OL : List Cs.Pt) (hO : Recs ptRec w oa on OL) (pa : Option Addr) (pn pq : Nat) (PL : List Cs.Pt) (hP : Recs ptRec w pa pn PL) (ca : Option Addr) (cn cq : Nat) (CL : List Tx.Co) (hC : Recs coRec w ca cn CL) (hpc : pn = cn) :
    Calls Tryz.prog 42 #[.pointer (some ⟨g, 0, none⟩), .slice oa on oq, .slice pa pn pq, .slice ca cn cq] w fun e w' => e = .returned (.tuple #[]) ∧ SetB w' g b (Cs.putAll (Cs.delAll M OL) (PL.zip CL)) ∧ Moved (fun j => j = b) w w' := by
  have honx : on ≤ 9223372036854775807 := hO.2.1
  have hpnx : pn ≤ 9223372036854775807 := hP.2.1
  subst hpc
  have HOR := Lib.hid hO
  have HPR := Lib.hid hP
  have HCR := Lib.hid hC
  have HS0 := Lib.hid (show SetB w g b (Cs.delAll M (OL.take 0)) from h)
  have HMP := Lib.hid h.map
  clear hO hP hC h
  go_enter Tryz.func42, Tryz.ntmps42
  go_wp2
  go_loopw [14] (fun iv wr => ∃ i : Nat, i ≤ on ∧ iv = .int .i64 i ∧ RowKit.Hid (SetB wr g b (Cs.delAll M (OL.take i))) ∧ Moved (fun j => j = b) w wr) (fun iv _ => on - (intOf iv).toNat)
  case atStart => exact ⟨0, Nat.zero_le _, rfl, HS0, Moved.refl _ _⟩
  case round =>
    obtain ⟨i, hi, rfl, HO, hmr⟩ := hrel
    clear HS0
    by_cases hlt : i < on
    · have hii : (i : Int) < (on : Int) := by omega
      have hi0 : (0 : Int) ≤ (i : Int) := by omega
      obtain ⟨p, hp⟩ := HOR.out.get hlt
      obtain ⟨x, hax, _⟩ := HOR.out.2.2.2 i p hp
      subst hax
      have hy := (HOR.out.moved hmr (fun h0 y hy => recs_ne_map HOR.out HMP.out h0 y hy)).load_at Tryz.underlying32 rfl size_ptr hp
      have HP := Lib.hid (show Cs.ptOk p from HOR.out.okay hp)
      have HT := Lib.hid (pts_take hp)
      clear hp
      go_upto_region 3 with (first
        | (refine wpList_store_mid rfl 32 (.tmp 9) (.tmp 17) rfl wr.heap.size 0 (ptCells p.1 p.2).toArray rfl rfl (ptRec.there wr 32 (by kernel_rfl) HP.out) (ptRec.size_eq size_ptr HP.out) (ptRec.all_one p) ?_)
        | (refine wpList_load_run rfl 32 (.tmp 16) rfl _ _ rfl hy ?_))
      obtain ⟨w5, hw5⟩ : ∃ u, u = (wr.alloc (.cells zPt 32 )).setCells wr.heap.size 0 (ptCells p.1 p.2) := ⟨_, rfl⟩
      obtain ⟨hG, hb5⟩ := Rec.new (R := ptRec) (by kernel_rfl) HP.out hw5
      rw [← hw5]
      obtain ⟨g5, hg5⟩ : ∃ g, g = wr.heap.size := ⟨_, rfl⟩
      rw [← hg5] at hG ⊢
      clear hw5 hy
      obtain ⟨ws, hws⟩ : ∃ ww, ww = w5.drew := ⟨_, rfl⟩
      have hBs : Below wr.heap.size wr ws := by rw [hws]; exact hb5.drew
      have hPs : Has ws g5 32 (ptCells p.1 p.2).toArray := by rw [hws]; exact hG.draw
      have hSs := HO.out.below hBs
      have hNE : ¬ g5 = b := fun e => by have := HO.out.map.lt; omega
      have lP := fun (wq : World) (hSw : HeldM (fun j => j = b) ws wq) => (hPs.moved hSw.out hNE).load_agg (P := Tryz.prog) (t := 32 ) Tryz.underlying32 rfl (size_pt HP.out.1)
      have lM := fun (wq : World) (hSw : HeldM (fun j => j = b) ws wq) => (show wq.cell? ⟨g, 0, none⟩ = some (.map (some b)) from (hSs.has.moved hSw.out hSs.ne).cell_at rfl)
      refine wp_region_held_drew (S := HeldM (fun j => j = b) ws) (by kernel_rfl) (by rw [hws]; exact HeldM.refl _ _) (fun hHeld => ?_)
      rw [← hws] at hHeld ⊢
      clear hws
      refine take_at (v := ?_) 0 18 rfl rfl (by kernel_rfl) (by kernel_rfl) (by kernel_rfl) (fun _ _ _ h => h) hHeld (Or.inl ⟨by rfl, ?_⟩) rfl ?_
      rotate_left
      · intro wq hSw
        go_simp
        try with_reducible rfl
      simp only [List.set_cons_zero, List.set_cons_succ]
      refine take_at (v := ?_) 1 19 rfl rfl (by kernel_rfl) (by kernel_rfl) (by kernel_rfl) (fun _ _ _ h => h) hHeld (Or.inl ⟨by rfl, ?_⟩) rfl ?_
      rotate_left
      · intro wq hSw
        go_simp
        try with_reducible rfl
      simp only [List.set_cons_zero, List.set_cons_succ]
      refine take_at (v := ?_) 2 20 rfl rfl (by kernel_rfl) (by kernel_rfl) (by kernel_rfl) (fun _ _ _ h => h) hHeld (Or.inl ⟨by rfl, ?_⟩) rfl ?_
      rotate_left
      · intro wq hSw
        go_simp
        try with_reducible rfl
      simp only [List.set_cons_zero, List.set_cons_succ]
      refine take_at (v := ?_) 3 21 rfl rfl (by kernel_rfl) (by kernel_rfl) (by kernel_rfl) (fun _ _ _ h => h) hHeld (Or.inl ⟨by rfl, ?_⟩) rfl ?_
      rotate_left
      · intro wq hSw
        have hst := lM wq hSw
        go_simp
        try with_reducible rfl
      simp only [List.set_cons_zero, List.set_cons_succ]
      refine take_at 4 22 rfl rfl (by kernel_rfl) (by kernel_rfl) (by kernel_rfl) (fun _ _ _ h => h) hHeld (yieldsIf_load_agg (by rfl) 32 (.tmp 9) rfl _ _ (by rfl) (fun wq hSw => lP wq hSw)) rfl ?_
      simp only [List.set_cons_zero, List.set_cons_succ]
      refine wpAnyH_ready (rs := [5]) (by kernel_rfl) (by simp) ?_
      refine AllReadyH.cons rfl (fun K hK => ?_) AllReadyH.nil
      refine step_delete_pt (by rfl) (.tmp 21) (.tmp 22) rfl rfl hSs.map p rfl HP.out.1 (fun w' hm' hmv => ?_)
      refine hK.out _ _ (HeldM.of hmv) (fun _ => ?_)
      clear hK K
      replace hHeld := HeldM.of hmv
      try simp only [Act.put]
      refine wpAnyH_done (by kernel_rfl) ?_ _
      have HO2 := Lib.hid (show SetB w' g b (Cs.delAll M (OL.take (i + 1))) from ⟨hSs.has.moved hmv hSs.ne, by rw [HT.out, Cs.delAll_snoc]; exact hm'⟩)
      have hm6 : Moved (fun j => j = b) w w' := (hmr.then hBs).trans hmv (fun k hk => .inl hk)
      clear hm' hmv lP lM hg5 hG hPs
      go_wp2
      go_roundw
      case rel => exact ⟨i + 1, by omega, by go_num, HO2, hm6⟩
      case measure => (simp [intOf]; try omega)
    · have hii : ¬ (i : Int) < (on : Int) := by omega
      obtain rfl : i = on := by omega
      have HD := Lib.hid (show SetB wr g b (Cs.putAll (Cs.delAll M OL) ((PL.zip CL).take 0)) by
        have h9 := HO.out
        rw [List.take_of_length_le (by rw [HOR.out.1]; exact Nat.le_refl _)] at h9
        exact h9)
      have HPR2 := Lib.hid (HPR.out.moved hmr (fun h0 y hy => recs_ne_map HPR.out HMP.out h0 y hy))
      have HCR2 := Lib.hid (HCR.out.moved hmr (fun h0 y hy => recs_ne_map HCR.out HMP.out h0 y hy))
      have HZ := Lib.hid (show (PL.zip CL).length = pn by rw [List.length_zip, HPR.out.1, HCR.out.1, Nat.min_self])
      rename World => wA
      clear HO HPR HCR HOR hlt hi hii
      go_wp2
      go_loopw [26] (fun iv wr => ∃ i : Nat, i ≤ pn ∧ iv = .int .i64 i ∧ RowKit.Hid (SetB wr g b (Cs.putAll (Cs.delAll M OL) ((PL.zip CL).take i))) ∧ Moved (fun j => j = b) wA wr) (fun iv _ => pn - (intOf iv).toNat)
      case atStart => exact ⟨0, Nat.zero_le _, rfl, HD, Moved.refl _ _⟩
      case round =>
        obtain ⟨i, hi, rfl, HO, hmr2⟩ := hrel
        by_cases hlt : i < pn
        · have hii : (i : Int) < (pn : Int) := by omega
          have hi0 : (0 : Int) ≤ (i : Int) := by omega
          obtain ⟨p, hp⟩ := HPR2.out.get hlt
          obtain ⟨x, hax, _⟩ := HPR2.out.2.2.2 i p hp
          subst hax
          obtain ⟨c, hc⟩ := HCR2.out.get hlt
          obtain ⟨xc, hcx, _⟩ := HCR2.out.2.2.2 i c hc
          subst hcx
          have hy := (HPR2.out.moved hmr2 (fun h0 y hy => recs_ne_map HPR2.out HD.out.map h0 y hy)).load_at Tryz.underlying32 rfl size_ptr hp
          have HC := Lib.hid (HCR2.out.moved hmr2 (fun h0 y hy => recs_ne_map HCR2.out HD.out.map h0 y hy))
          have HP := Lib.hid (show Cs.ptOk p from HPR2.out.okay hp)
          have HT := Lib.hid (show (PL.zip CL).take (i + 1) = (PL.zip CL).take i ++ [(p, c)] from by
            have h8 : (PL.zip CL)[i]? = some (p, c) := by rw [List.getElem?_zip_eq_some]; exact ⟨hp, hc⟩
            obtain ⟨h2, h3⟩ := List.getElem?_eq_some_iff.1 h8
            rw [List.take_succ_eq_append_getElem h2, h3])
          go_upto_region 8 with (first
            | (refine wpList_store_mid rfl 32 (.tmp 11) (.tmp 30) rfl wr.heap.size 0 (ptCells p.1 p.2).toArray rfl rfl (ptRec.there wr 32 (by kernel_rfl) HP.out) (ptRec.size_eq size_ptr HP.out) (ptRec.all_one p) ?_)
            | (refine wpList_load_run rfl 32 (.tmp 29) rfl _ _ rfl hy ?_))
          obtain ⟨w5, hw5⟩ : ∃ u, u = (wr.alloc (.cells zPt 32 )).setCells wr.heap.size 0 (ptCells p.1 p.2) := ⟨_, rfl⟩
          obtain ⟨hG, hb5⟩ := Rec.new (R := ptRec) (by kernel_rfl) HP.out hw5
          rw [← hw5]
          obtain ⟨g5, hg5⟩ : ∃ g, g = wr.heap.size := ⟨_, rfl⟩
          rw [← hg5] at hG ⊢
          clear hw5 hy hp
          obtain ⟨ws, hws⟩ : ∃ ww, ww = w5.drew := ⟨_, rfl⟩
          have hBs : Below wr.heap.size wr ws := by rw [hws]; exact hb5.drew
          have hPs : Has ws g5 32 (ptCells p.1 p.2).toArray := by rw [hws]; exact hG.draw
          have hSs := HO.out.below hBs
          have hNE : ¬ g5 = b := fun e => by have := HO.out.map.lt; omega
          have hRC := HC.out.below hBs
          have lP := fun (wq : World) (hSw : HeldM (fun j => j = b) ws wq) => (hPs.moved hSw.out hNE).load_agg (P := Tryz.prog) (t := 32 ) Tryz.underlying32 rfl (size_pt HP.out.1)
          have lM := fun (wq : World) (hSw : HeldM (fun j => j = b) ws wq) => (show wq.cell? ⟨g, 0, none⟩ = some (.map (some b)) from (hSs.has.moved hSw.out hSs.ne).cell_at rfl)
          have lC := fun (wq : World) (hSw : HeldM (fun j => j = b) ws wq) => (hRC.moved hSw.out (fun h0 y hy => recs_ne_map hRC hSs.map h0 y hy)).load_at Tryz.underlying35 rfl size_coin hc
          refine wp_region_held_drew (S := HeldM (fun j => j = b) ws) (by kernel_rfl) (by rw [hws]; exact HeldM.refl _ _) (fun hHeld => ?_)
          rw [← hws] at hHeld ⊢
          clear hws
          refine take_at (v := ?_) 0 31 rfl rfl (by kernel_rfl) (by kernel_rfl) (by kernel_rfl) (fun _ _ _ h => h) hHeld (Or.inl ⟨by rfl, ?_⟩) rfl ?_
          rotate_left
          · intro wq hSw
            go_simp
            try with_reducible rfl
          simp only [List.set_cons_zero, List.set_cons_succ]
          refine take_at (v := ?_) 1 32 rfl rfl (by kernel_rfl) (by kernel_rfl) (by kernel_rfl) (fun _ _ _ h => h) hHeld (Or.inl ⟨by rfl, ?_⟩) rfl ?_
          rotate_left
          · intro wq hSw
            go_simp
            try with_reducible rfl
          simp only [List.set_cons_zero, List.set_cons_succ]
          refine take_at (v := ?_) 2 33 rfl rfl (by kernel_rfl) (by kernel_rfl) (by kernel_rfl) (fun _ _ _ h => h) hHeld (Or.inl ⟨by rfl, ?_⟩) rfl ?_
          rotate_left
          · intro wq hSw
            go_simp
            try with_reducible rfl
          simp only [List.set_cons_zero, List.set_cons_succ]
          refine take_at (v := ?_) 3 34 rfl rfl (by kernel_rfl) (by kernel_rfl) (by kernel_rfl) (fun _ _ _ h => h) hHeld (Or.inl ⟨by rfl, ?_⟩) rfl ?_
          rotate_left
          · intro wq hSw
            have hst := lM wq hSw
            go_simp
            try with_reducible rfl
          simp only [List.set_cons_zero, List.set_cons_succ]
          refine take_at 4 35 rfl rfl (by kernel_rfl) (by kernel_rfl) (by kernel_rfl) (fun _ _ _ h => h) hHeld (yieldsIf_load_agg (by rfl) 32 (.tmp 11) rfl _ _ (by rfl) (fun wq hSw => lP wq hSw)) rfl ?_
          simp only [List.set_cons_zero, List.set_cons_succ]
          refine take_at (v := ?_) 5 36 rfl rfl (by kernel_rfl) (by kernel_rfl) (by kernel_rfl) (fun _ _ _ h => h) hHeld (Or.inl ⟨by rfl, ?_⟩) rfl ?_
          rotate_left
          · intro wq hSw
            go_simp
            try with_reducible rfl
          simp only [List.set_cons_zero, List.set_cons_succ]
          refine take_at (v := ?_) 6 37 rfl rfl (by kernel_rfl) (by kernel_rfl) (by kernel_rfl) (fun _ _ _ h => h) hHeld (Or.inl ⟨by rfl, ?_⟩) rfl ?_
          rotate_left
          · intro wq hSw
            go_simp
            try with_reducible rfl
          simp only [List.set_cons_zero, List.set_cons_succ]
          refine take_at (v := ?_) 7 38 rfl rfl (by kernel_rfl) (by kernel_rfl) (by kernel_rfl) (fun _ _ _ h => h) hHeld (Or.inl ⟨by rfl, ?_⟩) rfl ?_
          rotate_left
          · intro wq hSw
            go_simp
            try with_reducible rfl
          simp only [List.set_cons_zero, List.set_cons_succ]
          refine take_at 8 39 rfl rfl (by kernel_rfl) (by kernel_rfl) (by kernel_rfl) (fun _ _ _ h => h) hHeld (yieldsIf_load_agg (by rfl) 35 (.tmp 38) rfl _ _ (by rfl) (fun wq hSw => lC wq hSw)) rfl ?_
          simp only [List.set_cons_zero, List.set_cons_succ]
          refine wpAnyH_ready (rs := [9]) (by kernel_rfl) (by simp) ?_
          refine AllReadyH.cons rfl (fun K hK => ?_) AllReadyH.nil
          refine step_mapUpdate_pt (by rfl) (.tmp 34) (.tmp 35) (.tmp 39) rfl rfl hSs.map p rfl HP.out c rfl (HC.out.okay hc) (fun w' hm' hmv => ?_)
          refine hK.out _ _ (HeldM.of hmv) (fun _ => ?_)
          clear hK K
          replace hHeld := HeldM.of hmv
          try simp only [Act.put]
          refine wpAnyH_done (by kernel_rfl) ?_ _
          have HO2 := Lib.hid (show SetB w' g b (Cs.putAll (Cs.delAll M OL) ((PL.zip CL).take (i + 1))) from ⟨hSs.has.moved hmv hSs.ne, by rw [HT.out, Cs.putAll_snoc]; exact hm'⟩)
          have hm6 : Moved (fun j => j = b) wA w' := (hmr2.then hBs).trans hmv (fun k hk => .inl hk)
          clear hm' hmv lP lM lC hg5 hG hPs hc hRC
          go_wp2
          go_roundw
          case rel => exact ⟨i + 1, by omega, by go_num, HO2, hm6⟩
          case measure => (simp [intOf]; try omega)
        · have hii : ¬ (i : Int) < (pn : Int) := by omega
          obtain rfl : i = pn := by omega
          have HE := Lib.hid (show SetB wr g b (Cs.putAll (Cs.delAll M OL) (PL.zip CL)) by
            have h9 := HO.out
            rw [List.take_of_length_le (by rw [HZ.out]; exact Nat.le_refl _)] at h9
            exact h9)
          go_wp2
          go_end0
          exact ⟨rfl, HE.out, hmr.trans hmr2 (fun k hk => .inl hk)⟩
end Go.Proofs.YtagjolbpmhbifaaGreatDoor

/-! package coins: Do (mkctj.py) -/
namespace Go.Proofs.YtagjolbpmhbifaaGreatDoor
open Go Go.RowKit Go.ChangeShapes Go.WideShapes
theorem und_one (a b c : Option Addr) (n q m r k l : Nat) (f : Bool) : (#[.slice a n q, .slice b m r, .bool f, .slice c k l] : Array Value).all (·.oneCell') = true := by simp [Value.oneCell']
theorem list24 {vs : List Value} (h : vs.length = 24) : ∃ a b c d e f g i j k l m n o p q r s t u v w x y, vs = [a, b, c, d, e, f, g, i, j, k, l, m, n, o, p, q, r, s, t, u, v, w, x, y] := by
  match vs, h with
  | [a, b, c, d, e, f, g, i, j, k, l, m, n, o, p, q, r, s, t, u, v, w, x, y], _ => exact ⟨a, b, c, d, e, f, g, i, j, k, l, m, n, o, p, q, r, s, t, u, v, w, x, y, rfl⟩
/-- a region whose orders end alike but for what J leaves open -/
theorem wp_region_joinJ {P : Program} {id : Nat} {ops : Array Oper} {b : Bool} {Q : Exit → Act → World → Prop} {a : Act} {w : World} (J : List Value → World → Prop) (lo n : Nat)
    (h : (Code.region id ops b).wp P (Exit.then (fun s w' => J ((s.tmps.toList.drop lo).take n) w' ∧ ((s.tmps.toList.drop lo).take n).length = n ∧ s = ⟨(a.tmps.toList.take lo ++ (s.tmps.toList.drop lo).take n ++ a.tmps.toList.drop (lo + n)).toArray, a.defers⟩) (fun _ _ _ => False)) a w)
    (k : ∀ (vs : List Value) (w' : World), vs.length = n → J vs w' → Q .normal ⟨(a.tmps.toList.take lo ++ vs ++ a.tmps.toList.drop (lo + n)).toArray, a.defers⟩ w') : (Code.region id ops b).wp P Q a w :=
  Code.wp_mono (fun e s w' he => by
    cases e <;> first
      | (obtain ⟨hJ, hv, hs⟩ := he; rw [hs]; exact k _ _ hv hJ)
      | exact (he : False).elim) h
theorem has_ne_map {w : World} {g b : Nat} {T : TypeId} {cs : Array Value} {M : Cs.Mp} (h : Has w g T cs) (hm : MapAt w b M) : ¬ g = b := fun e => by
  obtain ⟨es, clock, hb, _⟩ := hm
  subst e
  have h1 : w.heap[g]? = _ := h
  rw [h1] at hb
  cases hb
theorem SetB.under_set {w : World} {g b k : Nat} {M : Cs.Mp} {vs : List Value} (h : SetB w g b M) (h1 : g ≠ k) (h2 : b ≠ k) : SetB (w.setCells k 0 vs) g b M :=
  h.moved (G := fun j => j = k) (Moved.putAll (F := fun j => j = k) (.inl rfl) vs 0 (Moved.refl _ _)) h1 h2
theorem Cs.own_zip (id : List (BitVec 8)) (co : List Tx.Co) : ((Cs.ownL id co).map (·.1)).zip co = Cs.ownL id co := by
  refine List.ext_getElem? fun i => ?_
  by_cases h : i < co.length
  · have h1 : (Cs.ownL id co)[i]? = some ((id, (i : Int)), co[i]) := Cs.ownL_at.2 ⟨co[i], List.getElem?_eq_getElem h, rfl⟩
    rw [h1, List.getElem?_zip_eq_some, List.getElem?_map, h1]
    exact ⟨rfl, List.getElem?_eq_getElem h⟩
  · have h2 : (Cs.ownL id co).length ≤ i := by unfold Cs.ownL; rw [List.length_mapIdx]; omega
    rw [List.getElem?_eq_none h2, List.getElem?_eq_none (by rw [List.length_zip, List.length_map]; omega)]
theorem Cs.any_map {α β : Type} (L : List α) (f : α → β) (p : β → Bool) : (L.map f).any p = L.any fun x => p (f x) := List.any_map
set_option maxRecDepth 100000 in
set_option maxHeartbeats 8000000 in
theorem pdo_fail {w : World} {v : Value} {F : Nat → Prop} {M : Cs.Mp} (h : SetN w v F M) (hg : ∀ x, x ∈ M → Am.Good x.2.v) (a : Option Addr) (n q : Nat) (b : Option Addr) (m r : Nat) (t : Tx.T) (ht : TxAt w a n q b m r t) (hs : Tx.Small t) (hK : KDg w) (hE : ¬ Cs.feeE M t = 0) :
    Calls Tryz.prog 13 #[v, txv a n q b m r t.firm] w fun e w' => e = .returned (.tuple #[.agg #[.slice none 0 0, .slice none 0 0, .bool false, .slice none 0 0], erro (Cs.feeE M t)]) ∧ Below w.heap.size w w' := by
  obtain ⟨y, rfl⟩ := h.ptr
  obtain ⟨W1, hW1⟩ : ∃ ww, ww = (w.alloc (.cells #[.slice a n q, .slice b m r, .bool t.firm] 39 )).alloc (.cells #[.slice none 0 0, .slice none 0 0, .bool false, .slice none 0 0] 50 ) := ⟨_, rfl⟩
  have hB1 : Below w.heap.size w W1 := by rw [hW1]; exact ((Below.refl _ _).alloc (Nat.le_refl _) _).alloc (by simp) _
  have hX : Has W1 w.heap.size 39 #[.slice a n q, .slice b m r, .bool t.firm] := by rw [hW1]; exact (Has.fresh _ _ _).past _
  have hU : Has W1 (w.heap.size + 1) 50 #[.slice none 0 0, .slice none 0 0, .bool false, .slice none 0 0] := by rw [hW1]; exact Has.fresh_at _ _ _ (by simp)
  have lX := hX.load_agg (P := Tryz.prog) (t := 39 ) Tryz.underlying39 rfl (by kernel_rfl)
  have hf := pfee_any (h.below hB1) hg a n q b m r t (ht.below hB1) hs (hK.below hB1)
  obtain ⟨fe, hfe⟩ : ∃ z, z = Cs.feeE M t := ⟨_, rfl⟩
  rw [← hfe, show errn fe = erro fe from if_neg (by rw [hfe]; exact hE)] at hf
  rw [← hfe]
  have HF := Lib.hid hf
  have HW := Lib.hid hW1
  have hbd := fun (w : World) => run_build (P := Tryz.prog) w 50 #[] #[.slice none 0 0, .slice none 0 0, .bool false, .slice none 0 0] (by kernel_rfl)
  clear hW1 hX h hg ht hs hK hE hfe hf
  go_enter Tryz.func13, Tryz.ntmps13
  go_upto_region 1 with fail
  rw [← HW.out]
  go_wp2_with (first
    | (refine wpList_store_mid rfl 50 (.tmp 4) (.tmp 18) rfl (w.heap.size + 1) 0 #[.slice none 0 0, .slice none 0 0, .bool false, .slice none 0 0] rfl rfl hth (by kernel_rfl) (und_one _ _ _ _ _ _ _ _ _ _) ?_)
    | (go_at_call 12; refine HF.out.mono ?_; rintro e w2 ⟨rfl, hb2⟩; have hU2 := hU.under hb2 hU.lt; have hth := hU2.there 0 4 (Nat.le_refl _))
    | (refine wpList_load_run rfl 39 (.tmp 3) rfl _ _ rfl lX ?_))
  have hE := hU2.whole_cs (cs2 := #[.slice none 0 0, .slice none 0 0, .bool false, .slice none 0 0]) rfl
  exact bodyPost_ret (results_cellslot rfl _ _ (w.heap.size + 1) rfl _ _ (hE.load_var Tryz.underlying50 rfl (by kernel_rfl)) rfl) rfl ⟨rfl, below_setAll (by omega) _ 0 (hB1.trans (hb2.mono hB1.size))⟩
set_option maxRecDepth 100000 in
set_option maxHeartbeats 8000000 in
theorem pdo_any {w : World} {g bm : Nat} {M : Cs.Mp} (h : SetB w g bm M) (hg : ∀ x, x ∈ M → Am.Good x.2.v) (a : Option Addr) (n q : Nat) (b : Option Addr) (m r : Nat) (t : Tx.T) (ht : TxAt w a n q b m r t) (hs : Tx.Small t) (hK : KDg w) :
    Calls Tryz.prog 13 #[.pointer (some ⟨g, 0, none⟩), txv a n q b m r t.firm] w fun e w' => ∃ (M' : Cs.Mp) (ua : Option Addr) (un uq : Nat) (ub : Option Addr) (um ur : Nat) (uc : Option Addr) (uk ul : Nat) (u : Tx.T) (sp : List Tx.Co),
      e = .returned (.tuple #[.agg #[.slice ua un uq, .slice ub um ur, .bool u.firm, .slice uc uk ul], errn (Cs.doE M (Tx.idOf false t) t)]) ∧ SetB w' g bm M' ∧ UndoAt w.heap.size w' (fun j => j = g ∨ j = bm) ua un uq ub um ur uc uk ul u sp ∧
      (Cs.doE M (Tx.idOf false t) t = 0 → M' = Cs.doM M (Tx.idOf false t) t ∧ u = t ∧ sp = Cs.spentOf M t) ∧ (¬ Cs.doE M (Tx.idOf false t) t = 0 → M' = M) ∧ Moved (fun j => j = bm) w w' := by
  by_cases hE : Cs.feeE M t = 0
  · obtain ⟨W1, hW1⟩ : ∃ ww, ww = (w.alloc (.cells #[.slice a n q, .slice b m r, .bool t.firm] 39 )).alloc (.cells #[.slice none 0 0, .slice none 0 0, .bool false, .slice none 0 0] 50 ) := ⟨_, rfl⟩
    have hB1 : Below w.heap.size w W1 := by rw [hW1]; exact ((Below.refl _ _).alloc (Nat.le_refl _) _).alloc (by simp) _
    have hX : Has W1 w.heap.size 39 #[.slice a n q, .slice b m r, .bool t.firm] := by rw [hW1]; exact (Has.fresh _ _ _).past _
    have hU : Has W1 (w.heap.size + 1) 50 #[.slice none 0 0, .slice none 0 0, .bool false, .slice none 0 0] := by rw [hW1]; exact Has.fresh_at _ _ _ (by simp)
    have lX0 := hX.load_agg (P := Tryz.prog) (t := 39 ) Tryz.underlying39 rfl (by kernel_rfl)
    have hn6 : n ≤ 1000000000 := by have := hs.1; have := ht.sp.1; omega
    have hm6 : m ≤ 1000000000 := by have := hs.2.1; have := ht.co.1; omega
    have hSN : SetN W1 (.pointer (some ⟨g, 0, none⟩)) (fun j => j = g ∨ j = bm) M := .inl ⟨g, bm, rfl, h.below hB1, rfl⟩
    have hf := pfee_any hSN hg a n q b m r t (ht.below hB1) hs (hK.below hB1)
    rw [hE, show errn 0 = Value.nilIface from rfl] at hf
    obtain ⟨fv, hfv⟩ : ∃ z, z = Cs.feeV M t := ⟨_, rfl⟩
    rw [← hfv] at hf
    obtain ⟨D, hD⟩ : ∃ D, D = Tx.idOf false t := ⟨_, rfl⟩
    obtain ⟨P, hP⟩ : ∃ P : List Cs.Pt, P = (Cs.ownL D t.co).map (·.1) := ⟨_, rfl⟩
    obtain ⟨L, hL⟩ : ∃ L, L = Cs.spentOf M t := ⟨_, rfl⟩
    obtain ⟨o, ho⟩ : ∃ o, o = P.any fun s => (Cs.look M s).isSome := ⟨_, rfl⟩
    have HDE := Lib.hid (show Cs.doE M D t = if o = true then 6 else 0 by
      unfold Cs.doE Cs.clash
      rw [if_pos hE, ho, hP, Cs.any_map])
    have HLL := Lib.hid (show L.length = n by rw [hL, Cs.spentOf, List.length_map, List.length_map, ht.sp.1])
    have HPM := Lib.hid (show P.length = m by rw [hP, List.length_map, Cs.ownL, List.length_mapIdx, ht.co.1])
    have HPL := Lib.hid (show (t.sp.map Cs.pt).length = n by rw [List.length_map, ht.sp.1])
    have HZ := Lib.hid (show Cs.putAll (Cs.delAll M (t.sp.map Cs.pt)) (P.zip t.co) = Cs.doM M D t by rw [hP, Cs.own_zip]; rfl)
    have HT := Lib.hid (ht.below hB1)
    have HS := Lib.hid (h.below hB1)
    have HX := Lib.hid hX
    have HU := Lib.hid hU
    have HB1 := Lib.hid hB1
    have HN := Lib.hid (And.intro hn6 hm6)
    have HOW := Lib.hid (show ∀ w', Below W1.heap.size W1 w' → Calls Tryz.prog 39 #[txv a n q b m r t.firm] w' fun e w2 => ∃ v, e = .returned v ∧ OwnR ptRec 32 w'.heap.size w2 v P ∧ Below w'.heap.size w' w2 from fun w' hb => by rw [hP, hD]; exact own_any a n q b m r t w' (HT.out.below hb) hs ((hK.below hB1).below hb))
    have HAN := Lib.hid (show ∀ w' oa oq, Below W1.heap.size W1 w' → Recs ptRec w' oa m P → Calls Tryz.prog 40 #[.pointer (some ⟨g, 0, none⟩), .slice oa m oq] w' fun e w2 => e = .returned (.bool o) ∧ Below w'.heap.size w' w2 from fun w' oa oq hb hr => ho ▸ phasany_any (hSN.below hb) oa m oq P hr)
    have HSC := Lib.hid (show ∀ w', Below W1.heap.size W1 w' → Calls Tryz.prog 34 #[.pointer (some ⟨g, 0, none⟩), txv a n q b m r t.firm] w' fun e w2 => ∃ v, e = .returned v ∧ OwnR coRec 35 w'.heap.size w2 v L ∧ Below w'.heap.size w' w2 from fun w' hb => hL ▸ spc_any a n q b m r t t.firm w' (HS.out.below hb) (HT.out.below hb) HN.out.1)
    have HSY := Lib.hid (show ∀ w', Below W1.heap.size W1 w' → Calls Tryz.prog 33 #[txv a n q b m r t.firm] w' fun e w2 => ∃ v, e = .returned v ∧ OwnR ptRec 32 w'.heap.size w2 v (t.sp.map Cs.pt) ∧ Below w'.heap.size w' w2 from fun w' hb => spby_any a n q b m r t t.firm w' (HT.out.below hb) HN.out.1)
    have HCY := Lib.hid (show ∀ w', Below W1.heap.size W1 w' → Calls Tryz.prog 41 #[txv a n q b m r t.firm] w' (CopyPost n m t w') from fun w' hb => pcopy_any a n q b m r t t.firm rfl w' (HT.out.below hb) HN.out.1 HN.out.2)
    have HF := Lib.hid hf
    have HW := Lib.hid hW1
    have hbd := fun (w : World) => run_build (P := Tryz.prog) w 50 #[] #[.slice none 0 0, .slice none 0 0, .bool false, .slice none 0 0] (by kernel_rfl)
    have hgb : g < w.heap.size ∧ bm < w.heap.size := ⟨h.has.lt, h.map.lt⟩
    have HGB := Lib.hid hgb
    rw [← hD, ← hL]
    clear hW1 hX hU h hg ht hs hK hE hf hfv hD hP hL ho hSN hB1 hn6 hm6 hgb
    go_enter Tryz.func13, Tryz.ntmps13
    go_upto_region 1 with fail
    rw [← HW.out]
    go_upto_region 4 with (first
      | (go_at_call 12; refine HF.out.mono ?_; rintro e w2 ⟨rfl, hb2⟩)
      | (refine wpList_load_run rfl 39 (.tmp 3) rfl _ _ rfl lX0 ?_))
    clear lX0
    have lX0 := (HX.out.under hb2 HX.out.lt).load_agg (P := Tryz.prog) (t := 39 ) Tryz.underlying39 rfl (by kernel_rfl)
    cases o
    · go_upto_region 7 with (first
        | (go_at_call 40; refine (HAN.out w3 oa oq (hb2.trans (hb3.mono hb2.size)) hro).mono ?_; rintro e w4 ⟨rfl, hb4⟩)
        | (go_at_call 39; refine (HOW.out w2 hb2).mono ?_; rintro e w3 ⟨v3, rfl, ho3, hb3⟩; obtain ⟨oa, oq, rfl, hoq, h0o, _, hro⟩ := ho3.shape HPM.out)
        | (refine wpList_load_run rfl 39 (.tmp 3) rfl _ _ rfl lX0 ?_))
      have hT4 := hb2.trans ((hb3.trans (hb4.mono hb3.size)).mono hb2.size)
      have hOW4 := (ho3.below hb4).low (B' := w.heap.size) (by have := HB1.out.size; have := hb2.size; omega)
      have HOWN := Lib.hid hOW4
      have HT4 := Lib.hid hT4
      clear lX0 hb2 hb3 ho3 hro hb4 hoq h0o hOW4
      refine wp_region_joinJ (fun vs w' => ∃ (ga : Nat) (ua : Option Addr) (uq : Nat) (ub : Option Addr) (ur : Nat) (sa : Option Addr) (sc : Nat), vs.take 1 = [.pointer (some ⟨ga, 0, none⟩)] ∧ Has w' ga 50 #[.slice ua n uq, .slice ub m ur, .bool t.firm, .slice sa n sc] ∧ TxOwn w4.heap.size w' ua n uq ub m ur t ∧ OwnR coRec 35 w4.heap.size w' (.slice sa n sc) L ∧ Below w4.heap.size w4 w' ∧ n ≤ sc ∧ (sa = none → sc = 0)) 9 24 ?_ ?_
      · obtain ⟨ws, hws⟩ : ∃ x, x = w4.drew := ⟨_, rfl⟩
        have hBws : Below w4.heap.size w4 ws := by rw [hws]; exact (Below.refl _ _).drew
        have hLws : w4.heap.size ≤ ws.heap.size := hBws.size
        have hXs := HX.out.under (hT4.trans (hBws.mono hT4.size)) HX.out.lt
        have lX := fun (wq : World) (hSw : Held ws wq) => (hXs.under hSw.below hXs.lt).load_agg (P := Tryz.prog) (t := 39 ) Tryz.underlying39 rfl (by kernel_rfl)
        have HCP := Lib.hid (fun (w' : World) (hb : Below ws.heap.size ws w') => HCY.out w' ((hT4.trans (hBws.mono hT4.size)).trans (hb.mono (hT4.trans (hBws.mono hT4.size)).size)))
        have HSP := Lib.hid (fun (w' : World) (hb : Below ws.heap.size ws w') => HSC.out w' ((hT4.trans (hBws.mono hT4.size)).trans (hb.mono (hT4.trans (hBws.mono hT4.size)).size)))
        refine wp_region_held_drew (S := Held ws) (by kernel_rfl) (by rw [hws]; exact Held.refl _) (fun hHeld => ?_)
        rw [← hws] at hHeld ⊢
        clear hws hT4
        refine take_at (v := ?_) 2 29 rfl rfl (by kernel_rfl) (by kernel_rfl) (by kernel_rfl) (fun _ _ _ h => h) hHeld (Or.inl ⟨by rfl, ?_⟩) rfl ?_
        rotate_left
        · intro wq hSw
          go_simp
          try with_reducible rfl
        simp only [List.set_cons_zero, List.set_cons_succ]
        refine take_at 0 27 rfl rfl (by kernel_rfl) (by kernel_rfl) (by kernel_rfl) (fun _ _ _ h => h) hHeld (yieldsIf_load_agg (by rfl) 39 (.tmp 3) rfl _ _ (by rfl) (fun wq hSw => lX wq hSw)) rfl ?_
        simp only [List.set_cons_zero, List.set_cons_succ]
        refine take_at 3 30 rfl rfl (by kernel_rfl) (by kernel_rfl) (by kernel_rfl) (fun _ _ _ h => h) hHeld (yieldsIf_load_agg (by rfl) 39 (.tmp 3) rfl _ _ (by rfl) (fun wq hSw => lX wq hSw)) rfl ?_
        simp only [List.set_cons_zero, List.set_cons_succ]
        have hBws0 : Below ws.heap.size ws ws := Below.refl _ _
        refine wpAnyH_ready (rs := [1, 6]) (by kernel_rfl) (by simp) ?_
        refine AllReadyH.cons rfl (fun K hK => ?_) (AllReadyH.cons rfl (fun K hK => ?_) AllReadyH.nil)
        · go_simp
          go_at_call 41
          refine (HCP.out ws hBws0).mono ?_
          rintro e wc ⟨ua, uq, ub, ur, rfl, hCwc, hbwc⟩
          have hBwc : Below ws.heap.size ws wc := hBws0.trans (hbwc.mono hBws0.size)
          replace hCwc := hCwc.low hBws0.size
          refine hK.out _ _ (Held.of hBwc) (fun _ => ?_)
          clear hK K
          try simp only [Act.put, List.setIfInBounds_toArray, List.set_cons_zero, List.set_cons_succ]
          replace hHeld := Held.of hBwc
          refine wpAnyH_ready (rs := [4, 6]) (by kernel_rfl) (by simp) ?_
          refine AllReadyH.cons rfl (fun K hK => ?_) (AllReadyH.cons rfl (fun K hK => ?_) AllReadyH.nil)
          · go_simp
            go_at_call 34
            refine (HSP.out wc hBwc).mono ?_
            rintro e wd ⟨v5, rfl, howd, hbwd⟩
            obtain ⟨sa, sc, rfl, hsc, h0s, _, _⟩ := howd.shape HLL.out
            have hBwd : Below ws.heap.size ws wd := hBwc.trans (hbwd.mono hBwc.size)
            have hCwd := hCwc.below hbwd
            replace howd := howd.low hBwc.size
            refine hK.out _ _ (Held.of hBwd) (fun _ => ?_)
            clear hK K
            try simp only [Act.put, List.setIfInBounds_toArray, List.set_cons_zero, List.set_cons_succ]
            replace hHeld := Held.of hBwd
            refine take_at (v := .agg #[.slice ua n uq, .slice ub m ur, .bool t.firm, .slice sa n sc] ) 5 32 rfl rfl (by kernel_rfl) (by kernel_rfl) (by kernel_rfl) (fun _ _ _ h => h) hHeld (Or.inl ⟨by rfl, fun wq _ => by
              have hst := run_build (P := Tryz.prog) wq 50 #[(0, .agg #[.slice ua n uq, .slice ub m ur, .bool t.firm]), (1, .slice sa n sc)] #[.slice ua n uq, .slice ub m ur, .bool t.firm, .slice sa n sc] (by kernel_rfl)
              go_simp⟩) rfl ?_
            simp only [List.set_cons_zero, List.set_cons_succ]
            refine wpAnyH_ready (rs := [6]) (by kernel_rfl) (by simp) ?_
            refine AllReadyH.cons rfl (fun K hK => ?_) AllReadyH.nil
            go_simp
            obtain ⟨we, hYwe⟩ : ∃ ww, ww = wd.alloc (.cells #[.slice none 0 0, .slice none 0 0, .bool false, .slice none 0 0] 50 ) := ⟨_, rfl⟩
            obtain ⟨ga, hga⟩ : ∃ x, x = wd.heap.size := ⟨_, rfl⟩
            rw [← hYwe, ← hga]
            have hbwe : Below wd.heap.size wd we := by rw [hYwe]; exact (Below.refl _ _).alloc (Nat.le_refl _) _
            have hAwe : Has we ga 50 #[.slice none 0 0, .slice none 0 0, .bool false, .slice none 0 0] := by rw [hYwe, hga]; exact Has.fresh _ _ _
            have hBwe : Below ws.heap.size ws we := hBwd.trans (hbwe.mono hBwd.size)
            have hLA : ws.heap.size ≤ ga := by rw [hga]; exact hBwd.size
            have hCwe := hCwd.below hbwe
            have howe := howd.below hbwe
            clear hYwe hga
            refine hK.out _ _ (Held.of hBwe) (fun _ => ?_)
            clear hK K
            try simp only [Act.put, List.setIfInBounds_toArray, List.set_cons_zero, List.set_cons_succ]
            replace hHeld := Held.of hBwe
            refine wpAnyH_ready (rs := [7]) (by kernel_rfl) (by simp) ?_
            refine AllReadyH.cons rfl (fun K hK => ?_) AllReadyH.nil
            refine step_store_row (by rfl) 50 (.tmp 9) (.tmp 32) rfl ga 0 #[.slice ua n uq, .slice ub m ur, .bool t.firm, .slice sa n sc] (by first | rfl | simp [Act.eval]) (by first | rfl | simp [Act.eval]) (hAwe.there 0 4 (Nat.le_refl _)) (by kernel_rfl) (und_one _ _ _ _ _ _ _ _ _ _) rfl ?_
            obtain ⟨wt, hwt⟩ : ∃ ww, ww = we.setCells ga 0 (#[.slice ua n uq, .slice ub m ur, .bool t.firm, .slice sa n sc] : Array Value).toList := ⟨_, rfl⟩
            rw [← hwt]
            have hAt : Has wt ga 50 #[.slice ua n uq, .slice ub m ur, .bool t.firm, .slice sa n sc] := by rw [hwt]; exact hAwe.whole_cs rfl
            have hmt : Moved (fun j => j = ga) we wt := by rw [hwt]; exact Moved.putAll (F := fun j => j = ga) (.inl rfl) _ 0 (Moved.refl _ _)
            have hBt : Below ws.heap.size ws wt := hBwe.trans (hmt.below (fun k hk => by omega) hBwe.size)
            have hCt : TxOwn ws.heap.size wt ua n uq ub m ur t := ⟨hCwe.sp.moved hmt (fun k hk e => by
              subst e
              obtain ⟨cs1, h1⟩ := ownr_block hCwe.sp hk
              exact Has.ne_type h1 hAwe (by decide) rfl), hCwe.co.moved hmt (fun k hk e => by
              subst e
              obtain ⟨cs1, h1⟩ := ownr_block hCwe.co hk
              exact Has.ne_type h1 hAwe (by decide) rfl)⟩
            have hot : OwnR coRec 35 ws.heap.size wt (.slice sa n sc) L := howe.moved hmt (fun k hk e => by
              subst e
              obtain ⟨cs1, h1⟩ := ownr_block howe hk
              exact Has.ne_type h1 hAwe (by decide) rfl)
            clear hwt
            refine hK.out _ _ (Held.of hBt) (fun _ => ?_)
            clear hK K
            try simp only [Act.put]
            refine wpAnyH_done (by kernel_rfl) ?_ _
            exact ⟨⟨ga, ua, uq, ub, ur, sa, sc, rfl, hAt, hCt.low hLws, hot.low hLws, hBws.trans (hBt.mono hLws), hsc, h0s⟩, rfl, rfl⟩
          · go_simp
            obtain ⟨wd, hYwd⟩ : ∃ ww, ww = wc.alloc (.cells #[.slice none 0 0, .slice none 0 0, .bool false, .slice none 0 0] 50 ) := ⟨_, rfl⟩
            obtain ⟨ga, hga⟩ : ∃ x, x = wc.heap.size := ⟨_, rfl⟩
            rw [← hYwd, ← hga]
            have hbwd : Below wc.heap.size wc wd := by rw [hYwd]; exact (Below.refl _ _).alloc (Nat.le_refl _) _
            have hAwd : Has wd ga 50 #[.slice none 0 0, .slice none 0 0, .bool false, .slice none 0 0] := by rw [hYwd, hga]; exact Has.fresh _ _ _
            have hBwd : Below ws.heap.size ws wd := hBwc.trans (hbwd.mono hBwc.size)
            have hLA : ws.heap.size ≤ ga := by rw [hga]; exact hBwc.size
            have hCwd := hCwc.below hbwd
            clear hYwd hga
            refine hK.out _ _ (Held.of hBwd) (fun _ => ?_)
            clear hK K
            try simp only [Act.put, List.setIfInBounds_toArray, List.set_cons_zero, List.set_cons_succ]
            replace hHeld := Held.of hBwd
            refine wpAnyH_ready (rs := [4]) (by kernel_rfl) (by simp) ?_
            refine AllReadyH.cons rfl (fun K hK => ?_) AllReadyH.nil
            go_simp
            go_at_call 34
            refine (HSP.out wd hBwd).mono ?_
            rintro e we ⟨v5, rfl, howe, hbwe⟩
            obtain ⟨sa, sc, rfl, hsc, h0s, _, _⟩ := howe.shape HLL.out
            have hBwe : Below ws.heap.size ws we := hBwd.trans (hbwe.mono hBwd.size)
            have hCwe := hCwd.below hbwe
            have hAwe := hAwd.under hbwe hAwd.lt
            replace howe := howe.low hBwd.size
            refine hK.out _ _ (Held.of hBwe) (fun _ => ?_)
            clear hK K
            try simp only [Act.put, List.setIfInBounds_toArray, List.set_cons_zero, List.set_cons_succ]
            replace hHeld := Held.of hBwe
            refine take_at (v := .agg #[.slice ua n uq, .slice ub m ur, .bool t.firm, .slice sa n sc] ) 5 32 rfl rfl (by kernel_rfl) (by kernel_rfl) (by kernel_rfl) (fun _ _ _ h => h) hHeld (Or.inl ⟨by rfl, fun wq _ => by
              have hst := run_build (P := Tryz.prog) wq 50 #[(0, .agg #[.slice ua n uq, .slice ub m ur, .bool t.firm]), (1, .slice sa n sc)] #[.slice ua n uq, .slice ub m ur, .bool t.firm, .slice sa n sc] (by kernel_rfl)
              go_simp⟩) rfl ?_
            simp only [List.set_cons_zero, List.set_cons_succ]
            refine wpAnyH_ready (rs := [7]) (by kernel_rfl) (by simp) ?_
            refine AllReadyH.cons rfl (fun K hK => ?_) AllReadyH.nil
            refine step_store_row (by rfl) 50 (.tmp 9) (.tmp 32) rfl ga 0 #[.slice ua n uq, .slice ub m ur, .bool t.firm, .slice sa n sc] (by first | rfl | simp [Act.eval]) (by first | rfl | simp [Act.eval]) (hAwe.there 0 4 (Nat.le_refl _)) (by kernel_rfl) (und_one _ _ _ _ _ _ _ _ _ _) rfl ?_
            obtain ⟨wt, hwt⟩ : ∃ ww, ww = we.setCells ga 0 (#[.slice ua n uq, .slice ub m ur, .bool t.firm, .slice sa n sc] : Array Value).toList := ⟨_, rfl⟩
            rw [← hwt]
            have hAt : Has wt ga 50 #[.slice ua n uq, .slice ub m ur, .bool t.firm, .slice sa n sc] := by rw [hwt]; exact hAwe.whole_cs rfl
            have hmt : Moved (fun j => j = ga) we wt := by rw [hwt]; exact Moved.putAll (F := fun j => j = ga) (.inl rfl) _ 0 (Moved.refl _ _)
            have hBt : Below ws.heap.size ws wt := hBwe.trans (hmt.below (fun k hk => by omega) hBwe.size)
            have hCt : TxOwn ws.heap.size wt ua n uq ub m ur t := ⟨hCwe.sp.moved hmt (fun k hk e => by
              subst e
              obtain ⟨cs1, h1⟩ := ownr_block hCwe.sp hk
              exact Has.ne_type h1 hAwe (by decide) rfl), hCwe.co.moved hmt (fun k hk e => by
              subst e
              obtain ⟨cs1, h1⟩ := ownr_block hCwe.co hk
              exact Has.ne_type h1 hAwe (by decide) rfl)⟩
            have hot : OwnR coRec 35 ws.heap.size wt (.slice sa n sc) L := howe.moved hmt (fun k hk e => by
              subst e
              obtain ⟨cs1, h1⟩ := ownr_block howe hk
              exact Has.ne_type h1 hAwe (by decide) rfl)
            clear hwt
            refine hK.out _ _ (Held.of hBt) (fun _ => ?_)
            clear hK K
            try simp only [Act.put]
            refine wpAnyH_done (by kernel_rfl) ?_ _
            exact ⟨⟨ga, ua, uq, ub, ur, sa, sc, rfl, hAt, hCt.low hLws, hot.low hLws, hBws.trans (hBt.mono hLws), hsc, h0s⟩, rfl, rfl⟩
        · go_simp
          obtain ⟨wc, hYwc⟩ : ∃ ww, ww = ws.alloc (.cells #[.slice none 0 0, .slice none 0 0, .bool false, .slice none 0 0] 50 ) := ⟨_, rfl⟩
          obtain ⟨ga, hga⟩ : ∃ x, x = ws.heap.size := ⟨_, rfl⟩
          rw [← hYwc, ← hga]
          have hbwc : Below ws.heap.size ws wc := by rw [hYwc]; exact (Below.refl _ _).alloc (Nat.le_refl _) _
          have hAwc : Has wc ga 50 #[.slice none 0 0, .slice none 0 0, .bool false, .slice none 0 0] := by rw [hYwc, hga]; exact Has.fresh _ _ _
          have hBwc : Below ws.heap.size ws wc := hBws0.trans (hbwc.mono hBws0.size)
          have hLA : ws.heap.size ≤ ga := by rw [hga]; exact hBws0.size
          clear hYwc hga
          refine hK.out _ _ (Held.of hBwc) (fun _ => ?_)
          clear hK K
          try simp only [Act.put, List.setIfInBounds_toArray, List.set_cons_zero, List.set_cons_succ]
          replace hHeld := Held.of hBwc
          refine wpAnyH_ready (rs := [1]) (by kernel_rfl) (by simp) ?_
          refine AllReadyH.cons rfl (fun K hK => ?_) AllReadyH.nil
          go_simp
          go_at_call 41
          refine (HCP.out wc hBwc).mono ?_
          rintro e wd ⟨ua, uq, ub, ur, rfl, hCwd, hbwd⟩
          have hBwd : Below ws.heap.size ws wd := hBwc.trans (hbwd.mono hBwc.size)
          have hAwd := hAwc.under hbwd hAwc.lt
          replace hCwd := hCwd.low hBwc.size
          refine hK.out _ _ (Held.of hBwd) (fun _ => ?_)
          clear hK K
          try simp only [Act.put, List.setIfInBounds_toArray, List.set_cons_zero, List.set_cons_succ]
          replace hHeld := Held.of hBwd
          refine wpAnyH_ready (rs := [4]) (by kernel_rfl) (by simp) ?_
          refine AllReadyH.cons rfl (fun K hK => ?_) AllReadyH.nil
          go_simp
          go_at_call 34
          refine (HSP.out wd hBwd).mono ?_
          rintro e we ⟨v5, rfl, howe, hbwe⟩
          obtain ⟨sa, sc, rfl, hsc, h0s, _, _⟩ := howe.shape HLL.out
          have hBwe : Below ws.heap.size ws we := hBwd.trans (hbwe.mono hBwd.size)
          have hCwe := hCwd.below hbwe
          have hAwe := hAwd.under hbwe hAwd.lt
          replace howe := howe.low hBwd.size
          refine hK.out _ _ (Held.of hBwe) (fun _ => ?_)
          clear hK K
          try simp only [Act.put, List.setIfInBounds_toArray, List.set_cons_zero, List.set_cons_succ]
          replace hHeld := Held.of hBwe
          refine take_at (v := .agg #[.slice ua n uq, .slice ub m ur, .bool t.firm, .slice sa n sc] ) 5 32 rfl rfl (by kernel_rfl) (by kernel_rfl) (by kernel_rfl) (fun _ _ _ h => h) hHeld (Or.inl ⟨by rfl, fun wq _ => by
            have hst := run_build (P := Tryz.prog) wq 50 #[(0, .agg #[.slice ua n uq, .slice ub m ur, .bool t.firm]), (1, .slice sa n sc)] #[.slice ua n uq, .slice ub m ur, .bool t.firm, .slice sa n sc] (by kernel_rfl)
            go_simp⟩) rfl ?_
          simp only [List.set_cons_zero, List.set_cons_succ]
          refine wpAnyH_ready (rs := [7]) (by kernel_rfl) (by simp) ?_
          refine AllReadyH.cons rfl (fun K hK => ?_) AllReadyH.nil
          refine step_store_row (by rfl) 50 (.tmp 9) (.tmp 32) rfl ga 0 #[.slice ua n uq, .slice ub m ur, .bool t.firm, .slice sa n sc] (by first | rfl | simp [Act.eval]) (by first | rfl | simp [Act.eval]) (hAwe.there 0 4 (Nat.le_refl _)) (by kernel_rfl) (und_one _ _ _ _ _ _ _ _ _ _) rfl ?_
          obtain ⟨wt, hwt⟩ : ∃ ww, ww = we.setCells ga 0 (#[.slice ua n uq, .slice ub m ur, .bool t.firm, .slice sa n sc] : Array Value).toList := ⟨_, rfl⟩
          rw [← hwt]
          have hAt : Has wt ga 50 #[.slice ua n uq, .slice ub m ur, .bool t.firm, .slice sa n sc] := by rw [hwt]; exact hAwe.whole_cs rfl
          have hmt : Moved (fun j => j = ga) we wt := by rw [hwt]; exact Moved.putAll (F := fun j => j = ga) (.inl rfl) _ 0 (Moved.refl _ _)
          have hBt : Below ws.heap.size ws wt := hBwe.trans (hmt.below (fun k hk => by omega) hBwe.size)
          have hCt : TxOwn ws.heap.size wt ua n uq ub m ur t := ⟨hCwe.sp.moved hmt (fun k hk e => by
            subst e
            obtain ⟨cs1, h1⟩ := ownr_block hCwe.sp hk
            exact Has.ne_type h1 hAwe (by decide) rfl), hCwe.co.moved hmt (fun k hk e => by
            subst e
            obtain ⟨cs1, h1⟩ := ownr_block hCwe.co hk
            exact Has.ne_type h1 hAwe (by decide) rfl)⟩
          have hot : OwnR coRec 35 ws.heap.size wt (.slice sa n sc) L := howe.moved hmt (fun k hk e => by
            subst e
            obtain ⟨cs1, h1⟩ := ownr_block howe hk
            exact Has.ne_type h1 hAwe (by decide) rfl)
          clear hwt
          refine hK.out _ _ (Held.of hBt) (fun _ => ?_)
          clear hK K
          try simp only [Act.put]
          refine wpAnyH_done (by kernel_rfl) ?_ _
          exact ⟨⟨ga, ua, uq, ub, ur, sa, sc, rfl, hAt, hCt.low hLws, hot.low hLws, hBws.trans (hBt.mono hLws), hsc, h0s⟩, rfl, rfl⟩
      · intro vs w6 hvs hJ
        obtain ⟨ga, ua, uq, ub, ur, sa, sc, htk, hA6, hC6, hS6, hb6, hsc, h0s⟩ := hJ
        obtain ⟨x0, x1, x2, x3, x4, x5, x6, x7, x8, x9, x10, x11, x12, x13, x14, x15, x16, x17, x18, x19, x20, x21, x22, x23, rfl⟩ := list24 hvs
        obtain rfl : x0 = .pointer (some ⟨ga, 0, none⟩) := by simpa using htk
        clear htk hvs
        simp only [List.take_succ_cons, List.take_zero, List.drop_succ_cons, List.drop_zero, List.cons_append, List.nil_append]
        go_upto_region 8 with fail
        obtain ⟨wy, hwy⟩ : ∃ x, x = w6.drew := ⟨_, rfl⟩
        have hb6y : Below w6.heap.size w6 wy := by rw [hwy]; exact (Below.refl _ _).drew
        have hT6 := HT4.out.trans (hb6.mono HT4.out.size)
        have hTy := hT6.trans (hb6y.mono hT6.size)
        have hXy := HX.out.under hTy HX.out.lt
        have hSy := HS.out.below hTy
        have hNX : ¬ w.heap.size = bm := fun e => by have := HGB.out.2; omega
        have hAy := hA6.under hb6y hA6.lt
        have hNA : ¬ ga = bm := has_ne_map hAy hSy.map
        have hOWy := (HOWN.out.below hb6).below hb6y
        have hCy := hC6.below hb6y
        have hSpy := hS6.below hb6y
        have lX9 := fun (wq : World) (hSw : HeldM (fun j => j = bm) wy wq) => (hXy.moved hSw.out hNX).load_agg (P := Tryz.prog) (t := 39 ) Tryz.underlying39 rfl (by kernel_rfl)
        have c1 := fun (wq : World) (hSw : HeldM (fun j => j = bm) wy wq) => (hXy.moved hSw.out hNX).cell_at (i := 1) (v := .slice b m r) rfl
        have HSB := Lib.hid (HSY.out wy hTy)
        refine wp_region_held_drew (S := HeldM (fun j => j = bm) wy) (by kernel_rfl) (by rw [hwy]; exact HeldM.refl _ _) (fun hHeld => ?_)
        rw [← hwy] at hHeld ⊢
        clear hwy
        refine take_at (v := ?_) 0 33 rfl rfl (by kernel_rfl) (by kernel_rfl) (by kernel_rfl) (fun _ _ _ h => h) hHeld (Or.inl ⟨by rfl, ?_⟩) rfl ?_
        rotate_left
        · intro wq hSw
          go_simp
          try with_reducible rfl
        simp only [List.set_cons_zero, List.set_cons_succ]
        refine take_at 1 34 rfl rfl (by kernel_rfl) (by kernel_rfl) (by kernel_rfl) (fun _ _ _ h => h) hHeld (yieldsIf_load_agg (by rfl) 39 (.tmp 3) rfl _ _ (by rfl) (fun wq hSw => lX9 wq hSw)) rfl ?_
        simp only [List.set_cons_zero, List.set_cons_succ]
        refine take_at (v := ?_) 3 36 rfl rfl (by kernel_rfl) (by kernel_rfl) (by kernel_rfl) (fun _ _ _ h => h) hHeld (Or.inl ⟨by rfl, ?_⟩) rfl ?_
        rotate_left
        · intro wq hSw
          go_simp
          try with_reducible rfl
        simp only [List.set_cons_zero, List.set_cons_succ]
        refine take_at (v := ?_) 4 37 rfl rfl (by kernel_rfl) (by kernel_rfl) (by kernel_rfl) (fun _ _ _ h => h) hHeld (Or.inl ⟨by rfl, ?_⟩) rfl ?_
        rotate_left
        · intro wq hSw
          go_simp
          try with_reducible rfl
        simp only [List.set_cons_zero, List.set_cons_succ]
        refine take_at (v := ?_) 5 38 rfl rfl (by kernel_rfl) (by kernel_rfl) (by kernel_rfl) (fun _ _ _ h => h) hHeld (Or.inl ⟨by rfl, ?_⟩) rfl ?_
        rotate_left
        · intro wq hSw
          have hst := c1 wq hSw
          go_simp
          try with_reducible rfl
        simp only [List.set_cons_zero, List.set_cons_succ]
        refine wpAnyH_ready (rs := [2]) (by kernel_rfl) (by simp) ?_
        refine AllReadyH.cons rfl (fun K hK => ?_) AllReadyH.nil
        go_simp
        go_at_call 33
        refine HSB.out.mono ?_
        rintro e wz ⟨v9, rfl, ho9, hb9⟩
        obtain ⟨pa, pc, rfl, hpc, h0p, _, hrp⟩ := ho9.shape HPL.out
        refine hK.out _ _ (HeldM.of (Moved.of_below hb9)) (fun _ => ?_)
        clear hK K
        try simp only [Act.put, List.setIfInBounds_toArray, List.set_cons_zero, List.set_cons_succ]
        replace hHeld := HeldM.of (Moved.of_below (F := (fun j => j = bm) ) hb9)
        refine wpAnyH_ready (rs := [6]) (by kernel_rfl) (by simp) ?_
        refine AllReadyH.cons rfl (fun K hK => ?_) AllReadyH.nil
        go_simp
        go_at_call 42
        refine (pexch_any (hSy.below hb9) pa n pc _ hrp oa m oq _ (hOWy.recs.1.below hb9) b m r t.co ((HT.out.below hTy).co.below hb9) rfl).mono ?_
        rintro e wx ⟨rfl, hSx, hmx⟩
        have hmyx : Moved (fun j => j = bm) wy wx := (Moved.of_below hb9).trans hmx (fun k hk => .inl hk)
        refine hK.out _ _ (HeldM.of hmyx) (fun _ => ?_)
        clear hK K
        try simp only [Act.put, List.setIfInBounds_toArray, List.set_cons_zero, List.set_cons_succ]
        replace hHeld := HeldM.of hmyx
        refine wpAnyH_done (by kernel_rfl) ?_ _
        have hSx2 := HZ.out ▸ hSx
        have hAx := hAy.moved hmyx hNA
        have lA := hAx.load_agg (P := Tryz.prog) (t := 50 ) Tryz.underlying50 rfl (by kernel_rfl)
        have hUx := (HU.out.under hTy HU.out.lt).moved hmyx (fun e => by have := HGB.out.2; omega)
        go_wp2_with (first
          | (refine wpList_load_run rfl 50 (.tmp 9) rfl _ _ rfl lA ?_)
          | (refine wpList_store_mid rfl 50 (.tmp 4) (.tmp 40) rfl (w.heap.size + 1) 0 #[.slice ua n uq, .slice ub m ur, .bool t.firm, .slice sa n sc] rfl rfl (hUx.there 0 4 (Nat.le_refl _)) (by kernel_rfl) (und_one _ _ _ _ _ _ _ _ _ _) ?_))
        have hE0 : Cs.doE M D t = 0 := HDE.out
        have hUE := hUx.whole_cs (cs2 := #[.slice ua n uq, .slice ub m ur, .bool t.firm, .slice sa n sc]) rfl
        have hW4 : w.heap.size + 1 < w4.heap.size := by have := HT4.out.size; have := HU.out.lt; omega
        have hmw : Moved (fun j => j = bm) w (wx.setCells (w.heap.size + 1) 0 (#[.slice ua n uq, .slice ub m ur, .bool t.firm, .slice sa n sc] : Array Value).toList) :=
          ((Moved.of_below (F := fun j => j = bm) (HB1.out.trans (hTy.mono HB1.out.size))).trans hmyx (fun k hk => .inl hk)).trans (Moved.putAll (F := fun j => j = w.heap.size + 1) (.inl rfl) _ 0 (Moved.refl _ _)) (fun k hk => .inr (by omega))
        have hmv : ∀ {α : Type} {R : Rec α} {T : TypeId} {v : Value} {Z : List α}, OwnR R T w4.heap.size wy v Z → OwnR R T w.heap.size (wx.setCells (w.heap.size + 1) 0 (#[.slice ua n uq, .slice ub m ur, .bool t.firm, .slice sa n sc] : Array Value).toList) v Z := fun ho =>
          ((ho.moved hmyx (fun k hk e => by have := ho.lt k hk; have := HGB.out.2; omega)).moved (Moved.putAll (F := fun j => j = w.heap.size + 1) (.inl rfl) _ 0 (Moved.refl _ _)) (fun k hk e => by have := ho.lt k hk; omega)).low (by omega)
        have hno : ∀ {α : Type} {R : Rec α} {T : TypeId} {v : Value} {Z : List α}, OwnR R T w4.heap.size wy v Z → ∀ j, v.ownBlock = some j → ¬ (j = g ∨ j = bm) := fun ho j hj e => by
          have := ho.lt j hj
          have := HGB.out
          omega
        refine bodyPost_ret (results_cellslot rfl _ _ (w.heap.size + 1) rfl _ _ (hUE.load_var Tryz.underlying50 rfl (by kernel_rfl)) rfl) rfl ⟨Cs.doM M D t, ua, n, uq, ub, m, ur, sa, n, sc, t, L, by rw [hE0]; rfl, ?_, ⟨⟨hmv hCy.sp, hmv hCy.co⟩, hmv hSpy, hno hCy.sp, hno hCy.co, hno hSpy⟩, fun _ => ⟨rfl, rfl, rfl⟩, fun h => absurd hE0 h, hmw⟩
        exact hSx2.under_set (by have := HGB.out; omega) (by have := HGB.out; omega)
    · have hE6 : Cs.doE M D t = 6 := HDE.out
      go_wp2_with (first
        | (refine wpList_store_mid rfl 50 (.tmp 4) (.tmp 25) rfl (w.heap.size + 1) 0 #[.slice none 0 0, .slice none 0 0, .bool false, .slice none 0 0] rfl rfl hth (by kernel_rfl) (und_one _ _ _ _ _ _ _ _ _ _) ?_)
        | (go_at_call 40; refine (HAN.out w3 oa oq (hb2.trans (hb3.mono hb2.size)) hro).mono ?_; rintro e w4 ⟨rfl, hb4⟩; have hU4 := HU.out.under (hb2.trans ((hb3.trans (hb4.mono hb3.size)).mono hb2.size)) HU.out.lt; have hth := hU4.there 0 4 (Nat.le_refl _))
        | (go_at_call 39; refine (HOW.out w2 hb2).mono ?_; rintro e w3 ⟨v3, rfl, ho3, hb3⟩; obtain ⟨oa, oq, rfl, hoq, h0o, _, hro⟩ := ho3.shape HPM.out)
        | (refine wpList_load_run rfl 39 (.tmp 3) rfl _ _ rfl lX0 ?_))
      have hUE := hU4.whole_cs (cs2 := #[.slice none 0 0, .slice none 0 0, .bool false, .slice none 0 0]) rfl
      have hT4 := hb2.trans ((hb3.trans (hb4.mono hb3.size)).mono hb2.size)
      have hTw := HB1.out.trans (hT4.mono HB1.out.size)
      have hBe : Below w.heap.size w _ := below_setAll (g := w.heap.size + 1) (by omega) (#[.slice none 0 0, .slice none 0 0, .bool false, .slice none 0 0] : Array Value).toList 0 hTw
      refine bodyPost_ret (results_cellslot rfl _ _ (w.heap.size + 1) rfl _ _ (hUE.load_var Tryz.underlying50 rfl (by kernel_rfl)) rfl) rfl ⟨M, none, 0, 0, none, 0, 0, none, 0, 0, ⟨[], [], false⟩, [], by rw [hE6]; rfl, ?_, ⟨⟨OwnR.nil _ _ _ _, OwnR.nil _ _ _ _⟩, OwnR.nil _ _ _ _, fun j hj => by (cases hj), fun j hj => by (cases hj), fun j hj => by (cases hj)⟩, fun h => by rw [hE6] at h; exact absurd h (by decide), fun _ => rfl, Moved.of_below hBe⟩
      exact (SetB.mk (HS.out.has) HS.out.map : SetB W1 g bm M).below hT4 |>.under_set (by have := HGB.out; omega) (by have := HGB.out; omega)
  · have hE2 : Cs.doE M (Tx.idOf false t) t = Cs.feeE M t := by unfold Cs.doE; exact if_neg hE
    refine (pdo_fail (F := fun j => j = g ∨ j = bm) (.inl ⟨g, bm, rfl, h, rfl⟩) hg a n q b m r t ht hs hK hE).mono ?_
    rintro e w' ⟨rfl, hb⟩
    exact ⟨M, none, 0, 0, none, 0, 0, none, 0, 0, ⟨[], [], false⟩, [], by rw [hE2, show errn (Cs.feeE M t) = erro (Cs.feeE M t) from if_neg hE], h.below hb, ⟨⟨OwnR.nil _ _ _ _, OwnR.nil _ _ _ _⟩, OwnR.nil _ _ _ _, fun j hj => by (cases hj), fun j hj => by (cases hj), fun j hj => by (cases hj)⟩, fun h => by rw [hE2] at h; exact absurd h hE, fun _ => rfl, Moved.of_below hb⟩
end Go.Proofs.YtagjolbpmhbifaaGreatDoor

/-! package coins: what the premise asks -/
namespace Go.Proofs.YtagjolbpmhbifaaGreatDoor
open Go Go.RowKit Go.ChangeShapes Go.WideShapes
namespace Cs
theorem put_len (M : Mp) (p : Pt) (c : Tx.Co) : (put M p c).length ≤ M.length + 1 := by
  unfold put
  cases idx p M with
  | none => simp
  | some r => simp
theorem del_len (M : Mp) (p : Pt) : (del M p).length ≤ M.length := by
  unfold del
  cases idx p M with
  | none => exact Nat.le_refl _
  | some r => simp only [List.length_eraseIdx]; split <;> omega
theorem del_sub {M : Mp} {p : Pt} {x : Pt × Tx.Co} (h : x ∈ del M p) : x ∈ M := by
  unfold del at h
  cases hi : idx p M with
  | none => rw [hi] at h; exact h
  | some r => rw [hi] at h; exact List.mem_of_mem_eraseIdx h
theorem delAll_len : ∀ (l : List Pt) (M : Mp), (delAll M l).length ≤ M.length
  | [], _ => Nat.le_refl _
  | p :: l, M => Nat.le_trans (delAll_len l (del M p)) (del_len M p)
theorem delAll_sub : ∀ (l : List Pt) {M : Mp} {x : Pt × Tx.Co}, x ∈ delAll M l → x ∈ M
  | [], _, _, h => h
  | _ :: l, _, _, h => del_sub (delAll_sub l h)
theorem putAll_len : ∀ (l : Mp) (M : Mp), (putAll M l).length ≤ M.length + l.length
  | [], _ => Nat.le_refl _
  | x :: l, M => by
    have h := putAll_len l (put M x.1 x.2)
    have h2 := put_len M x.1 x.2
    show (putAll (put M x.1 x.2) l).length ≤ M.length + (l.length + 1)
    omega
theorem putAll_mem : ∀ (l : Mp) {M : Mp} {x : Pt × Tx.Co}, x ∈ putAll M l → x ∈ M ∨ x ∈ l
  | [], _, _, h => .inl h
  | y :: l, M, x, h => by
    rcases putAll_mem l (M := put M y.1 y.2) h with h | h
    · rcases put_mem h with h | h
      · exact .inl h
      · exact .inr (List.mem_cons.2 (.inl h))
    · exact .inr (List.mem_cons_of_mem _ h)
theorem total_all : ∀ (l : List Int) (s : Int), (Am.total l s).2 = 0 → ∀ z, z ∈ l → Am.Good z
  | [], _, _, _, hz => by cases hz
  | y :: l, s, h, z, hz => by
    unfold Am.total at h
    by_cases h1 : Am.Good y
    · rw [if_pos h1] at h
      by_cases h2 : Am.Good (s + y)
      · rw [if_pos h2] at h
        rcases List.mem_cons.1 hz with rfl | hz
        · exact h1
        · exact total_all l (s + y) h z hz
      · rw [if_neg h2] at h
        exact absurd h (by decide)
    · rw [if_neg h1] at h
      exact absurd h (by decide)
theorem co_good {t : Tx.T} (h : Tx.check t = 0) : ∀ c, c ∈ t.co → Am.Good c.v := fun c hc => total_all _ 0 (check_parts h).2.2 c.v (List.mem_map.2 ⟨c, hc, rfl⟩)
theorem doM_good {M : Mp} {id : List (BitVec 8)} {t : Tx.T} (hg : ∀ x, x ∈ M → Am.Good x.2.v) (h : doE M id t = 0) : ∀ x, x ∈ doM M id t → Am.Good x.2.v := fun x hx => by
  rcases putAll_mem _ hx with h1 | h1
  · exact hg x (delAll_sub _ h1)
  · obtain ⟨i, hi⟩ := List.mem_iff_getElem?.1 h1
    obtain ⟨c, hc, rfl⟩ := ownL_at.1 hi
    exact co_good (fee_parts (do_parts h).1).1 c (List.mem_of_getElem? hc)
theorem doM_len (M : Mp) (id : List (BitVec 8)) (t : Tx.T) : (doM M id t).length ≤ M.length + t.co.length := by
  have h1 := putAll_len (ownL id t.co) (delAll M (t.sp.map pt))
  have h2 := delAll_len (t.sp.map pt) M
  have h3 : (ownL id t.co).length = t.co.length := by unfold ownL; rw [List.length_mapIdx]
  unfold doM
  omega
end Cs
/-- a set of good coins -/
def SetG (w : World) (v : Value) (F : Fp) (M : Cs.Mp) : Prop := SetAt w v F M ∧ ∀ x, x ∈ M → Am.Good x.2.v
theorem SetAt.fits {w : World} {v : Value} {F : Fp} {M : Cs.Mp} (h : SetAt w v F M) : Cs.Keys M ∧ ∀ x, x ∈ M → Cs.ptOk x.1 ∧ Tx.CoOk x.2 := by
  obtain ⟨g, b, _, hs, _⟩ := h
  obtain ⟨es, clock, _, _, h1, h2, _⟩ := hs.map
  exact ⟨h1, h2⟩
theorem coinsOk : CoinsOk SetG where
  moved := fun h hm hF => ⟨h.1.moved hm hF, h.2⟩
  lt := fun h j hj => by
    obtain ⟨⟨g, b, _, hs, rfl⟩, _⟩ := h
    rcases hj with rfl | rfl
    · exact hs.has.lt
    · exact hs.map.lt
  keys := fun h => ⟨h.1.fits.1, fun x hx => ⟨(h.1.fits.2 x hx).1, (h.1.fits.2 x hx).2, h.2 x hx⟩⟩
  new := fun w => (pnew_any w).mono fun e w' ⟨he, hs, hb⟩ => ⟨_, fun j => j = w.heap.size + 1 ∨ j = w.heap.size, he, ⟨⟨_, _, rfl, hs, rfl⟩, fun x hx => by cases hx⟩, fun j hj => by omega, hb⟩
  put := fun {w v F M} h p hp c hc => by
    obtain ⟨⟨g, b, rfl, hs, rfl⟩, hg⟩ := h
    refine (pput_any hs p hp c hc).mono fun e w' ⟨he, hs', hm⟩ => ⟨fun j => j = g ∨ j = b, _, he, ⟨⟨g, b, rfl, hs', rfl⟩, ?_⟩, ?_, fun j hj => .inl hj, hm.mono fun k hk => .inr hk, ?_⟩
    · intro x hx
      by_cases h0 : Cs.putE M p c = 0
      · rw [if_pos h0] at hx
        rcases Cs.put_mem hx with hx | rfl
        · exact hg x hx
        · unfold Cs.putE at h0
          by_cases h1 : Am.Good c.v
          · exact h1
          · rw [if_neg h1] at h0
            exact absurd h0 (by decide)
      · rw [if_neg h0] at hx
        exact hg x hx
    · intro q
      by_cases h0 : Cs.putE M p c = 0
      · rw [if_pos h0, Cs.look_put (SetAt.fits ⟨g, b, rfl, hs, rfl⟩).1]
        by_cases hq : q = p
        · rw [if_pos hq, if_pos ⟨h0, hq⟩]
        · rw [if_neg hq, if_neg (fun h => hq h.2)]
      · rw [if_neg h0, if_neg (fun h => h0 h.1)]
    · by_cases h0 : Cs.putE M p c = 0
      · rw [if_pos h0]; exact Cs.put_len _ _ _
      · rw [if_neg h0]; omega
  len := fun h => plen_any (.inl h.1)
  worth := fun h hl => pworth_any (.inl h.1) hl h.2
  fee := fun h a n q b m r t ht hs hK => pfee_any (.inl h.1) h.2 a n q b m r t ht hs hK
  do_ := fun {w v F M} h a n q b m r t ht hs hK => by
    obtain ⟨⟨g, bm, rfl, hS, rfl⟩, hg⟩ := h
    refine (pdo_any hS hg a n q b m r t ht hs hK).mono fun e w' ⟨M', ua, un, uq, ub, um, ur, uc, uk, ul, u, sp, he, hS', hU, h1, h2, hm⟩ => ⟨fun j => j = g ∨ j = bm, M', ua, un, uq, ub, um, ur, uc, uk, ul, u, sp, he, ⟨⟨g, bm, rfl, hS', rfl⟩, ?_⟩, hU, fun h => ?_, fun h q => by rw [h2 h], fun j hj => .inl hj, hm.mono fun k hk => .inr hk, ?_⟩
    · by_cases h0 : Cs.doE M (Tx.idOf false t) t = 0
      · rw [(h1 h0).1]; exact Cs.doM_good hg h0
      · rw [h2 h0]; exact hg
    · obtain ⟨e1, e2, e3⟩ := h1 h
      refine ⟨?_, e2, e3⟩
      rw [e1]
      exact Cs.doM_is (SetAt.fits ⟨g, bm, rfl, hS, rfl⟩).1 _ _
    · by_cases h0 : Cs.doE M (Tx.idOf false t) t = 0
      · rw [(h1 h0).1]; exact Cs.doM_len _ _ _
      · rw [h2 h0]; omega
end Go.Proofs.YtagjolbpmhbifaaGreatDoor
