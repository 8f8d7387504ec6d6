/- package coins: Fee · package coins: exchange (mkcti.py) -/
import Derived.Test.YtdfplenniamnoaaGreatDoorJ22
import Derived.Test.YtdfplenniamnoaaGreatDoorJ18
/-! package coins: Fee -/
namespace Go.Proofs.YtdfplenniamnoaaGreatDoor
open Go Go.RowKit Go.ChangeShapes Go.WideShapes
theorem Cs.spent_good {M : Cs.Mp} (hg : ∀ x, x ∈ M → Am.Good x.2.v) (t : Tx.T) : ∀ c, c ∈ Cs.spentOf M t → Am.Good c.v := fun c hc => by
  obtain ⟨p, _, rfl⟩ := List.mem_map.1 hc
  unfold Cs.look
  cases hi : Cs.idx p M with
  | none => exact ⟨by decide, by decide⟩
  | some r => exact hg _ (List.mem_of_getElem? (Cs.idx_at hi))
theorem Cs.any_not {M : Cs.Mp} (L : List Cs.Pt) : (!(L.any fun s => !(Cs.look M s).isSome)) = true ↔ ∀ p, p ∈ L → (Cs.look M p).isSome = true := by
  rw [Bool.not_eq_true', List.any_eq_false]
  exact ⟨fun h p hp => by
    have h1 := h p hp
    cases h2 : (Cs.look M p).isSome
    · rw [h2] at h1
      exact (h1 rfl).elim
    · rfl, fun h p hp => by rw [h p hp]; exact Bool.false_ne_true⟩
theorem Cs.total_isgood : ∀ (l : List Int) (s : Int), Am.Good s → (Am.total l s).2 = 0 → Am.Good (Am.total l s).1
  | [], s, hs, _ => hs
  | z :: l, s, hs, h => by
    unfold Am.total at h ⊢
    by_cases h1 : Am.Good z
    · rw [if_pos h1] at h ⊢
      by_cases h2 : Am.Good (s + z)
      · rw [if_pos h2] at h ⊢
        exact total_isgood l (s + z) h2 h
      · rw [if_neg h2] at h
        exact absurd h (by decide)
    · rw [if_neg h1] at h
      exact absurd h (by decide)
theorem SetN.there {F : Nat → Prop} {w : World} {v : Value} {M : Cs.Mp} (h : SetN w v F M) {p : Cs.Pt} (hp : (Cs.look M p).isSome = true) : ∃ g b, v = .pointer (some ⟨g, 0, none⟩) ∧ SetB w g b M := by
  rcases h with ⟨g, b, h1, h2, _⟩ | ⟨_, _, rfl⟩
  · exact ⟨g, b, h1, h2⟩
  · cases hp
set_option maxRecDepth 100000 in
set_option maxHeartbeats 8000000 in
theorem pfee_any {w : World} {v : Value} {F : Nat → Prop} {M : Cs.Mp} (h : SetN w v F M) (hg : ∀ x, x ∈ M → Am.Good x.2.v) (a : Option Addr) (n q : Nat) (b : Option Addr) (m r : Nat) (t : Tx.T) (ht : TxAt w a n q b m r t) (hs : Tx.Small t) (hK : KDg w) :
    Calls Tryz.prog 17 #[v, txv a n q b m r t.firm] w fun e w' => e = .returned (.tuple #[.int .i64 (Cs.feeV M t), errn (Cs.feeE M t)]) ∧ Below w.heap.size w w' := by
  obtain ⟨y, rfl⟩ := h.ptr
  have hn6 : n ≤ 1000000000 := by have := hs.1; have := ht.sp.1; omega
  have hm6 : m ≤ 1000000 := by have := hs.2.1; have := ht.co.1; omega
  obtain ⟨W1, hW1⟩ : ∃ ww, ww = w.alloc (.cells #[.slice a n q, .slice b m r, .bool t.firm] 26) := ⟨_, rfl⟩
  have hB1 : Below w.heap.size w W1 := by rw [hW1]; exact (Below.refl _ _).alloc (Nat.le_refl _) _
  have hX : Has W1 w.heap.size 26 #[.slice a n q, .slice b m r, .bool t.firm] := by rw [hW1]; exact Has.fresh _ _ _
  have lX := hX.load_agg (P := Tryz.prog) (t := 26) Tryz.underlying26 rfl (by kernel_rfl)
  have HX := Lib.hid (fun (w' : World) (hb : Below W1.heap.size W1 w') => (hX.under hb hX.lt).load_agg (P := Tryz.prog) (t := 26) Tryz.underlying26 rfl (by kernel_rfl))
  obtain ⟨c1, hc1⟩ : ∃ c, c = Tx.check t := ⟨_, rfl⟩
  have HC := Lib.hid (show Calls Tryz.prog 19 #[txv a n q b m r t.firm] W1 fun e w' => e = .returned (errn c1) ∧ Below W1.heap.size W1 w' from hc1 ▸ pcheck_any a n q b m r t t.firm W1 (ht.below hB1) hm6)
  have HT := Lib.hid (ht.below hB1)
  have HS := Lib.hid (h.below hB1)
  have HG := Lib.hid hg
  have HSM := Lib.hid hs
  have HK := Lib.hid (hK.below hB1)
  have HN := Lib.hid (And.intro hn6 hm6)
  have HW := Lib.hid hW1
  clear hW1 hX ht hs hK h hg hn6 hm6
  by_cases h0 : c1 = 0
  · rw [h0, show errn 0 = Value.nilIface from rfl] at HC
    have HC0 := Lib.hid (show Tx.check t = 0 from hc1.symm.trans h0)
    have HPL := Lib.hid (show (t.sp.map Cs.pt).length = n by rw [List.length_map, HT.out.sp.1])
    clear h0 hc1
    obtain ⟨o1, ho1⟩ : ∃ o, o = !((t.sp.map Cs.pt).any fun s => !(Cs.look M s).isSome) := ⟨_, rfl⟩
    have HO := Lib.hid (show o1 = true ↔ ∀ p, p ∈ t.sp.map Cs.pt → (Cs.look M p).isSome = true by rw [ho1]; exact Cs.any_not _)
    have HA := Lib.hid (show ∀ (w' : World) (a' : Option Addr) (q' : Nat), Below W1.heap.size W1 w' → Recs ptRec w' a' n (t.sp.map Cs.pt) → Calls Tryz.prog 69 #[.pointer y, .slice a' n q'] w' fun e w2 => e = .returned (.bool o1) ∧ Below w'.heap.size w' w2 from fun w' a' q' hb hr => ho1 ▸ phasall_any (HS.out.below hb) a' n q' _ hr)
    clear ho1
    cases o1
    · have hE : Cs.feeE M t = 7 := by unfold Cs.feeE; rw [if_pos HC0.out, if_neg (fun h => by cases HO.out.2 h)]
      have hV : Cs.feeV M t = 0 := by unfold Cs.feeV; rw [hE]; rfl
      rw [hE, hV]
      clear hE hV
      go_enter Tryz.func17, Tryz.ntmps17
      go_upto_region 1 with fail
      rw [← HW.out]
      go_wp2_with (first
        | (go_at_call 69; refine (HA.out _ pa pc (hb2.trans (hb3.mono hb2.size)) hrp).mono ?_; rintro e w4 ⟨rfl, hb4⟩)
        | (go_at_call 64; refine (spby_any a n q b m r t t.firm w2 (HT.out.below hb2) HN.out.1).mono ?_; rintro e w3 ⟨v3, rfl, ho3, hb3⟩; obtain ⟨pa, pc, rfl, hpc, h03, _, hrp⟩ := ho3.shape HPL.out)
        | (go_at_call 19; refine HC.out.mono ?_; rintro e w2 ⟨rfl, hb2⟩; have lX2 := HX.out w2 hb2)
        | (refine wpList_load_run rfl 26 (.tmp 3) rfl _ _ rfl lX ?_)
        | (refine wpList_load_run rfl 26 (.tmp 3) rfl _ _ rfl lX2 ?_))
      go_ret2
      exact ⟨rfl, hB1.trans ((hb2.trans ((hb3.trans (hb4.mono hb3.size)).mono hb2.size)).mono hB1.size)⟩
    · have hall := HO.out.1 rfl
      have hpar := Cs.check_parts HC0.out
      obtain ⟨g, bm, hyy, hsb⟩ : ∃ g bm, Value.pointer y = .pointer (some ⟨g, 0, none⟩) ∧ SetB W1 g bm M := by
        obtain ⟨p, hp⟩ := List.getElem?_eq_some_iff.2 ⟨(by rw [List.length_map]; exact hpar.1 : 0 < (t.sp.map Cs.pt).length), rfl⟩ |> fun h => (⟨_, h⟩ : ∃ p, (t.sp.map Cs.pt)[0]? = some p)
        exact HS.out.there (hall p (List.mem_of_getElem? hp))
      injection hyy with hyy
      subst hyy
      obtain ⟨L, hL⟩ : ∃ L, L = Cs.spentOf M t := ⟨_, rfl⟩
      obtain ⟨c2, hc2⟩ : ∃ c, c = Lk.check t L := ⟨_, rfl⟩
      have HLL := Lib.hid (show L.length = n by rw [hL, Cs.spentOf, List.length_map]; exact HPL.out)
      have HSC := Lib.hid (show ∀ w', Below W1.heap.size W1 w' → Calls Tryz.prog 62 #[.pointer (some ⟨g, 0, none⟩), txv a n q b m r t.firm] w' fun e w2 => ∃ v, e = .returned v ∧ OwnR coRec 39 w'.heap.size w2 v L ∧ Below w'.heap.size w' w2 from fun w' hb => hL ▸ spc_any a n q b m r t t.firm w' (hsb.below hb) (HT.out.below hb) HN.out.1)
      have HLC := Lib.hid (show ∀ w' sa sc, Below W1.heap.size W1 w' → Recs coRec w' sa n L → n ≤ sc ∧ (sa = none → sc = 0) → Calls Tryz.prog 70 #[txv a n q b m r t.firm, .slice sa n sc] w' fun e w2 => e = .returned (errn c2) ∧ Below w'.heap.size w' w2 from fun w' sa sc hb hr hq => hc2 ▸ lockChk a n q b m r t sa n sc L w' (HK.out.below hb) (HT.out.below hb) HSM.out hr hq)
      have HGL := Lib.hid (show ∀ c, c ∈ L → Am.Good c.v from hL ▸ Cs.spent_good HG.out t)
      obtain ⟨T, hT⟩ : ∃ T, T = Cs.tot L := ⟨_, rfl⟩
      obtain ⟨O, hO⟩ : ∃ O, O = (Cs.outT t).1 := ⟨_, rfl⟩
      have HE := Lib.hid (show Cs.feeE M t = if c2 = 0 then if T.2 = 0 then if T.1 < O then 9 else 0 else T.2 else c2 by
        have h5 : Cs.inT M t = T := by
          rw [hT, hL]
          exact Cs.tot_perm (List.Perm.refl _) (Cs.spent_good HG.out t)
        unfold Cs.feeE
        rw [if_pos HC0.out, if_pos hall, ← hL, ← hc2, h5, ← hO])
      have HV := Lib.hid (show Cs.feeE M t = 0 → Cs.feeV M t = T.1 - O from fun h => by
        have h5 : Cs.inT M t = T := by
          rw [hT, hL]
          exact Cs.tot_perm (List.Perm.refl _) (Cs.spent_good HG.out t)
        unfold Cs.feeV
        rw [if_pos h, h5, ← hO])
      have HV0 := Lib.hid (show ¬ Cs.feeE M t = 0 → Cs.feeV M t = 0 from fun h => by unfold Cs.feeV; exact if_neg h)
      have HOG := Lib.hid (show Am.Good O by rw [hO]; exact Cs.total_isgood _ 0 (by decide) hpar.2.2)
      have HTG := Lib.hid (show T.2 = 0 → Am.Good T.1 from fun h => by
        rw [hT, Cs.tot] at h ⊢
        by_cases h6 : Am.Good (Tx.vals L).sum
        · rw [if_pos h6]; exact h6
        · rw [if_neg h6] at h; exact absurd h (by decide))
      have HWS := Lib.hid (show ∀ w' sa sc, Recs coRec w' sa n L → Calls Tryz.prog 71 #[.func (.func 121) #[] #[.pointer (some ⟨w'.heap.size, 0, none⟩)]] (w'.alloc (.cells #[.slice sa n sc] 24)) fun e w2 => e = .returned (.tuple #[.int .i64 T.1, errn T.2]) ∧ Below w'.heap.size w' w2 from fun w' sa sc hr => hT ▸ worth_slice sa n sc L w' hr HN.out.1 HGL.out)
      have HOU := Lib.hid (show ∀ w', Below W1.heap.size W1 w' → Calls Tryz.prog 73 #[txv a n q b m r t.firm] w' fun e w2 => e = .returned (.tuple #[.int .i64 O, .nilIface]) ∧ Below w'.heap.size w' w2 from fun w' hb => by
        have h7 := pout_any a n q b m r t t.firm w' (HT.out.below hb) HN.out.2
        rw [show (Am.total (Tx.vals t.co) 0).2 = 0 from hpar.2.2] at h7
        rw [hO]
        exact h7)
      have hSN : SetN W1 (.pointer (some ⟨g, 0, none⟩)) F M := HS.out
      clear hL hc2 hT hO hall hpar hsb hSN HS HG HSM HK
      obtain ⟨T1, T2⟩ := T
      dsimp only at HE HV HTG HWS
      go_enter Tryz.func17, Tryz.ntmps17
      go_upto_region 1 with fail
      rw [← HW.out]
      go_upto_region 4 with (first
        | (go_at_call 19; refine HC.out.mono ?_; rintro e w2 ⟨rfl, hb2⟩)
        | (refine wpList_load_run rfl 26 (.tmp 3) rfl _ _ rfl lX ?_))
      clear lX
      have lX := HX.out w2 hb2
      go_upto_region 6 with (first
        | (go_at_call 69; refine (HA.out _ pa pc (hb2.trans (hb3.mono hb2.size)) hrp).mono ?_; rintro e w4 ⟨rfl, hb4⟩)
        | (go_at_call 64; refine (spby_any a n q b m r t t.firm w2 (HT.out.below hb2) HN.out.1).mono ?_; rintro e w3 ⟨v3, rfl, ho3, hb3⟩; obtain ⟨pa, pc, rfl, hpc, h03, _, hrp⟩ := ho3.shape HPL.out)
        | (refine wpList_load_run rfl 26 (.tmp 3) rfl _ _ rfl lX ?_))
      have hT4 := hb2.trans ((hb3.trans (hb4.mono hb3.size)).mono hb2.size)
      clear lX ho3 hrp hpc h03
      have lX := HX.out w4 hT4
      go_upto_region 7 with (first
        | (go_at_call 62; refine (HSC.out w4 hT4).mono ?_; rintro e w5 ⟨v5, rfl, ho5, hb5⟩; obtain ⟨sa, sc, rfl, hsc, h0s, _, hrs⟩ := ho5.shape HLL.out)
        | (refine wpList_load_run rfl 26 (.tmp 3) rfl _ _ rfl lX ?_))
      have hT5 := hT4.trans (hb5.mono hT4.size)
      clear lX ho5
      have lX := HX.out w5 hT5
      have HL5 := Lib.hid (HLC.out w5 sa sc hT5 hrs ⟨hsc, h0s⟩)
      clear hb2 hb3 hb4 hb5 hT4
      by_cases h2 : c2 = 0
      · rw [h2, show errn 0 = Value.nilIface from rfl] at HL5
        go_upto_region 10 with (first
          | (go_at_call 70; refine HL5.out.mono ?_; rintro e w6 ⟨rfl, hb6⟩)
          | (refine wpList_load_run rfl 26 (.tmp 3) rfl _ _ rfl lX ?_))
        have hT6 := hT5.trans (hb6.mono hT5.size)
        have HW6 := Lib.hid (HWS.out w6 sa sc (hrs.below hb6))
        clear lX hb6
        rw [if_pos h2] at HE
        by_cases h3 : T2 = 0
        · rw [h3, show errn 0 = Value.nilIface from rfl] at HW6
          rw [if_pos h3] at HE
          go_upto_region 13 with (first
            | (go_at_call 71; refine HW6.out.mono ?_; rintro e w8 ⟨rfl, hb8⟩)
            | (go_at_call 72; refine (svalues_any sa n sc w6).mono ?_; rintro e w7 ⟨rfl, rfl⟩))
          have hT8 := hT6.trans (hb8.mono hT6.size)
          have lX := HX.out w8 hT8
          have hTg := HTG.out h3
          clear hb8 hT6 hT5
          by_cases h4 : T1 < O
          · rw [if_pos h4] at HE
            have hV := HV0.out (by rw [HE.out]; decide)
            have HF := Lib.hid (fun w => pfee_no T1 O (fun h => absurd h.2.2 (by omega)) w)
            go_wp2_with (first
              | (go_at_call 74; refine (HF.out _).mono ?_; rintro e w10 ⟨rfl, rfl⟩)
              | (go_at_call 73; refine (HOU.out w8 hT8).mono ?_; rintro e w9 ⟨rfl, hb9⟩)
              | (refine wpList_load_run rfl 26 (.tmp 3) rfl _ _ rfl lX ?_))
            go_ret2
            rw [HE.out, hV]
            exact ⟨rfl, hB1.trans ((hT8.trans (hb9.mono hT8.size)).mono hB1.size)⟩
          · rw [if_neg h4] at HE
            have hV := HV.out HE.out
            have HF := Lib.hid (fun w => pfee_ok T1 O ⟨hTg, HOG.out, by omega⟩ w)
            go_wp2_with (first
              | (go_at_call 74; refine (HF.out _).mono ?_; rintro e w10 ⟨rfl, rfl⟩)
              | (go_at_call 73; refine (HOU.out w8 hT8).mono ?_; rintro e w9 ⟨rfl, hb9⟩)
              | (refine wpList_load_run rfl 26 (.tmp 3) rfl _ _ rfl lX ?_))
            go_ret2
            rw [HE.out, hV]
            exact ⟨rfl, hB1.trans ((hT8.trans (hb9.mono hT8.size)).mono hB1.size)⟩
        · rw [show errn T2 = erro T2 from if_neg h3] at HW6
          rw [if_neg h3] at HE
          have hV := HV0.out (by rw [HE.out]; exact h3)
          go_wp2_with (first
            | (go_at_call 71; refine HW6.out.mono ?_; rintro e w8 ⟨rfl, hb8⟩)
            | (go_at_call 72; refine (svalues_any sa n sc w6).mono ?_; rintro e w7 ⟨rfl, rfl⟩))
          go_ret2
          rw [HE.out, hV, show errn T2 = erro T2 from if_neg h3]
          exact ⟨rfl, hB1.trans ((hT6.trans (hb8.mono hT6.size)).mono hB1.size)⟩
      · rw [show errn c2 = erro c2 from if_neg h2] at HL5
        rw [if_neg h2] at HE
        have hV := HV0.out (by rw [HE.out]; exact h2)
        go_wp2_with (first
          | (go_at_call 70; refine HL5.out.mono ?_; rintro e w6 ⟨rfl, hb6⟩)
          | (refine wpList_load_run rfl 26 (.tmp 3) rfl _ _ rfl lX ?_))
        go_ret2
        rw [HE.out, hV, show errn c2 = erro c2 from if_neg h2]
        exact ⟨rfl, hB1.trans ((hT5.trans (hb6.mono hT5.size)).mono hB1.size)⟩
  · have hE : Cs.feeE M t = c1 := by unfold Cs.feeE; rw [← hc1]; exact if_neg h0
    have hV : Cs.feeV M t = 0 := by unfold Cs.feeV; rw [hE]; exact if_neg h0
    have he : errn c1 = erro c1 := if_neg h0
    rw [he] at HC
    rw [hE, hV, he]
    clear hE hV he hc1
    go_enter Tryz.func17, Tryz.ntmps17
    go_upto_region 1 with fail
    rw [← HW.out]
    go_wp2_with (first
      | (go_at_call 19; refine HC.out.mono ?_; rintro e w2 ⟨rfl, hb2⟩)
      | (refine wpList_load_run rfl 26 (.tmp 3) rfl _ _ rfl lX ?_))
    go_ret2
    exact ⟨rfl, hB1.trans (hb2.mono hB1.size)⟩
end Go.Proofs.YtdfplenniamnoaaGreatDoor

/-! package coins: exchange (mkcti.py) -/
namespace Go.Proofs.YtdfplenniamnoaaGreatDoor
open Go Go.RowKit Go.ChangeShapes Go.WideShapes
theorem Cs.delAll_snoc (M : Cs.Mp) (l : List Cs.Pt) (p : Cs.Pt) : Cs.delAll M (l ++ [p]) = Cs.del (Cs.delAll M l) p := by unfold Cs.delAll; rw [List.foldl_append]; rfl
theorem Cs.putAll_snoc (M l : Cs.Mp) (x : Cs.Pt × Tx.Co) : Cs.putAll M (l ++ [x]) = Cs.put (Cs.putAll M l) x.1 x.2 := by unfold Cs.putAll; rw [List.foldl_append]; rfl
theorem recs_ne_map {α : Type} {R : Rec α} {w : World} {a : Option Addr} {n b : Nat} {L : List α} {M : Cs.Mp} (h : Recs R w a n L) (hm : MapAt w b M) (h0 : 0 < n) (y : Addr) (hy : a = some y) : ¬ y.block = b := fun e => by
  obtain ⟨es, clock, hb, _⟩ := hm
  obtain ⟨t, ht⟩ := h.get h0
  obtain ⟨x, hx, hc⟩ := h.2.2.2 0 t ht
  rw [hy] at hx
  injection hx with hx
  subst hx
  have h1 : 0 < (R.cells t).length := by rw [R.len t (h.okay ht)]; exact R.pos
  have h2 := hc 0 _ (List.getElem?_eq_getElem h1)
  rw [Nat.zero_mul] at h2
  have h3 : (y.add 0).block = b := e
  unfold World.cell? at h2
  rw [h3, hb] at h2
  cases h2
set_option maxRecDepth 100000 in
set_option maxHeartbeats 8000000 in
theorem pexch_any {w : World} {g b : Nat} {M : Cs.Mp} (h : SetB w g b M) (oa : Option Addr) (on oq : Nat) (OL : List Cs.Pt) (hO : Recs ptRec w oa on OL) (pa : Option Addr) (pn pq : Nat) (PL : List Cs.Pt) (hP : Recs ptRec w pa pn PL) (ca : Option Addr) (cn cq : Nat) (CL : List Tx.Co) (hC : Recs coRec w ca cn CL) (hpc : pn = cn) :
    Calls Tryz.prog 63 #[.pointer (some ⟨g, 0, none⟩), .slice oa on oq, .slice pa pn pq, .slice ca cn cq] w fun e w' => e = .returned (.tuple #[]) ∧ SetB w' g b (Cs.putAll (Cs.delAll M OL) (PL.zip CL)) ∧ Moved (fun j => j = b) w w' := by
  have honx : on ≤ 9223372036854775807 := hO.2.1
  have hpnx : pn ≤ 9223372036854775807 := hP.2.1
  subst hpc
  have HOR := Lib.hid hO
  have HPR := Lib.hid hP
  have HCR := Lib.hid hC
  have HS0 := Lib.hid (show SetB w g b (Cs.delAll M (OL.take 0)) from h)
  have HMP := Lib.hid h.map
  clear hO hP hC h
  go_enter Tryz.func63, Tryz.ntmps63
  go_wp2
  go_loopw [14] (fun iv wr => ∃ i : Nat, i ≤ on ∧ iv = .int .i64 i ∧ RowKit.Hid (SetB wr g b (Cs.delAll M (OL.take i))) ∧ Moved (fun j => j = b) w wr) (fun iv _ => on - (intOf iv).toNat)
  case atStart => exact ⟨0, Nat.zero_le _, rfl, HS0, Moved.refl _ _⟩
  case round =>
    obtain ⟨i, hi, rfl, HO, hmr⟩ := hrel
    clear HS0
    by_cases hlt : i < on
    · have hii : (i : Int) < (on : Int) := by omega
      have hi0 : (0 : Int) ≤ (i : Int) := by omega
      obtain ⟨p, hp⟩ := HOR.out.get hlt
      obtain ⟨x, hax, _⟩ := HOR.out.2.2.2 i p hp
      subst hax
      have hy := (HOR.out.moved hmr (fun h0 y hy => recs_ne_map HOR.out HMP.out h0 y hy)).load_at Tryz.underlying36 rfl size_ptr hp
      have HP := Lib.hid (show Cs.ptOk p from HOR.out.okay hp)
      have HT := Lib.hid (pts_take hp)
      clear hp
      go_upto_region 3 with (first
        | (refine wpList_store_mid rfl 36 (.tmp 9) (.tmp 17) rfl wr.heap.size 0 (ptCells p.1 p.2).toArray rfl rfl (ptRec.there wr 36 (by kernel_rfl) HP.out) (ptRec.size_eq size_ptr HP.out) (ptRec.all_one p) ?_)
        | (refine wpList_load_run rfl 36 (.tmp 16) rfl _ _ rfl hy ?_))
      obtain ⟨w5, hw5⟩ : ∃ u, u = (wr.alloc (.cells zPt 36 )).setCells wr.heap.size 0 (ptCells p.1 p.2) := ⟨_, rfl⟩
      obtain ⟨hG, hb5⟩ := Rec.new (R := ptRec) (by kernel_rfl) HP.out hw5
      rw [← hw5]
      obtain ⟨g5, hg5⟩ : ∃ g, g = wr.heap.size := ⟨_, rfl⟩
      rw [← hg5] at hG ⊢
      clear hw5 hy
      obtain ⟨ws, hws⟩ : ∃ ww, ww = w5.drew := ⟨_, rfl⟩
      have hBs : Below wr.heap.size wr ws := by rw [hws]; exact hb5.drew
      have hPs : Has ws g5 36 (ptCells p.1 p.2).toArray := by rw [hws]; exact hG.draw
      have hSs := HO.out.below hBs
      have hNE : ¬ g5 = b := fun e => by have := HO.out.map.lt; omega
      have lP := fun (wq : World) (hSw : HeldM (fun j => j = b) ws wq) => (hPs.moved hSw.out hNE).load_agg (P := Tryz.prog) (t := 36 ) Tryz.underlying36 rfl (size_pt HP.out.1)
      have lM := fun (wq : World) (hSw : HeldM (fun j => j = b) ws wq) => (show wq.cell? ⟨g, 0, none⟩ = some (.map (some b)) from (hSs.has.moved hSw.out hSs.ne).cell_at rfl)
      refine wp_region_held_drew (S := HeldM (fun j => j = b) ws) (by kernel_rfl) (by rw [hws]; exact HeldM.refl _ _) (fun hHeld => ?_)
      rw [← hws] at hHeld ⊢
      clear hws
      refine take_at (v := ?_) 0 18 rfl rfl (by kernel_rfl) (by kernel_rfl) (by kernel_rfl) (fun _ _ _ h => h) hHeld (Or.inl ⟨by rfl, ?_⟩) rfl ?_
      rotate_left
      · intro wq hSw
        go_simp
        try with_reducible rfl
      simp only [List.set_cons_zero, List.set_cons_succ]
      refine take_at (v := ?_) 1 19 rfl rfl (by kernel_rfl) (by kernel_rfl) (by kernel_rfl) (fun _ _ _ h => h) hHeld (Or.inl ⟨by rfl, ?_⟩) rfl ?_
      rotate_left
      · intro wq hSw
        go_simp
        try with_reducible rfl
      simp only [List.set_cons_zero, List.set_cons_succ]
      refine take_at (v := ?_) 2 20 rfl rfl (by kernel_rfl) (by kernel_rfl) (by kernel_rfl) (fun _ _ _ h => h) hHeld (Or.inl ⟨by rfl, ?_⟩) rfl ?_
      rotate_left
      · intro wq hSw
        go_simp
        try with_reducible rfl
      simp only [List.set_cons_zero, List.set_cons_succ]
      refine take_at (v := ?_) 3 21 rfl rfl (by kernel_rfl) (by kernel_rfl) (by kernel_rfl) (fun _ _ _ h => h) hHeld (Or.inl ⟨by rfl, ?_⟩) rfl ?_
      rotate_left
      · intro wq hSw
        have hst := lM wq hSw
        go_simp
        try with_reducible rfl
      simp only [List.set_cons_zero, List.set_cons_succ]
      refine take_at 4 22 rfl rfl (by kernel_rfl) (by kernel_rfl) (by kernel_rfl) (fun _ _ _ h => h) hHeld (yieldsIf_load_agg (by rfl) 36 (.tmp 9) rfl _ _ (by rfl) (fun wq hSw => lP wq hSw)) rfl ?_
      simp only [List.set_cons_zero, List.set_cons_succ]
      refine wpAnyH_ready (rs := [5]) (by kernel_rfl) (by simp) ?_
      refine AllReadyH.cons rfl (fun K hK => ?_) AllReadyH.nil
      refine step_delete_pt (by rfl) (.tmp 21) (.tmp 22) rfl rfl hSs.map p rfl HP.out.1 (fun w' hm' hmv => ?_)
      refine hK.out _ _ (HeldM.of hmv) (fun _ => ?_)
      clear hK K
      replace hHeld := HeldM.of hmv
      try simp only [Act.put]
      refine wpAnyH_done (by kernel_rfl) ?_ _
      have HO2 := Lib.hid (show SetB w' g b (Cs.delAll M (OL.take (i + 1))) from ⟨hSs.has.moved hmv hSs.ne, by rw [HT.out, Cs.delAll_snoc]; exact hm'⟩)
      have hm6 : Moved (fun j => j = b) w w' := (hmr.then hBs).trans hmv (fun k hk => .inl hk)
      clear hm' hmv lP lM hg5 hG hPs
      go_wp2
      go_roundw
      case rel => exact ⟨i + 1, by omega, by go_num, HO2, hm6⟩
      case measure => (simp [intOf]; try omega)
    · have hii : ¬ (i : Int) < (on : Int) := by omega
      obtain rfl : i = on := by omega
      have HD := Lib.hid (show SetB wr g b (Cs.putAll (Cs.delAll M OL) ((PL.zip CL).take 0)) by
        have h9 := HO.out
        rw [List.take_of_length_le (by rw [HOR.out.1]; exact Nat.le_refl _)] at h9
        exact h9)
      have HPR2 := Lib.hid (HPR.out.moved hmr (fun h0 y hy => recs_ne_map HPR.out HMP.out h0 y hy))
      have HCR2 := Lib.hid (HCR.out.moved hmr (fun h0 y hy => recs_ne_map HCR.out HMP.out h0 y hy))
      have HZ := Lib.hid (show (PL.zip CL).length = pn by rw [List.length_zip, HPR.out.1, HCR.out.1, Nat.min_self])
      rename World => wA
      clear HO HPR HCR HOR hlt hi hii
      go_wp2
      go_loopw [26] (fun iv wr => ∃ i : Nat, i ≤ pn ∧ iv = .int .i64 i ∧ RowKit.Hid (SetB wr g b (Cs.putAll (Cs.delAll M OL) ((PL.zip CL).take i))) ∧ Moved (fun j => j = b) wA wr) (fun iv _ => pn - (intOf iv).toNat)
      case atStart => exact ⟨0, Nat.zero_le _, rfl, HD, Moved.refl _ _⟩
      case round =>
        obtain ⟨i, hi, rfl, HO, hmr2⟩ := hrel
        by_cases hlt : i < pn
        · have hii : (i : Int) < (pn : Int) := by omega
          have hi0 : (0 : Int) ≤ (i : Int) := by omega
          obtain ⟨p, hp⟩ := HPR2.out.get hlt
          obtain ⟨x, hax, _⟩ := HPR2.out.2.2.2 i p hp
          subst hax
          obtain ⟨c, hc⟩ := HCR2.out.get hlt
          obtain ⟨xc, hcx, _⟩ := HCR2.out.2.2.2 i c hc
          subst hcx
          have hy := (HPR2.out.moved hmr2 (fun h0 y hy => recs_ne_map HPR2.out HD.out.map h0 y hy)).load_at Tryz.underlying36 rfl size_ptr hp
          have HC := Lib.hid (HCR2.out.moved hmr2 (fun h0 y hy => recs_ne_map HCR2.out HD.out.map h0 y hy))
          have HP := Lib.hid (show Cs.ptOk p from HPR2.out.okay hp)
          have HT := Lib.hid (show (PL.zip CL).take (i + 1) = (PL.zip CL).take i ++ [(p, c)] from by
            have h8 : (PL.zip CL)[i]? = some (p, c) := by rw [List.getElem?_zip_eq_some]; exact ⟨hp, hc⟩
            obtain ⟨h2, h3⟩ := List.getElem?_eq_some_iff.1 h8
            rw [List.take_succ_eq_append_getElem h2, h3])
          go_upto_region 8 with (first
            | (refine wpList_store_mid rfl 36 (.tmp 11) (.tmp 30) rfl wr.heap.size 0 (ptCells p.1 p.2).toArray rfl rfl (ptRec.there wr 36 (by kernel_rfl) HP.out) (ptRec.size_eq size_ptr HP.out) (ptRec.all_one p) ?_)
            | (refine wpList_load_run rfl 36 (.tmp 29) rfl _ _ rfl hy ?_))
          obtain ⟨w5, hw5⟩ : ∃ u, u = (wr.alloc (.cells zPt 36 )).setCells wr.heap.size 0 (ptCells p.1 p.2) := ⟨_, rfl⟩
          obtain ⟨hG, hb5⟩ := Rec.new (R := ptRec) (by kernel_rfl) HP.out hw5
          rw [← hw5]
          obtain ⟨g5, hg5⟩ : ∃ g, g = wr.heap.size := ⟨_, rfl⟩
          rw [← hg5] at hG ⊢
          clear hw5 hy hp
          obtain ⟨ws, hws⟩ : ∃ ww, ww = w5.drew := ⟨_, rfl⟩
          have hBs : Below wr.heap.size wr ws := by rw [hws]; exact hb5.drew
          have hPs : Has ws g5 36 (ptCells p.1 p.2).toArray := by rw [hws]; exact hG.draw
          have hSs := HO.out.below hBs
          have hNE : ¬ g5 = b := fun e => by have := HO.out.map.lt; omega
          have hRC := HC.out.below hBs
          have lP := fun (wq : World) (hSw : HeldM (fun j => j = b) ws wq) => (hPs.moved hSw.out hNE).load_agg (P := Tryz.prog) (t := 36 ) Tryz.underlying36 rfl (size_pt HP.out.1)
          have lM := fun (wq : World) (hSw : HeldM (fun j => j = b) ws wq) => (show wq.cell? ⟨g, 0, none⟩ = some (.map (some b)) from (hSs.has.moved hSw.out hSs.ne).cell_at rfl)
          have lC := fun (wq : World) (hSw : HeldM (fun j => j = b) ws wq) => (hRC.moved hSw.out (fun h0 y hy => recs_ne_map hRC hSs.map h0 y hy)).load_at Tryz.underlying39 rfl size_coin hc
          refine wp_region_held_drew (S := HeldM (fun j => j = b) ws) (by kernel_rfl) (by rw [hws]; exact HeldM.refl _ _) (fun hHeld => ?_)
          rw [← hws] at hHeld ⊢
          clear hws
          refine take_at (v := ?_) 0 31 rfl rfl (by kernel_rfl) (by kernel_rfl) (by kernel_rfl) (fun _ _ _ h => h) hHeld (Or.inl ⟨by rfl, ?_⟩) rfl ?_
          rotate_left
          · intro wq hSw
            go_simp
            try with_reducible rfl
          simp only [List.set_cons_zero, List.set_cons_succ]
          refine take_at (v := ?_) 1 32 rfl rfl (by kernel_rfl) (by kernel_rfl) (by kernel_rfl) (fun _ _ _ h => h) hHeld (Or.inl ⟨by rfl, ?_⟩) rfl ?_
          rotate_left
          · intro wq hSw
            go_simp
            try with_reducible rfl
          simp only [List.set_cons_zero, List.set_cons_succ]
          refine take_at (v := ?_) 2 33 rfl rfl (by kernel_rfl) (by kernel_rfl) (by kernel_rfl) (fun _ _ _ h => h) hHeld (Or.inl ⟨by rfl, ?_⟩) rfl ?_
          rotate_left
          · intro wq hSw
            go_simp
            try with_reducible rfl
          simp only [List.set_cons_zero, List.set_cons_succ]
          refine take_at (v := ?_) 3 34 rfl rfl (by kernel_rfl) (by kernel_rfl) (by kernel_rfl) (fun _ _ _ h => h) hHeld (Or.inl ⟨by rfl, ?_⟩) rfl ?_
          rotate_left
          · intro wq hSw
            have hst := lM wq hSw
            go_simp
            try with_reducible rfl
          simp only [List.set_cons_zero, List.set_cons_succ]
          refine take_at 4 35 rfl rfl (by kernel_rfl) (by kernel_rfl) (by kernel_rfl) (fun _ _ _ h => h) hHeld (yieldsIf_load_agg (by rfl) 36 (.tmp 11) rfl _ _ (by rfl) (fun wq hSw => lP wq hSw)) rfl ?_
          simp only [List.set_cons_zero, List.set_cons_succ]
          refine take_at (v := ?_) 5 36 rfl rfl (by kernel_rfl) (by kernel_rfl) (by kernel_rfl) (fun _ _ _ h => h) hHeld (Or.inl ⟨by rfl, ?_⟩) rfl ?_
          rotate_left
          · intro wq hSw
            go_simp
            try with_reducible rfl
          simp only [List.set_cons_zero, List.set_cons_succ]
          refine take_at (v := ?_) 6 37 rfl rfl (by kernel_rfl) (by kernel_rfl) (by kernel_rfl) (fun _ _ _ h => h) hHeld (Or.inl ⟨by rfl, ?_⟩) rfl ?_
          rotate_left
          · intro wq hSw
            go_simp
            try with_reducible rfl
          simp only [List.set_cons_zero, List.set_cons_succ]
          refine take_at (v := ?_) 7 38 rfl rfl (by kernel_rfl) (by kernel_rfl) (by kernel_rfl) (fun _ _ _ h => h) hHeld (Or.inl ⟨by rfl, ?_⟩) rfl ?_
          rotate_left
          · intro wq hSw
            go_simp
            try with_reducible rfl
          simp only [List.set_cons_zero, List.set_cons_succ]
          refine take_at 8 39 rfl rfl (by kernel_rfl) (by kernel_rfl) (by kernel_rfl) (fun _ _ _ h => h) hHeld (yieldsIf_load_agg (by rfl) 39 (.tmp 38) rfl _ _ (by rfl) (fun wq hSw => lC wq hSw)) rfl ?_
          simp only [List.set_cons_zero, List.set_cons_succ]
          refine wpAnyH_ready (rs := [9]) (by kernel_rfl) (by simp) ?_
          refine AllReadyH.cons rfl (fun K hK => ?_) AllReadyH.nil
          refine step_mapUpdate_pt (by rfl) (.tmp 34) (.tmp 35) (.tmp 39) rfl rfl hSs.map p rfl HP.out c rfl (HC.out.okay hc) (fun w' hm' hmv => ?_)
          refine hK.out _ _ (HeldM.of hmv) (fun _ => ?_)
          clear hK K
          replace hHeld := HeldM.of hmv
          try simp only [Act.put]
          refine wpAnyH_done (by kernel_rfl) ?_ _
          have HO2 := Lib.hid (show SetB w' g b (Cs.putAll (Cs.delAll M OL) ((PL.zip CL).take (i + 1))) from ⟨hSs.has.moved hmv hSs.ne, by rw [HT.out, Cs.putAll_snoc]; exact hm'⟩)
          have hm6 : Moved (fun j => j = b) wA w' := (hmr2.then hBs).trans hmv (fun k hk => .inl hk)
          clear hm' hmv lP lM lC hg5 hG hPs hc hRC
          go_wp2
          go_roundw
          case rel => exact ⟨i + 1, by omega, by go_num, HO2, hm6⟩
          case measure => (simp [intOf]; try omega)
        · have hii : ¬ (i : Int) < (pn : Int) := by omega
          obtain rfl : i = pn := by omega
          have HE := Lib.hid (show SetB wr g b (Cs.putAll (Cs.delAll M OL) (PL.zip CL)) by
            have h9 := HO.out
            rw [List.take_of_length_le (by rw [HZ.out]; exact Nat.le_refl _)] at h9
            exact h9)
          go_wp2
          go_end0
          exact ⟨rfl, HE.out, hmr.trans hmr2 (fun k hk => .inl hk)⟩
end Go.Proofs.YtdfplenniamnoaaGreatDoor
