/- package coins: Do (mkctj.py) -/
import Derived.Test.YtdfplenniamnoaaGreatDoorJ23
import Derived.Test.YtdfplenniamnoaaGreatDoorJ16
/-! package coins: Do (mkctj.py) -/
namespace Go.Proofs.YtdfplenniamnoaaGreatDoor
open Go Go.RowKit Go.ChangeShapes Go.WideShapes
theorem und_one (a b c : Option Addr) (n q m r k l : Nat) (f : Bool) : (#[.slice a n q, .slice b m r, .bool f, .slice c k l] : Array Value).all (·.oneCell') = true := by simp [Value.oneCell']
theorem list24 {vs : List Value} (h : vs.length = 24) : ∃ a b c d e f g i j k l m n o p q r s t u v w x y, vs = [a, b, c, d, e, f, g, i, j, k, l, m, n, o, p, q, r, s, t, u, v, w, x, y] := by
  match vs, h with
  | [a, b, c, d, e, f, g, i, j, k, l, m, n, o, p, q, r, s, t, u, v, w, x, y], _ => exact ⟨a, b, c, d, e, f, g, i, j, k, l, m, n, o, p, q, r, s, t, u, v, w, x, y, rfl⟩
/-- a region whose orders end alike but for what J leaves open -/
theorem wp_region_joinJ {P : Program} {id : Nat} {ops : Array Oper} {b : Bool} {Q : Exit → Act → World → Prop} {a : Act} {w : World} (J : List Value → World → Prop) (lo n : Nat)
    (h : (Code.region id ops b).wp P (Exit.then (fun s w' => J ((s.tmps.toList.drop lo).take n) w' ∧ ((s.tmps.toList.drop lo).take n).length = n ∧ s = ⟨(a.tmps.toList.take lo ++ (s.tmps.toList.drop lo).take n ++ a.tmps.toList.drop (lo + n)).toArray, a.defers⟩) (fun _ _ _ => False)) a w)
    (k : ∀ (vs : List Value) (w' : World), vs.length = n → J vs w' → Q .normal ⟨(a.tmps.toList.take lo ++ vs ++ a.tmps.toList.drop (lo + n)).toArray, a.defers⟩ w') : (Code.region id ops b).wp P Q a w :=
  Code.wp_mono (fun e s w' he => by
    cases e <;> first
      | (obtain ⟨hJ, hv, hs⟩ := he; rw [hs]; exact k _ _ hv hJ)
      | exact (he : False).elim) h
theorem has_ne_map {w : World} {g b : Nat} {T : TypeId} {cs : Array Value} {M : Cs.Mp} (h : Has w g T cs) (hm : MapAt w b M) : ¬ g = b := fun e => by
  obtain ⟨es, clock, hb, _⟩ := hm
  subst e
  have h1 : w.heap[g]? = _ := h
  rw [h1] at hb
  cases hb
theorem SetB.under_set {w : World} {g b k : Nat} {M : Cs.Mp} {vs : List Value} (h : SetB w g b M) (h1 : g ≠ k) (h2 : b ≠ k) : SetB (w.setCells k 0 vs) g b M :=
  h.moved (G := fun j => j = k) (Moved.putAll (F := fun j => j = k) (.inl rfl) vs 0 (Moved.refl _ _)) h1 h2
theorem Cs.own_zip (id : List (BitVec 8)) (co : List Tx.Co) : ((Cs.ownL id co).map (·.1)).zip co = Cs.ownL id co := by
  refine List.ext_getElem? fun i => ?_
  by_cases h : i < co.length
  · have h1 : (Cs.ownL id co)[i]? = some ((id, (i : Int)), co[i]) := Cs.ownL_at.2 ⟨co[i], List.getElem?_eq_getElem h, rfl⟩
    rw [h1, List.getElem?_zip_eq_some, List.getElem?_map, h1]
    exact ⟨rfl, List.getElem?_eq_getElem h⟩
  · have h2 : (Cs.ownL id co).length ≤ i := by unfold Cs.ownL; rw [List.length_mapIdx]; omega
    rw [List.getElem?_eq_none h2, List.getElem?_eq_none (by rw [List.length_zip, List.length_map]; omega)]
theorem Cs.any_map {α β : Type} (L : List α) (f : α → β) (p : β → Bool) : (L.map f).any p = L.any fun x => p (f x) := List.any_map
set_option maxRecDepth 100000 in
set_option maxHeartbeats 8000000 in
theorem pdo_fail {w : World} {v : Value} {F : Nat → Prop} {M : Cs.Mp} (h : SetN w v F M) (hg : ∀ x, x ∈ M → Am.Good x.2.v) (a : Option Addr) (n q : Nat) (b : Option Addr) (m r : Nat) (t : Tx.T) (ht : TxAt w a n q b m r t) (hs : Tx.Small t) (hK : KDg w) (hE : ¬ Cs.feeE M t = 0) :
    Calls Tryz.prog 15 #[v, txv a n q b m r t.firm] w fun e w' => e = .returned (.tuple #[.agg #[.slice none 0 0, .slice none 0 0, .bool false, .slice none 0 0], erro (Cs.feeE M t)]) ∧ Below w.heap.size w w' := by
  obtain ⟨y, rfl⟩ := h.ptr
  obtain ⟨W1, hW1⟩ : ∃ ww, ww = (w.alloc (.cells #[.slice a n q, .slice b m r, .bool t.firm] 26 )).alloc (.cells #[.slice none 0 0, .slice none 0 0, .bool false, .slice none 0 0] 48 ) := ⟨_, rfl⟩
  have hB1 : Below w.heap.size w W1 := by rw [hW1]; exact ((Below.refl _ _).alloc (Nat.le_refl _) _).alloc (by simp) _
  have hX : Has W1 w.heap.size 26 #[.slice a n q, .slice b m r, .bool t.firm] := by rw [hW1]; exact (Has.fresh _ _ _).past _
  have hU : Has W1 (w.heap.size + 1) 48 #[.slice none 0 0, .slice none 0 0, .bool false, .slice none 0 0] := by rw [hW1]; exact Has.fresh_at _ _ _ (by simp)
  have lX := hX.load_agg (P := Tryz.prog) (t := 26 ) Tryz.underlying26 rfl (by kernel_rfl)
  have hf := pfee_any (h.below hB1) hg a n q b m r t (ht.below hB1) hs (hK.below hB1)
  obtain ⟨fe, hfe⟩ : ∃ z, z = Cs.feeE M t := ⟨_, rfl⟩
  rw [← hfe, show errn fe = erro fe from if_neg (by rw [hfe]; exact hE)] at hf
  rw [← hfe]
  have HF := Lib.hid hf
  have HW := Lib.hid hW1
  have hbd := fun (w : World) => run_build (P := Tryz.prog) w 48 #[] #[.slice none 0 0, .slice none 0 0, .bool false, .slice none 0 0] (by kernel_rfl)
  clear hW1 hX h hg ht hs hK hE hfe hf
  go_enter Tryz.func15, Tryz.ntmps15
  go_upto_region 1 with fail
  rw [← HW.out]
  go_wp2_with (first
    | (refine wpList_store_mid rfl 48 (.tmp 4) (.tmp 18) rfl (w.heap.size + 1) 0 #[.slice none 0 0, .slice none 0 0, .bool false, .slice none 0 0] rfl rfl hth (by kernel_rfl) (und_one _ _ _ _ _ _ _ _ _ _) ?_)
    | (go_at_call 17; refine HF.out.mono ?_; rintro e w2 ⟨rfl, hb2⟩; have hU2 := hU.under hb2 hU.lt; have hth := hU2.there 0 4 (Nat.le_refl _))
    | (refine wpList_load_run rfl 26 (.tmp 3) rfl _ _ rfl lX ?_))
  have hE := hU2.whole_cs (cs2 := #[.slice none 0 0, .slice none 0 0, .bool false, .slice none 0 0]) rfl
  exact bodyPost_ret (results_cellslot rfl _ _ (w.heap.size + 1) rfl _ _ (hE.load_var Tryz.underlying48 rfl (by kernel_rfl)) rfl) rfl ⟨rfl, below_setAll (by omega) _ 0 (hB1.trans (hb2.mono hB1.size))⟩
set_option maxRecDepth 100000 in
set_option maxHeartbeats 8000000 in
theorem pdo_any {w : World} {g bm : Nat} {M : Cs.Mp} (h : SetB w g bm M) (hg : ∀ x, x ∈ M → Am.Good x.2.v) (a : Option Addr) (n q : Nat) (b : Option Addr) (m r : Nat) (t : Tx.T) (ht : TxAt w a n q b m r t) (hs : Tx.Small t) (hK : KDg w) :
    Calls Tryz.prog 15 #[.pointer (some ⟨g, 0, none⟩), txv a n q b m r t.firm] w fun e w' => ∃ (M' : Cs.Mp) (ua : Option Addr) (un uq : Nat) (ub : Option Addr) (um ur : Nat) (uc : Option Addr) (uk ul : Nat) (u : Tx.T) (sp : List Tx.Co),
      e = .returned (.tuple #[.agg #[.slice ua un uq, .slice ub um ur, .bool u.firm, .slice uc uk ul], errn (Cs.doE M (Tx.idOf false t) t)]) ∧ SetB w' g bm M' ∧ UndoAt w.heap.size w' (fun j => j = g ∨ j = bm) ua un uq ub um ur uc uk ul u sp ∧
      (Cs.doE M (Tx.idOf false t) t = 0 → M' = Cs.doM M (Tx.idOf false t) t ∧ u = t ∧ sp = Cs.spentOf M t) ∧ (¬ Cs.doE M (Tx.idOf false t) t = 0 → M' = M) ∧ Moved (fun j => j = bm) w w' := by
  by_cases hE : Cs.feeE M t = 0
  · obtain ⟨W1, hW1⟩ : ∃ ww, ww = (w.alloc (.cells #[.slice a n q, .slice b m r, .bool t.firm] 26 )).alloc (.cells #[.slice none 0 0, .slice none 0 0, .bool false, .slice none 0 0] 48 ) := ⟨_, rfl⟩
    have hB1 : Below w.heap.size w W1 := by rw [hW1]; exact ((Below.refl _ _).alloc (Nat.le_refl _) _).alloc (by simp) _
    have hX : Has W1 w.heap.size 26 #[.slice a n q, .slice b m r, .bool t.firm] := by rw [hW1]; exact (Has.fresh _ _ _).past _
    have hU : Has W1 (w.heap.size + 1) 48 #[.slice none 0 0, .slice none 0 0, .bool false, .slice none 0 0] := by rw [hW1]; exact Has.fresh_at _ _ _ (by simp)
    have lX0 := hX.load_agg (P := Tryz.prog) (t := 26 ) Tryz.underlying26 rfl (by kernel_rfl)
    have hn6 : n ≤ 1000000000 := by have := hs.1; have := ht.sp.1; omega
    have hm6 : m ≤ 1000000000 := by have := hs.2.1; have := ht.co.1; omega
    have hSN : SetN W1 (.pointer (some ⟨g, 0, none⟩)) (fun j => j = g ∨ j = bm) M := .inl ⟨g, bm, rfl, h.below hB1, rfl⟩
    have hf := pfee_any hSN hg a n q b m r t (ht.below hB1) hs (hK.below hB1)
    rw [hE, show errn 0 = Value.nilIface from rfl] at hf
    obtain ⟨fv, hfv⟩ : ∃ z, z = Cs.feeV M t := ⟨_, rfl⟩
    rw [← hfv] at hf
    obtain ⟨D, hD⟩ : ∃ D, D = Tx.idOf false t := ⟨_, rfl⟩
    obtain ⟨P, hP⟩ : ∃ P : List Cs.Pt, P = (Cs.ownL D t.co).map (·.1) := ⟨_, rfl⟩
    obtain ⟨L, hL⟩ : ∃ L, L = Cs.spentOf M t := ⟨_, rfl⟩
    obtain ⟨o, ho⟩ : ∃ o, o = P.any fun s => (Cs.look M s).isSome := ⟨_, rfl⟩
    have HDE := Lib.hid (show Cs.doE M D t = if o = true then 6 else 0 by
      unfold Cs.doE Cs.clash
      rw [if_pos hE, ho, hP, Cs.any_map])
    have HLL := Lib.hid (show L.length = n by rw [hL, Cs.spentOf, List.length_map, List.length_map, ht.sp.1])
    have HPM := Lib.hid (show P.length = m by rw [hP, List.length_map, Cs.ownL, List.length_mapIdx, ht.co.1])
    have HPL := Lib.hid (show (t.sp.map Cs.pt).length = n by rw [List.length_map, ht.sp.1])
    have HZ := Lib.hid (show Cs.putAll (Cs.delAll M (t.sp.map Cs.pt)) (P.zip t.co) = Cs.doM M D t by rw [hP, Cs.own_zip]; rfl)
    have HT := Lib.hid (ht.below hB1)
    have HS := Lib.hid (h.below hB1)
    have HX := Lib.hid hX
    have HU := Lib.hid hU
    have HB1 := Lib.hid hB1
    have HN := Lib.hid (And.intro hn6 hm6)
    have HOW := Lib.hid (show ∀ w', Below W1.heap.size W1 w' → Calls Tryz.prog 59 #[txv a n q b m r t.firm] w' fun e w2 => ∃ v, e = .returned v ∧ OwnR ptRec 36 w'.heap.size w2 v P ∧ Below w'.heap.size w' w2 from fun w' hb => by rw [hP, hD]; exact own_any a n q b m r t w' (HT.out.below hb) hs ((hK.below hB1).below hb))
    have HAN := Lib.hid (show ∀ w' oa oq, Below W1.heap.size W1 w' → Recs ptRec w' oa m P → Calls Tryz.prog 60 #[.pointer (some ⟨g, 0, none⟩), .slice oa m oq] w' fun e w2 => e = .returned (.bool o) ∧ Below w'.heap.size w' w2 from fun w' oa oq hb hr => ho ▸ phasany_any (hSN.below hb) oa m oq P hr)
    have HSC := Lib.hid (show ∀ w', Below W1.heap.size W1 w' → Calls Tryz.prog 62 #[.pointer (some ⟨g, 0, none⟩), txv a n q b m r t.firm] w' fun e w2 => ∃ v, e = .returned v ∧ OwnR coRec 39 w'.heap.size w2 v L ∧ Below w'.heap.size w' w2 from fun w' hb => hL ▸ spc_any a n q b m r t t.firm w' (HS.out.below hb) (HT.out.below hb) HN.out.1)
    have HSY := Lib.hid (show ∀ w', Below W1.heap.size W1 w' → Calls Tryz.prog 64 #[txv a n q b m r t.firm] w' fun e w2 => ∃ v, e = .returned v ∧ OwnR ptRec 36 w'.heap.size w2 v (t.sp.map Cs.pt) ∧ Below w'.heap.size w' w2 from fun w' hb => spby_any a n q b m r t t.firm w' (HT.out.below hb) HN.out.1)
    have HCY := Lib.hid (show ∀ w', Below W1.heap.size W1 w' → Calls Tryz.prog 61 #[txv a n q b m r t.firm] w' (CopyPost n m t w') from fun w' hb => pcopy_any a n q b m r t t.firm rfl w' (HT.out.below hb) HN.out.1 HN.out.2)
    have HF := Lib.hid hf
    have HW := Lib.hid hW1
    have hbd := fun (w : World) => run_build (P := Tryz.prog) w 48 #[] #[.slice none 0 0, .slice none 0 0, .bool false, .slice none 0 0] (by kernel_rfl)
    have hgb : g < w.heap.size ∧ bm < w.heap.size := ⟨h.has.lt, h.map.lt⟩
    have HGB := Lib.hid hgb
    rw [← hD, ← hL]
    clear hW1 hX hU h hg ht hs hK hE hf hfv hD hP hL ho hSN hB1 hn6 hm6 hgb
    go_enter Tryz.func15, Tryz.ntmps15
    go_upto_region 1 with fail
    rw [← HW.out]
    go_upto_region 4 with (first
      | (go_at_call 17; refine HF.out.mono ?_; rintro e w2 ⟨rfl, hb2⟩)
      | (refine wpList_load_run rfl 26 (.tmp 3) rfl _ _ rfl lX0 ?_))
    clear lX0
    have lX0 := (HX.out.under hb2 HX.out.lt).load_agg (P := Tryz.prog) (t := 26 ) Tryz.underlying26 rfl (by kernel_rfl)
    cases o
    · go_upto_region 7 with (first
        | (go_at_call 60; refine (HAN.out w3 oa oq (hb2.trans (hb3.mono hb2.size)) hro).mono ?_; rintro e w4 ⟨rfl, hb4⟩)
        | (go_at_call 59; refine (HOW.out w2 hb2).mono ?_; rintro e w3 ⟨v3, rfl, ho3, hb3⟩; obtain ⟨oa, oq, rfl, hoq, h0o, _, hro⟩ := ho3.shape HPM.out)
        | (refine wpList_load_run rfl 26 (.tmp 3) rfl _ _ rfl lX0 ?_))
      have hT4 := hb2.trans ((hb3.trans (hb4.mono hb3.size)).mono hb2.size)
      have hOW4 := (ho3.below hb4).low (B' := w.heap.size) (by have := HB1.out.size; have := hb2.size; omega)
      have HOWN := Lib.hid hOW4
      have HT4 := Lib.hid hT4
      clear lX0 hb2 hb3 ho3 hro hb4 hoq h0o hOW4
      refine wp_region_joinJ (fun vs w' => ∃ (ga : Nat) (ua : Option Addr) (uq : Nat) (ub : Option Addr) (ur : Nat) (sa : Option Addr) (sc : Nat), vs.take 1 = [.pointer (some ⟨ga, 0, none⟩)] ∧ Has w' ga 48 #[.slice ua n uq, .slice ub m ur, .bool t.firm, .slice sa n sc] ∧ TxOwn w4.heap.size w' ua n uq ub m ur t ∧ OwnR coRec 39 w4.heap.size w' (.slice sa n sc) L ∧ Below w4.heap.size w4 w' ∧ n ≤ sc ∧ (sa = none → sc = 0)) 9 24 ?_ ?_
      · obtain ⟨ws, hws⟩ : ∃ x, x = w4.drew := ⟨_, rfl⟩
        have hBws : Below w4.heap.size w4 ws := by rw [hws]; exact (Below.refl _ _).drew
        have hLws : w4.heap.size ≤ ws.heap.size := hBws.size
        have hXs := HX.out.under (hT4.trans (hBws.mono hT4.size)) HX.out.lt
        have lX := fun (wq : World) (hSw : Held ws wq) => (hXs.under hSw.below hXs.lt).load_agg (P := Tryz.prog) (t := 26 ) Tryz.underlying26 rfl (by kernel_rfl)
        have HCP := Lib.hid (fun (w' : World) (hb : Below ws.heap.size ws w') => HCY.out w' ((hT4.trans (hBws.mono hT4.size)).trans (hb.mono (hT4.trans (hBws.mono hT4.size)).size)))
        have HSP := Lib.hid (fun (w' : World) (hb : Below ws.heap.size ws w') => HSC.out w' ((hT4.trans (hBws.mono hT4.size)).trans (hb.mono (hT4.trans (hBws.mono hT4.size)).size)))
        refine wp_region_held_drew (S := Held ws) (by kernel_rfl) (by rw [hws]; exact Held.refl _) (fun hHeld => ?_)
        rw [← hws] at hHeld ⊢
        clear hws hT4
        refine take_at (v := ?_) 2 29 rfl rfl (by kernel_rfl) (by kernel_rfl) (by kernel_rfl) (fun _ _ _ h => h) hHeld (Or.inl ⟨by rfl, ?_⟩) rfl ?_
        rotate_left
        · intro wq hSw
          go_simp
          try with_reducible rfl
        simp only [List.set_cons_zero, List.set_cons_succ]
        refine take_at 0 27 rfl rfl (by kernel_rfl) (by kernel_rfl) (by kernel_rfl) (fun _ _ _ h => h) hHeld (yieldsIf_load_agg (by rfl) 26 (.tmp 3) rfl _ _ (by rfl) (fun wq hSw => lX wq hSw)) rfl ?_
        simp only [List.set_cons_zero, List.set_cons_succ]
        refine take_at 3 30 rfl rfl (by kernel_rfl) (by kernel_rfl) (by kernel_rfl) (fun _ _ _ h => h) hHeld (yieldsIf_load_agg (by rfl) 26 (.tmp 3) rfl _ _ (by rfl) (fun wq hSw => lX wq hSw)) rfl ?_
        simp only [List.set_cons_zero, List.set_cons_succ]
        have hBws0 : Below ws.heap.size ws ws := Below.refl _ _
        refine wpAnyH_ready (rs := [1, 6]) (by kernel_rfl) (by simp) ?_
        refine AllReadyH.cons rfl (fun K hK => ?_) (AllReadyH.cons rfl (fun K hK => ?_) AllReadyH.nil)
        · go_simp
          go_at_call 61
          refine (HCP.out ws hBws0).mono ?_
          rintro e wc ⟨ua, uq, ub, ur, rfl, hCwc, hbwc⟩
          have hBwc : Below ws.heap.size ws wc := hBws0.trans (hbwc.mono hBws0.size)
          replace hCwc := hCwc.low hBws0.size
          refine hK.out _ _ (Held.of hBwc) (fun _ => ?_)
          clear hK K
          try simp only [Act.put, List.setIfInBounds_toArray, List.set_cons_zero, List.set_cons_succ]
          replace hHeld := Held.of hBwc
          refine wpAnyH_ready (rs := [4, 6]) (by kernel_rfl) (by simp) ?_
          refine AllReadyH.cons rfl (fun K hK => ?_) (AllReadyH.cons rfl (fun K hK => ?_) AllReadyH.nil)
          · go_simp
            go_at_call 62
            refine (HSP.out wc hBwc).mono ?_
            rintro e wd ⟨v5, rfl, howd, hbwd⟩
            obtain ⟨sa, sc, rfl, hsc, h0s, _, _⟩ := howd.shape HLL.out
            have hBwd : Below ws.heap.size ws wd := hBwc.trans (hbwd.mono hBwc.size)
            have hCwd := hCwc.below hbwd
            replace howd := howd.low hBwc.size
            refine hK.out _ _ (Held.of hBwd) (fun _ => ?_)
            clear hK K
            try simp only [Act.put, List.setIfInBounds_toArray, List.set_cons_zero, List.set_cons_succ]
            replace hHeld := Held.of hBwd
            refine take_at (v := .agg #[.slice ua n uq, .slice ub m ur, .bool t.firm, .slice sa n sc] ) 5 32 rfl rfl (by kernel_rfl) (by kernel_rfl) (by kernel_rfl) (fun _ _ _ h => h) hHeld (Or.inl ⟨by rfl, fun wq _ => by
              have hst := run_build (P := Tryz.prog) wq 48 #[(0, .agg #[.slice ua n uq, .slice ub m ur, .bool t.firm]), (1, .slice sa n sc)] #[.slice ua n uq, .slice ub m ur, .bool t.firm, .slice sa n sc] (by kernel_rfl)
              go_simp⟩) rfl ?_
            simp only [List.set_cons_zero, List.set_cons_succ]
            refine wpAnyH_ready (rs := [6]) (by kernel_rfl) (by simp) ?_
            refine AllReadyH.cons rfl (fun K hK => ?_) AllReadyH.nil
            go_simp
            obtain ⟨we, hYwe⟩ : ∃ ww, ww = wd.alloc (.cells #[.slice none 0 0, .slice none 0 0, .bool false, .slice none 0 0] 48 ) := ⟨_, rfl⟩
            obtain ⟨ga, hga⟩ : ∃ x, x = wd.heap.size := ⟨_, rfl⟩
            rw [← hYwe, ← hga]
            have hbwe : Below wd.heap.size wd we := by rw [hYwe]; exact (Below.refl _ _).alloc (Nat.le_refl _) _
            have hAwe : Has we ga 48 #[.slice none 0 0, .slice none 0 0, .bool false, .slice none 0 0] := by rw [hYwe, hga]; exact Has.fresh _ _ _
            have hBwe : Below ws.heap.size ws we := hBwd.trans (hbwe.mono hBwd.size)
            have hLA : ws.heap.size ≤ ga := by rw [hga]; exact hBwd.size
            have hCwe := hCwd.below hbwe
            have howe := howd.below hbwe
            clear hYwe hga
            refine hK.out _ _ (Held.of hBwe) (fun _ => ?_)
            clear hK K
            try simp only [Act.put, List.setIfInBounds_toArray, List.set_cons_zero, List.set_cons_succ]
            replace hHeld := Held.of hBwe
            refine wpAnyH_ready (rs := [7]) (by kernel_rfl) (by simp) ?_
            refine AllReadyH.cons rfl (fun K hK => ?_) AllReadyH.nil
            refine step_store_row (by rfl) 48 (.tmp 9) (.tmp 32) rfl ga 0 #[.slice ua n uq, .slice ub m ur, .bool t.firm, .slice sa n sc] (by first | rfl | simp [Act.eval]) (by first | rfl | simp [Act.eval]) (hAwe.there 0 4 (Nat.le_refl _)) (by kernel_rfl) (und_one _ _ _ _ _ _ _ _ _ _) rfl ?_
            obtain ⟨wt, hwt⟩ : ∃ ww, ww = we.setCells ga 0 (#[.slice ua n uq, .slice ub m ur, .bool t.firm, .slice sa n sc] : Array Value).toList := ⟨_, rfl⟩
            rw [← hwt]
            have hAt : Has wt ga 48 #[.slice ua n uq, .slice ub m ur, .bool t.firm, .slice sa n sc] := by rw [hwt]; exact hAwe.whole_cs rfl
            have hmt : Moved (fun j => j = ga) we wt := by rw [hwt]; exact Moved.putAll (F := fun j => j = ga) (.inl rfl) _ 0 (Moved.refl _ _)
            have hBt : Below ws.heap.size ws wt := hBwe.trans (hmt.below (fun k hk => by omega) hBwe.size)
            have hCt : TxOwn ws.heap.size wt ua n uq ub m ur t := ⟨hCwe.sp.moved hmt (fun k hk e => by
              subst e
              obtain ⟨cs1, h1⟩ := ownr_block hCwe.sp hk
              exact Has.ne_type h1 hAwe (by decide) rfl), hCwe.co.moved hmt (fun k hk e => by
              subst e
              obtain ⟨cs1, h1⟩ := ownr_block hCwe.co hk
              exact Has.ne_type h1 hAwe (by decide) rfl)⟩
            have hot : OwnR coRec 39 ws.heap.size wt (.slice sa n sc) L := howe.moved hmt (fun k hk e => by
              subst e
              obtain ⟨cs1, h1⟩ := ownr_block howe hk
              exact Has.ne_type h1 hAwe (by decide) rfl)
            clear hwt
            refine hK.out _ _ (Held.of hBt) (fun _ => ?_)
            clear hK K
            try simp only [Act.put]
            refine wpAnyH_done (by kernel_rfl) ?_ _
            exact ⟨⟨ga, ua, uq, ub, ur, sa, sc, rfl, hAt, hCt.low hLws, hot.low hLws, hBws.trans (hBt.mono hLws), hsc, h0s⟩, rfl, rfl⟩
          · go_simp
            obtain ⟨wd, hYwd⟩ : ∃ ww, ww = wc.alloc (.cells #[.slice none 0 0, .slice none 0 0, .bool false, .slice none 0 0] 48 ) := ⟨_, rfl⟩
            obtain ⟨ga, hga⟩ : ∃ x, x = wc.heap.size := ⟨_, rfl⟩
            rw [← hYwd, ← hga]
            have hbwd : Below wc.heap.size wc wd := by rw [hYwd]; exact (Below.refl _ _).alloc (Nat.le_refl _) _
            have hAwd : Has wd ga 48 #[.slice none 0 0, .slice none 0 0, .bool false, .slice none 0 0] := by rw [hYwd, hga]; exact Has.fresh _ _ _
            have hBwd : Below ws.heap.size ws wd := hBwc.trans (hbwd.mono hBwc.size)
            have hLA : ws.heap.size ≤ ga := by rw [hga]; exact hBwc.size
            have hCwd := hCwc.below hbwd
            clear hYwd hga
            refine hK.out _ _ (Held.of hBwd) (fun _ => ?_)
            clear hK K
            try simp only [Act.put, List.setIfInBounds_toArray, List.set_cons_zero, List.set_cons_succ]
            replace hHeld := Held.of hBwd
            refine wpAnyH_ready (rs := [4]) (by kernel_rfl) (by simp) ?_
            refine AllReadyH.cons rfl (fun K hK => ?_) AllReadyH.nil
            go_simp
            go_at_call 62
            refine (HSP.out wd hBwd).mono ?_
            rintro e we ⟨v5, rfl, howe, hbwe⟩
            obtain ⟨sa, sc, rfl, hsc, h0s, _, _⟩ := howe.shape HLL.out
            have hBwe : Below ws.heap.size ws we := hBwd.trans (hbwe.mono hBwd.size)
            have hCwe := hCwd.below hbwe
            have hAwe := hAwd.under hbwe hAwd.lt
            replace howe := howe.low hBwd.size
            refine hK.out _ _ (Held.of hBwe) (fun _ => ?_)
            clear hK K
            try simp only [Act.put, List.setIfInBounds_toArray, List.set_cons_zero, List.set_cons_succ]
            replace hHeld := Held.of hBwe
            refine take_at (v := .agg #[.slice ua n uq, .slice ub m ur, .bool t.firm, .slice sa n sc] ) 5 32 rfl rfl (by kernel_rfl) (by kernel_rfl) (by kernel_rfl) (fun _ _ _ h => h) hHeld (Or.inl ⟨by rfl, fun wq _ => by
              have hst := run_build (P := Tryz.prog) wq 48 #[(0, .agg #[.slice ua n uq, .slice ub m ur, .bool t.firm]), (1, .slice sa n sc)] #[.slice ua n uq, .slice ub m ur, .bool t.firm, .slice sa n sc] (by kernel_rfl)
              go_simp⟩) rfl ?_
            simp only [List.set_cons_zero, List.set_cons_succ]
            refine wpAnyH_ready (rs := [7]) (by kernel_rfl) (by simp) ?_
            refine AllReadyH.cons rfl (fun K hK => ?_) AllReadyH.nil
            refine step_store_row (by rfl) 48 (.tmp 9) (.tmp 32) rfl ga 0 #[.slice ua n uq, .slice ub m ur, .bool t.firm, .slice sa n sc] (by first | rfl | simp [Act.eval]) (by first | rfl | simp [Act.eval]) (hAwe.there 0 4 (Nat.le_refl _)) (by kernel_rfl) (und_one _ _ _ _ _ _ _ _ _ _) rfl ?_
            obtain ⟨wt, hwt⟩ : ∃ ww, ww = we.setCells ga 0 (#[.slice ua n uq, .slice ub m ur, .bool t.firm, .slice sa n sc] : Array Value).toList := ⟨_, rfl⟩
            rw [← hwt]
            have hAt : Has wt ga 48 #[.slice ua n uq, .slice ub m ur, .bool t.firm, .slice sa n sc] := by rw [hwt]; exact hAwe.whole_cs rfl
            have hmt : Moved (fun j => j = ga) we wt := by rw [hwt]; exact Moved.putAll (F := fun j => j = ga) (.inl rfl) _ 0 (Moved.refl _ _)
            have hBt : Below ws.heap.size ws wt := hBwe.trans (hmt.below (fun k hk => by omega) hBwe.size)
            have hCt : TxOwn ws.heap.size wt ua n uq ub m ur t := ⟨hCwe.sp.moved hmt (fun k hk e => by
              subst e
              obtain ⟨cs1, h1⟩ := ownr_block hCwe.sp hk
              exact Has.ne_type h1 hAwe (by decide) rfl), hCwe.co.moved hmt (fun k hk e => by
              subst e
              obtain ⟨cs1, h1⟩ := ownr_block hCwe.co hk
              exact Has.ne_type h1 hAwe (by decide) rfl)⟩
            have hot : OwnR coRec 39 ws.heap.size wt (.slice sa n sc) L := howe.moved hmt (fun k hk e => by
              subst e
              obtain ⟨cs1, h1⟩ := ownr_block howe hk
              exact Has.ne_type h1 hAwe (by decide) rfl)
            clear hwt
            refine hK.out _ _ (Held.of hBt) (fun _ => ?_)
            clear hK K
            try simp only [Act.put]
            refine wpAnyH_done (by kernel_rfl) ?_ _
            exact ⟨⟨ga, ua, uq, ub, ur, sa, sc, rfl, hAt, hCt.low hLws, hot.low hLws, hBws.trans (hBt.mono hLws), hsc, h0s⟩, rfl, rfl⟩
        · go_simp
          obtain ⟨wc, hYwc⟩ : ∃ ww, ww = ws.alloc (.cells #[.slice none 0 0, .slice none 0 0, .bool false, .slice none 0 0] 48 ) := ⟨_, rfl⟩
          obtain ⟨ga, hga⟩ : ∃ x, x = ws.heap.size := ⟨_, rfl⟩
          rw [← hYwc, ← hga]
          have hbwc : Below ws.heap.size ws wc := by rw [hYwc]; exact (Below.refl _ _).alloc (Nat.le_refl _) _
          have hAwc : Has wc ga 48 #[.slice none 0 0, .slice none 0 0, .bool false, .slice none 0 0] := by rw [hYwc, hga]; exact Has.fresh _ _ _
          have hBwc : Below ws.heap.size ws wc := hBws0.trans (hbwc.mono hBws0.size)
          have hLA : ws.heap.size ≤ ga := by rw [hga]; exact hBws0.size
          clear hYwc hga
          refine hK.out _ _ (Held.of hBwc) (fun _ => ?_)
          clear hK K
          try simp only [Act.put, List.setIfInBounds_toArray, List.set_cons_zero, List.set_cons_succ]
          replace hHeld := Held.of hBwc
          refine wpAnyH_ready (rs := [1]) (by kernel_rfl) (by simp) ?_
          refine AllReadyH.cons rfl (fun K hK => ?_) AllReadyH.nil
          go_simp
          go_at_call 61
          refine (HCP.out wc hBwc).mono ?_
          rintro e wd ⟨ua, uq, ub, ur, rfl, hCwd, hbwd⟩
          have hBwd : Below ws.heap.size ws wd := hBwc.trans (hbwd.mono hBwc.size)
          have hAwd := hAwc.under hbwd hAwc.lt
          replace hCwd := hCwd.low hBwc.size
          refine hK.out _ _ (Held.of hBwd) (fun _ => ?_)
          clear hK K
          try simp only [Act.put, List.setIfInBounds_toArray, List.set_cons_zero, List.set_cons_succ]
          replace hHeld := Held.of hBwd
          refine wpAnyH_ready (rs := [4]) (by kernel_rfl) (by simp) ?_
          refine AllReadyH.cons rfl (fun K hK => ?_) AllReadyH.nil
          go_simp
          go_at_call 62
          refine (HSP.out wd hBwd).mono ?_
          rintro e we ⟨v5, rfl, howe, hbwe⟩
          obtain ⟨sa, sc, rfl, hsc, h0s, _, _⟩ := howe.shape HLL.out
          have hBwe : Below ws.heap.size ws we := hBwd.trans (hbwe.mono hBwd.size)
          have hCwe := hCwd.below hbwe
          have hAwe := hAwd.under hbwe hAwd.lt
          replace howe := howe.low hBwd.size
          refine hK.out _ _ (Held.of hBwe) (fun _ => ?_)
          clear hK K
          try simp only [Act.put, List.setIfInBounds_toArray, List.set_cons_zero, List.set_cons_succ]
          replace hHeld := Held.of hBwe
          refine take_at (v := .agg #[.slice ua n uq, .slice ub m ur, .bool t.firm, .slice sa n sc] ) 5 32 rfl rfl (by kernel_rfl) (by kernel_rfl) (by kernel_rfl) (fun _ _ _ h => h) hHeld (Or.inl ⟨by rfl, fun wq _ => by
            have hst := run_build (P := Tryz.prog) wq 48 #[(0, .agg #[.slice ua n uq, .slice ub m ur, .bool t.firm]), (1, .slice sa n sc)] #[.slice ua n uq, .slice ub m ur, .bool t.firm, .slice sa n sc] (by kernel_rfl)
            go_simp⟩) rfl ?_
          simp only [List.set_cons_zero, List.set_cons_succ]
          refine wpAnyH_ready (rs := [7]) (by kernel_rfl) (by simp) ?_
          refine AllReadyH.cons rfl (fun K hK => ?_) AllReadyH.nil
          refine step_store_row (by rfl) 48 (.tmp 9) (.tmp 32) rfl ga 0 #[.slice ua n uq, .slice ub m ur, .bool t.firm, .slice sa n sc] (by first | rfl | simp [Act.eval]) (by first | rfl | simp [Act.eval]) (hAwe.there 0 4 (Nat.le_refl _)) (by kernel_rfl) (und_one _ _ _ _ _ _ _ _ _ _) rfl ?_
          obtain ⟨wt, hwt⟩ : ∃ ww, ww = we.setCells ga 0 (#[.slice ua n uq, .slice ub m ur, .bool t.firm, .slice sa n sc] : Array Value).toList := ⟨_, rfl⟩
          rw [← hwt]
          have hAt : Has wt ga 48 #[.slice ua n uq, .slice ub m ur, .bool t.firm, .slice sa n sc] := by rw [hwt]; exact hAwe.whole_cs rfl
          have hmt : Moved (fun j => j = ga) we wt := by rw [hwt]; exact Moved.putAll (F := fun j => j = ga) (.inl rfl) _ 0 (Moved.refl _ _)
          have hBt : Below ws.heap.size ws wt := hBwe.trans (hmt.below (fun k hk => by omega) hBwe.size)
          have hCt : TxOwn ws.heap.size wt ua n uq ub m ur t := ⟨hCwe.sp.moved hmt (fun k hk e => by
            subst e
            obtain ⟨cs1, h1⟩ := ownr_block hCwe.sp hk
            exact Has.ne_type h1 hAwe (by decide) rfl), hCwe.co.moved hmt (fun k hk e => by
            subst e
            obtain ⟨cs1, h1⟩ := ownr_block hCwe.co hk
            exact Has.ne_type h1 hAwe (by decide) rfl)⟩
          have hot : OwnR coRec 39 ws.heap.size wt (.slice sa n sc) L := howe.moved hmt (fun k hk e => by
            subst e
            obtain ⟨cs1, h1⟩ := ownr_block howe hk
            exact Has.ne_type h1 hAwe (by decide) rfl)
          clear hwt
          refine hK.out _ _ (Held.of hBt) (fun _ => ?_)
          clear hK K
          try simp only [Act.put]
          refine wpAnyH_done (by kernel_rfl) ?_ _
          exact ⟨⟨ga, ua, uq, ub, ur, sa, sc, rfl, hAt, hCt.low hLws, hot.low hLws, hBws.trans (hBt.mono hLws), hsc, h0s⟩, rfl, rfl⟩
      · intro vs w6 hvs hJ
        obtain ⟨ga, ua, uq, ub, ur, sa, sc, htk, hA6, hC6, hS6, hb6, hsc, h0s⟩ := hJ
        obtain ⟨x0, x1, x2, x3, x4, x5, x6, x7, x8, x9, x10, x11, x12, x13, x14, x15, x16, x17, x18, x19, x20, x21, x22, x23, rfl⟩ := list24 hvs
        obtain rfl : x0 = .pointer (some ⟨ga, 0, none⟩) := by simpa using htk
        clear htk hvs
        simp only [List.take_succ_cons, List.take_zero, List.drop_succ_cons, List.drop_zero, List.cons_append, List.nil_append]
        go_upto_region 8 with fail
        obtain ⟨wy, hwy⟩ : ∃ x, x = w6.drew := ⟨_, rfl⟩
        have hb6y : Below w6.heap.size w6 wy := by rw [hwy]; exact (Below.refl _ _).drew
        have hT6 := HT4.out.trans (hb6.mono HT4.out.size)
        have hTy := hT6.trans (hb6y.mono hT6.size)
        have hXy := HX.out.under hTy HX.out.lt
        have hSy := HS.out.below hTy
        have hNX : ¬ w.heap.size = bm := fun e => by have := HGB.out.2; omega
        have hAy := hA6.under hb6y hA6.lt
        have hNA : ¬ ga = bm := has_ne_map hAy hSy.map
        have hOWy := (HOWN.out.below hb6).below hb6y
        have hCy := hC6.below hb6y
        have hSpy := hS6.below hb6y
        have lX9 := fun (wq : World) (hSw : HeldM (fun j => j = bm) wy wq) => (hXy.moved hSw.out hNX).load_agg (P := Tryz.prog) (t := 26 ) Tryz.underlying26 rfl (by kernel_rfl)
        have c1 := fun (wq : World) (hSw : HeldM (fun j => j = bm) wy wq) => (hXy.moved hSw.out hNX).cell_at (i := 1) (v := .slice b m r) rfl
        have HSB := Lib.hid (HSY.out wy hTy)
        refine wp_region_held_drew (S := HeldM (fun j => j = bm) wy) (by kernel_rfl) (by rw [hwy]; exact HeldM.refl _ _) (fun hHeld => ?_)
        rw [← hwy] at hHeld ⊢
        clear hwy
        refine take_at (v := ?_) 0 33 rfl rfl (by kernel_rfl) (by kernel_rfl) (by kernel_rfl) (fun _ _ _ h => h) hHeld (Or.inl ⟨by rfl, ?_⟩) rfl ?_
        rotate_left
        · intro wq hSw
          go_simp
          try with_reducible rfl
        simp only [List.set_cons_zero, List.set_cons_succ]
        refine take_at 1 34 rfl rfl (by kernel_rfl) (by kernel_rfl) (by kernel_rfl) (fun _ _ _ h => h) hHeld (yieldsIf_load_agg (by rfl) 26 (.tmp 3) rfl _ _ (by rfl) (fun wq hSw => lX9 wq hSw)) rfl ?_
        simp only [List.set_cons_zero, List.set_cons_succ]
        refine take_at (v := ?_) 3 36 rfl rfl (by kernel_rfl) (by kernel_rfl) (by kernel_rfl) (fun _ _ _ h => h) hHeld (Or.inl ⟨by rfl, ?_⟩) rfl ?_
        rotate_left
        · intro wq hSw
          go_simp
          try with_reducible rfl
        simp only [List.set_cons_zero, List.set_cons_succ]
        refine take_at (v := ?_) 4 37 rfl rfl (by kernel_rfl) (by kernel_rfl) (by kernel_rfl) (fun _ _ _ h => h) hHeld (Or.inl ⟨by rfl, ?_⟩) rfl ?_
        rotate_left
        · intro wq hSw
          go_simp
          try with_reducible rfl
        simp only [List.set_cons_zero, List.set_cons_succ]
        refine take_at (v := ?_) 5 38 rfl rfl (by kernel_rfl) (by kernel_rfl) (by kernel_rfl) (fun _ _ _ h => h) hHeld (Or.inl ⟨by rfl, ?_⟩) rfl ?_
        rotate_left
        · intro wq hSw
          have hst := c1 wq hSw
          go_simp
          try with_reducible rfl
        simp only [List.set_cons_zero, List.set_cons_succ]
        refine wpAnyH_ready (rs := [2]) (by kernel_rfl) (by simp) ?_
        refine AllReadyH.cons rfl (fun K hK => ?_) AllReadyH.nil
        go_simp
        go_at_call 64
        refine HSB.out.mono ?_
        rintro e wz ⟨v9, rfl, ho9, hb9⟩
        obtain ⟨pa, pc, rfl, hpc, h0p, _, hrp⟩ := ho9.shape HPL.out
        refine hK.out _ _ (HeldM.of (Moved.of_below hb9)) (fun _ => ?_)
        clear hK K
        try simp only [Act.put, List.setIfInBounds_toArray, List.set_cons_zero, List.set_cons_succ]
        replace hHeld := HeldM.of (Moved.of_below (F := (fun j => j = bm) ) hb9)
        refine wpAnyH_ready (rs := [6]) (by kernel_rfl) (by simp) ?_
        refine AllReadyH.cons rfl (fun K hK => ?_) AllReadyH.nil
        go_simp
        go_at_call 63
        refine (pexch_any (hSy.below hb9) pa n pc _ hrp oa m oq _ (hOWy.recs.1.below hb9) b m r t.co ((HT.out.below hTy).co.below hb9) rfl).mono ?_
        rintro e wx ⟨rfl, hSx, hmx⟩
        have hmyx : Moved (fun j => j = bm) wy wx := (Moved.of_below hb9).trans hmx (fun k hk => .inl hk)
        refine hK.out _ _ (HeldM.of hmyx) (fun _ => ?_)
        clear hK K
        try simp only [Act.put, List.setIfInBounds_toArray, List.set_cons_zero, List.set_cons_succ]
        replace hHeld := HeldM.of hmyx
        refine wpAnyH_done (by kernel_rfl) ?_ _
        have hSx2 := HZ.out ▸ hSx
        have hAx := hAy.moved hmyx hNA
        have lA := hAx.load_agg (P := Tryz.prog) (t := 48 ) Tryz.underlying48 rfl (by kernel_rfl)
        have hUx := (HU.out.under hTy HU.out.lt).moved hmyx (fun e => by have := HGB.out.2; omega)
        go_wp2_with (first
          | (refine wpList_load_run rfl 48 (.tmp 9) rfl _ _ rfl lA ?_)
          | (refine wpList_store_mid rfl 48 (.tmp 4) (.tmp 40) rfl (w.heap.size + 1) 0 #[.slice ua n uq, .slice ub m ur, .bool t.firm, .slice sa n sc] rfl rfl (hUx.there 0 4 (Nat.le_refl _)) (by kernel_rfl) (und_one _ _ _ _ _ _ _ _ _ _) ?_))
        have hE0 : Cs.doE M D t = 0 := HDE.out
        have hUE := hUx.whole_cs (cs2 := #[.slice ua n uq, .slice ub m ur, .bool t.firm, .slice sa n sc]) rfl
        have hW4 : w.heap.size + 1 < w4.heap.size := by have := HT4.out.size; have := HU.out.lt; omega
        have hmw : Moved (fun j => j = bm) w (wx.setCells (w.heap.size + 1) 0 (#[.slice ua n uq, .slice ub m ur, .bool t.firm, .slice sa n sc] : Array Value).toList) :=
          ((Moved.of_below (F := fun j => j = bm) (HB1.out.trans (hTy.mono HB1.out.size))).trans hmyx (fun k hk => .inl hk)).trans (Moved.putAll (F := fun j => j = w.heap.size + 1) (.inl rfl) _ 0 (Moved.refl _ _)) (fun k hk => .inr (by omega))
        have hmv : ∀ {α : Type} {R : Rec α} {T : TypeId} {v : Value} {Z : List α}, OwnR R T w4.heap.size wy v Z → OwnR R T w.heap.size (wx.setCells (w.heap.size + 1) 0 (#[.slice ua n uq, .slice ub m ur, .bool t.firm, .slice sa n sc] : Array Value).toList) v Z := fun ho =>
          ((ho.moved hmyx (fun k hk e => by have := ho.lt k hk; have := HGB.out.2; omega)).moved (Moved.putAll (F := fun j => j = w.heap.size + 1) (.inl rfl) _ 0 (Moved.refl _ _)) (fun k hk e => by have := ho.lt k hk; omega)).low (by omega)
        have hno : ∀ {α : Type} {R : Rec α} {T : TypeId} {v : Value} {Z : List α}, OwnR R T w4.heap.size wy v Z → ∀ j, v.ownBlock = some j → ¬ (j = g ∨ j = bm) := fun ho j hj e => by
          have := ho.lt j hj
          have := HGB.out
          omega
        refine bodyPost_ret (results_cellslot rfl _ _ (w.heap.size + 1) rfl _ _ (hUE.load_var Tryz.underlying48 rfl (by kernel_rfl)) rfl) rfl ⟨Cs.doM M D t, ua, n, uq, ub, m, ur, sa, n, sc, t, L, by rw [hE0]; rfl, ?_, ⟨⟨hmv hCy.sp, hmv hCy.co⟩, hmv hSpy, hno hCy.sp, hno hCy.co, hno hSpy⟩, fun _ => ⟨rfl, rfl, rfl⟩, fun h => absurd hE0 h, hmw⟩
        exact hSx2.under_set (by have := HGB.out; omega) (by have := HGB.out; omega)
    · have hE6 : Cs.doE M D t = 6 := HDE.out
      go_wp2_with (first
        | (refine wpList_store_mid rfl 48 (.tmp 4) (.tmp 25) rfl (w.heap.size + 1) 0 #[.slice none 0 0, .slice none 0 0, .bool false, .slice none 0 0] rfl rfl hth (by kernel_rfl) (und_one _ _ _ _ _ _ _ _ _ _) ?_)
        | (go_at_call 60; refine (HAN.out w3 oa oq (hb2.trans (hb3.mono hb2.size)) hro).mono ?_; rintro e w4 ⟨rfl, hb4⟩; have hU4 := HU.out.under (hb2.trans ((hb3.trans (hb4.mono hb3.size)).mono hb2.size)) HU.out.lt; have hth := hU4.there 0 4 (Nat.le_refl _))
        | (go_at_call 59; refine (HOW.out w2 hb2).mono ?_; rintro e w3 ⟨v3, rfl, ho3, hb3⟩; obtain ⟨oa, oq, rfl, hoq, h0o, _, hro⟩ := ho3.shape HPM.out)
        | (refine wpList_load_run rfl 26 (.tmp 3) rfl _ _ rfl lX0 ?_))
      have hUE := hU4.whole_cs (cs2 := #[.slice none 0 0, .slice none 0 0, .bool false, .slice none 0 0]) rfl
      have hT4 := hb2.trans ((hb3.trans (hb4.mono hb3.size)).mono hb2.size)
      have hTw := HB1.out.trans (hT4.mono HB1.out.size)
      have hBe : Below w.heap.size w _ := below_setAll (g := w.heap.size + 1) (by omega) (#[.slice none 0 0, .slice none 0 0, .bool false, .slice none 0 0] : Array Value).toList 0 hTw
      refine bodyPost_ret (results_cellslot rfl _ _ (w.heap.size + 1) rfl _ _ (hUE.load_var Tryz.underlying48 rfl (by kernel_rfl)) rfl) rfl ⟨M, none, 0, 0, none, 0, 0, none, 0, 0, ⟨[], [], false⟩, [], by rw [hE6]; rfl, ?_, ⟨⟨OwnR.nil _ _ _ _, OwnR.nil _ _ _ _⟩, OwnR.nil _ _ _ _, fun j hj => by (cases hj), fun j hj => by (cases hj), fun j hj => by (cases hj)⟩, fun h => by rw [hE6] at h; exact absurd h (by decide), fun _ => rfl, Moved.of_below hBe⟩
      exact (SetB.mk (HS.out.has) HS.out.map : SetB W1 g bm M).below hT4 |>.under_set (by have := HGB.out; omega) (by have := HGB.out; omega)
  · have hE2 : Cs.doE M (Tx.idOf false t) t = Cs.feeE M t := by unfold Cs.doE; exact if_neg hE
    refine (pdo_fail (F := fun j => j = g ∨ j = bm) (.inl ⟨g, bm, rfl, h, rfl⟩) hg a n q b m r t ht hs hK hE).mono ?_
    rintro e w' ⟨rfl, hb⟩
    exact ⟨M, none, 0, 0, none, 0, 0, none, 0, 0, ⟨[], [], false⟩, [], by rw [hE2, show errn (Cs.feeE M t) = erro (Cs.feeE M t) from if_neg hE], h.below hb, ⟨⟨OwnR.nil _ _ _ _, OwnR.nil _ _ _ _⟩, OwnR.nil _ _ _ _, fun j hj => by (cases hj), fun j hj => by (cases hj), fun j hj => by (cases hj)⟩, fun h => by rw [hE2] at h; exact absurd h hE, fun _ => rfl, Moved.of_below hb⟩
end Go.Proofs.YtdfplenniamnoaaGreatDoor
