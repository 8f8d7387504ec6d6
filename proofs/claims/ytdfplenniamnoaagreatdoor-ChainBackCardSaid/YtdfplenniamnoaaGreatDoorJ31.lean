/- package chain: Connect (mkchj.py) -/
import Derived.Test.YtdfplenniamnoaaGreatDoorJ30
/-! package chain: Connect (mkchj.py) -/
namespace Go.Proofs.YtdfplenniamnoaaGreatDoor
open Go Go.RowKit Go.ChangeShapes Go.WideShapes
/-- a region whose orders end alike but for what J leaves open: n slots from lo on, k more behind mid others -/
theorem wp_region_joinK {P : Program} {id : Nat} {ops : Array Oper} {b : Bool} {Q : Exit → Act → World → Prop} {a : Act} {w : World} (J : List Value → List Value → World → Prop) (lo n mid k : Nat)
    (h : (Code.region id ops b).wp P (Exit.then (fun s w' => ∃ m1 m2, J m1 m2 w' ∧ m1.length = n ∧ m2.length = k ∧ s = ⟨(a.tmps.toList.take lo ++ m1 ++ (a.tmps.toList.drop (lo + n)).take mid ++ m2 ++ a.tmps.toList.drop (lo + n + mid + k)).toArray, a.defers⟩) (fun _ _ _ => False)) a w)
    (q : ∀ (m1 m2 : List Value) (w' : World), m1.length = n → m2.length = k → J m1 m2 w' → Q .normal ⟨(a.tmps.toList.take lo ++ m1 ++ (a.tmps.toList.drop (lo + n)).take mid ++ m2 ++ a.tmps.toList.drop (lo + n + mid + k)).toArray, a.defers⟩ w') : (Code.region id ops b).wp P Q a w :=
  Code.wp_mono (fun e s w' he => by
    cases e <;> first
      | (obtain ⟨m1, m2, hJ, h1, h2, hs⟩ := he; rw [hs]; exact q _ _ _ h1 h2 hJ)
      | exact (he : False).elim) h
theorem list9 {vs : List Value} (h : vs.length = 9) : ∃ a b c d e f g i j, vs = [a, b, c, d, e, f, g, i, j] := by
  match vs, h with
  | [a, b, c, d, e, f, g, i, j], _ => exact ⟨a, b, c, d, e, f, g, i, j, rfl⟩
theorem cells_map2 {w w' : World} {b g : Nat} {M : Cs.Mp} (hm : Moved (fun j => j = b ∨ j = g) w w') (hM : MapAt w b M) (p : Addr) (hp : (w.cell? p).isSome = true) (hne : p.block ≠ g) : w'.cell? p = w.cell? p := by
  refine World.cell?_of_block (hm.block _ (isSome_lt hp) (fun e => ?_))
  rcases e with e | e
  · obtain ⟨es, clock, hb, _⟩ := hM
    unfold World.cell? at hp
    rw [e, hb] at hp
    simp at hp
  · exact hne e
theorem Tab32.map2 {w w' : World} {b g T : Nat} {M : Cs.Mp} {L : List (BitVec 32)} (h : Tab32 w T L) (hm : Moved (fun j => j = b ∨ j = g) w w') (hM : MapAt w b M) (hg : T ≠ g) : Tab32 w' T L := fun i hi => (cells_map2 hm hM _ (by rw [h i hi]; rfl) hg).trans (h i hi)
theorem KDg.lt {w : World} (h : KDg w) : 2 < w.heap.size ∧ 0 < w.heap.size := ⟨h.1.lt (by decide), h.2.lt (by decide)⟩
theorem KDg.map2 {w w' : World} {b g : Nat} {M : Cs.Mp} (h : KDg w) (hm : Moved (fun j => j = b ∨ j = g) w w') (hM : MapAt w b M) (hg : 2 ≠ g ∧ 0 ≠ g) : KDg w' := ⟨h.1.map2 hm hM hg.1, h.2.map2 hm hM hg.2⟩
/-- what Connect answers -/
def ConPost (D : Nat) (w0 : World) (g sg sb : Nat) (F G : Nat → Prop) (M0 M : Cs.Mp) (X : List Ch.L) (b : Ch.B) (e : Ending) (w' : World) : Prop :=
  ∃ (F' G' : Nat → Prop) (la' : Option Addr) (lq' : Nat) (M' : Cs.Mp) (X' : List Ch.L), e = .returned (errn (Ch.conE M X b.prev b.h (Ch.tsOf b.vs))) ∧ ChAt D w' g sg sb F' G' la' lq' M0 M' X' ∧ Moved F w0 w' ∧ (∀ j, F' j → F j ∨ w0.heap.size ≤ j) ∧ (∀ j, G' j → G j ∨ w0.heap.size ≤ j) ∧
    (Ch.conE M X b.prev b.h (Ch.tsOf b.vs) = 0 → ∃ l : Ch.L, X' = X ++ [l] ∧ l.b.prev = b.prev ∧ l.b.h = b.h ∧ Ch.tsOf l.b.vs = Ch.tsOf b.vs ∧ Ch.csOf l.ss = Ch.spN M (Ch.tsOf b.vs) b.n ∧ M' = Ch.doN M (Ch.tsOf b.vs) b.n) ∧
    (¬ Ch.conE M X b.prev b.h (Ch.tsOf b.vs) = 0 → X' = X ∧ ∀ q, Cs.look M' q = Cs.look M q)
theorem ConPost.no {D : Nat} {w0 w' : World} {g sg sb : Nat} {F G : Nat → Prop} {la : Option Addr} {lq : Nat} {M0 M : Cs.Mp} {X : List Ch.L} {b : Ch.B} {z : Int} (h : ChAt D w' g sg sb F G la lq M0 M X) (hm : Moved F w0 w') (hz : Ch.conE M X b.prev b.h (Ch.tsOf b.vs) = z) (h0 : ¬ z = 0) : ConPost D w0 g sg sb F G M0 M X b (.returned (erro z)) w' := by
  refine ⟨F, G, la, lq, M, X, ?_, h, hm, (fun j e => .inl e), (fun j e => .inl e), fun e => absurd (hz.symm.trans e) h0, fun _ => ⟨rfl, fun _ => rfl⟩⟩
  rw [hz]
  exact congrArg Ending.returned (if_neg h0).symm
set_option maxRecDepth 100000 in
set_option maxHeartbeats 8000000 in
theorem pconn_any {D : Nat} {w : World} {g sg sb : Nat} {F G : Nat → Prop} {la : Option Addr} {lq : Nat} {M0 M : Cs.Mp} {X : List Ch.L} (h : ChAt D w g sg sb F G la lq M0 M X) (hX : X.length ≤ 100000) (b : Ch.B) (hb : b.At w) (hs : ∀ x, x ∈ b.vs → Tx.Small x.t) (hK : KDg w) (hDw : D ≤ w.heap.size) :
    Calls Tryz.prog 35 #[.pointer (some ⟨g, 0, none⟩), .agg (bkCells b).toArray] w (ConPost D w g sg sb F G M0 M X b) := by
  obtain ⟨W1, hW1⟩ : ∃ ww, ww = w.alloc (.cells (bkCells b).toArray 79) := ⟨_, rfl⟩
  have hB1 : Below w.heap.size w W1 := by rw [hW1]; exact (Below.refl _ _).alloc (Nat.le_refl _) _
  have hX1 : Has W1 w.heap.size 79 (bkCells b).toArray := by rw [hW1]; exact Has.fresh _ _ _
  have lB := hX1.load_agg (P := Tryz.prog) (t := 79) Tryz.underlying79 rfl (bkRec.size_eq size_bk hb.p)
  have HCK := Lib.hid (pchk_any b W1 (hb.below hB1) (fun _ => hs) (hK.below hB1))
  have HC := Lib.hid h
  have HXL := Lib.hid hX
  have HBA := Lib.hid (hb.below hB1)
  have HSM := Lib.hid hs
  have HK := Lib.hid (hK.below hB1)
  have HX := Lib.hid hX1
  have HB1 := Lib.hid hB1
  have HW1 := Lib.hid hW1
  have HP := Lib.hid hb.p
  obtain ⟨TS, hTS⟩ : ∃ t, t = Ch.tsOf b.vs := ⟨_, rfl⟩
  obtain ⟨c, hc⟩ : ∃ c, c = Ch.chk b.h (Ch.tsOf b.vs) := ⟨_, rfl⟩
  have HTS := Lib.hid hTS
  have HCC := Lib.hid (show c = Ch.chk b.h TS by rw [hc, hTS])
  obtain ⟨gb, hgb⟩ : ∃ x, x = w.heap.size := ⟨_, rfl⟩
  have HGB := Lib.hid hgb
  rw [← hc] at HCK
  rw [← hgb] at lB HX
  clear hW1 hB1 hX1 h hX hb hs hK hTS hc hgb
  go_enter Tryz.func35, Tryz.ntmps35
  go_upto_region 1 with fail
  rw [← HW1.out, ← HGB.out]
  by_cases h0 : c = 0
  · have HE0 := Lib.hid (show errn c = Value.nilIface by rw [h0]; rfl)
    have HC0 := Lib.hid (show Ch.chk b.h TS = 0 by rw [← HCC.out]; exact h0)
    clear h0
    go_upto_region 4 with (first
      | (go_at_call 42; refine HCK.out.mono ?_; rw [HE0.out]; rintro e w2 ⟨rfl, hb2⟩)
      | (refine wpList_load_run rfl 79 (.tmp 3) rfl _ _ rfl lB ?_))
    clear lB
    obtain ⟨TD, hTD⟩ : ∃ d, d = Ch.tipOf X := ⟨_, rfl⟩
    have HTL := Lib.hid (show TD.length = 32 by rw [hTD]; exact Ch.tipOf_len X)
    have HTD := Lib.hid hTD
    obtain ⟨k, hk⟩ : ∃ k, k = X.length := ⟨_, rfl⟩
    have HXN := Lib.hid hk
    have hkl : k ≤ 100000 := by rw [hk]; exact HXL.out
    have hkw : IntKind.i64.wrap ((k : Int) + 1) = (k : Int) + 1 := IntWalk.i64_in _ (by omega)
    clear hTD hk
    by_cases hp : b.prev = TD
    · have HNE := Lib.hid (show (!decide (b.prev = TD)) = false by rw [decide_eq_true hp]; rfl)
      have HPT := Lib.hid hp
      clear hp
      by_cases hh : b.h = (k : Int) + 1
      · have HHH := Lib.hid hh
        obtain ⟨ws, hws⟩ : ∃ ww, ww = w2.drew := ⟨_, rfl⟩
        have hbs : Below w2.heap.size w2 ws := by rw [hws]; exact (Below.refl _ _).drew
        have hBs := hb2.trans (hbs.mono hb2.size)
        have hXs := HX.out.under hBs HX.out.lt
        have lP := fun (wq : World) (hSw : Held ws wq) => bk_load (hXs.under hSw.below hXs.lt) HP.out
        have C32 := fun (wq : World) (hSw : Held ws wq) => bk_h (hXs.under hSw.below hXs.lt) HP.out
        have HTP := Lib.hid (ptip_any (HC.out.lks.below (HB1.out.trans (hBs.mono HB1.out.size))) (by have := HXL.out; omega) (HK.out.below hBs))
        rw [← HTD.out] at HTP
        refine wp_region_held_drew (S := Held ws) (by kernel_rfl) (by rw [hws]; exact Held.refl _) (fun hHeld => ?_)
        rw [← hws] at hHeld ⊢
        clear hws
        refine take_at (v := ?_) 0 16 rfl rfl (by kernel_rfl) (by kernel_rfl) (by kernel_rfl) (fun _ _ _ h => h) hHeld (Or.inl ⟨by rfl, ?_⟩) rfl ?_
        rotate_left
        · intro wq hSw
          go_simp
          try with_reducible rfl
        simp only [List.set_cons_zero, List.set_cons_succ]
        refine take_at (v := ?_) 1 17 rfl rfl (by kernel_rfl) (by kernel_rfl) (by kernel_rfl) (fun _ _ _ h => h) hHeld (Or.inl ⟨by rfl, ?_⟩) rfl ?_
        rotate_left
        · intro wq hSw
          go_simp
          try with_reducible rfl
        simp only [List.set_cons_zero, List.set_cons_succ]
        refine take_at (v := ?_) 2 18 rfl rfl (by kernel_rfl) (by kernel_rfl) (by kernel_rfl) (fun _ _ _ h => h) hHeld (Or.inl ⟨by rfl, ?_⟩) rfl ?_
        rotate_left
        · intro wq hSw
          go_simp
          try with_reducible rfl
        simp only [List.set_cons_zero, List.set_cons_succ]
        refine take_at (v := ?_) 3 19 rfl rfl (by kernel_rfl) (by kernel_rfl) (by kernel_rfl) (fun _ _ _ h => h) hHeld (Or.inl ⟨by rfl, ?_⟩) rfl ?_
        rotate_left
        · intro wq hSw
          go_simp
          try with_reducible rfl
        simp only [List.set_cons_zero, List.set_cons_succ]
        refine take_at 4 20 rfl rfl (by kernel_rfl) (by kernel_rfl) (by kernel_rfl) (fun _ _ _ h => h) hHeld (yieldsIf_load_agg (by rfl) 34 (.tmp 19) rfl _ _ (by rfl) (fun wq hSw => lP wq hSw)) rfl ?_
        simp only [List.set_cons_zero, List.set_cons_succ]
        refine take_at (v := ?_) 5 21 rfl rfl (by kernel_rfl) (by kernel_rfl) (by kernel_rfl) (fun _ _ _ h => h) hHeld (Or.inl ⟨by rfl, ?_⟩) rfl ?_
        rotate_left
        · intro wq hSw
          go_simp
          try with_reducible rfl
        simp only [List.set_cons_zero, List.set_cons_succ]
        refine wpAnyH_ready (rs := [6]) (by kernel_rfl) (by simp) ?_
        refine AllReadyH.cons rfl (fun K hK => ?_) AllReadyH.nil
        go_simp
        go_at_call 46
        refine HTP.out.mono ?_
        rintro e w3 ⟨rfl, hb3⟩
        refine hK.out _ _ (Held.of hb3) (fun _ => ?_)
        clear hK K
        try simp only [Act.put, List.setIfInBounds_toArray, List.set_cons_zero, List.set_cons_succ]
        replace hHeld := Held.of hb3
        refine take_at 7 23 rfl rfl (by kernel_rfl) (by kernel_rfl) (by kernel_rfl) (fun _ _ _ h => h) hHeld (yieldsIf_neq (by rfl) 34 5 34 32 (.tmp 20) (.tmp 22) rfl b.prev TD (by rfl) (by rfl) (by kernel_rfl) Tryz.underlying34 Tryz.underlying5 (by kernel_rfl) HP.out HTL.out) rfl ?_
        simp only [List.set_cons_zero, List.set_cons_succ]
        rw [HNE.out]
        refine take_at (v := ?_) 8 24 rfl rfl (by kernel_rfl) (by kernel_rfl) (by kernel_rfl) (fun _ _ _ h => h) hHeld (Or.inl ⟨by rfl, ?_⟩) rfl ?_
        rotate_left
        · intro wq hSw
          go_simp
          try with_reducible rfl
        simp only [List.set_cons_zero, List.set_cons_succ]
        refine take_at (v := ?_) 9 25 rfl rfl (by kernel_rfl) (by kernel_rfl) (by kernel_rfl) (fun _ _ _ h => h) hHeld (Or.inl ⟨by rfl, ?_⟩) rfl ?_
        rotate_left
        · intro wq hSw
          go_simp
          try with_reducible rfl
        simp only [List.set_cons_zero, List.set_cons_succ]
        refine take_at (v := ?_) 10 26 rfl rfl (by kernel_rfl) (by kernel_rfl) (by kernel_rfl) (fun _ _ _ h => h) hHeld (Or.inl ⟨by rfl, ?_⟩) rfl ?_
        rotate_left
        · intro wq hSw
          go_simp
          try with_reducible rfl
        simp only [List.set_cons_zero, List.set_cons_succ]
        refine take_at (v := ?_) 11 27 rfl rfl (by kernel_rfl) (by kernel_rfl) (by kernel_rfl) (fun _ _ _ h => h) hHeld (Or.inl ⟨by rfl, ?_⟩) rfl ?_
        rotate_left
        · intro wq hSw
          have hst := C32 wq hSw
          go_simp
          try with_reducible rfl
        simp only [List.set_cons_zero, List.set_cons_succ]
        refine take_at (v := ?_) 12 28 rfl rfl (by kernel_rfl) (by kernel_rfl) (by kernel_rfl) (fun _ _ _ h => h) hHeld (Or.inl ⟨by rfl, ?_⟩) rfl ?_
        rotate_left
        · intro wq hSw
          go_simp
          try with_reducible rfl
        simp only [List.set_cons_zero, List.set_cons_succ]
        refine wpAnyH_ready (rs := [13]) (by kernel_rfl) (by simp) ?_
        refine AllReadyH.cons rfl (fun K hK => ?_) AllReadyH.nil
        go_simp
        go_at_call 45
        refine (pheight_any (HC.out.lks.below (HB1.out.trans ((hBs.trans (hb3.mono hBs.size)).mono HB1.out.size))) (by have := HXL.out; omega)).mono ?_
        rw [← HXN.out]
        rintro e w3 ⟨rfl, rfl⟩
        refine hK.out _ _ (Held.of hb3) (fun _ => ?_)
        clear hK K
        try simp only [Act.put, List.setIfInBounds_toArray, List.set_cons_zero, List.set_cons_succ]
        refine take_at (v := ?_) 14 30 rfl rfl (by kernel_rfl) (by kernel_rfl) (by kernel_rfl) (fun _ _ _ h => h) hHeld (Or.inl ⟨by rfl, ?_⟩) rfl ?_
        rotate_left
        · intro wq hSw
          go_simp
          try with_reducible rfl
        simp only [List.set_cons_zero, List.set_cons_succ]
        refine take_at (v := ?_) 15 31 rfl rfl (by kernel_rfl) (by kernel_rfl) (by kernel_rfl) (fun _ _ _ h => h) hHeld (Or.inl ⟨by rfl, ?_⟩) rfl ?_
        rotate_left
        · intro wq hSw
          go_simp
          try with_reducible rfl
        simp only [List.set_cons_zero, List.set_cons_succ]
        refine take_at (v := ?_) 16 32 rfl rfl (by kernel_rfl) (by kernel_rfl) (by kernel_rfl) (fun _ _ _ h => h) hHeld (Or.inl ⟨by rfl, ?_⟩) rfl ?_
        rotate_left
        · intro wq hSw
          go_simp
          try with_reducible rfl
        simp only [List.set_cons_zero, List.set_cons_succ]
        refine wpAnyH_done (by kernel_rfl) ?_ _
        have hB3 := hBs.trans (hb3.mono hBs.size)
        clear lP C32 hHeld HTP
        --DEVA
        have HW13 := Lib.hid (show W1.heap.size ≤ w3.heap.size from hB3.size)
        have HDW := Lib.hid hDw
        have HC3 := Lib.hid (HC.out.below (HB1.out.trans (hB3.mono HB1.out.size)))
        have HX3 := HX.out.under hB3 HX.out.lt
        have lB := HX3.load_agg (P := Tryz.prog) (t := 79) Tryz.underlying79 rfl (bkRec.size_eq size_bk HP.out)
        have HK3 := Lib.hid (HK.out.below hB3)
        have HBA3 := Lib.hid (HBA.out.below hB3)
        have HN60 := Lib.hid (show b.n ≤ 60 by
          have := (Ch.chk_parts HC0.out).2.1
          rw [HTS.out, Ch.tsOf_len, HBA.out.ts.1.1] at this
          exact this)
        go_upto_region 7 with (first
          | (refine wpList_store_mid rfl 153 (.tmp 6) (.tmp 36) rfl w4.heap.size 0 (lkCells ⟨b', none, 0, 0, []⟩).toArray rfl rfl (lkRec.there w4 153 (by kernel_rfl) HP6.out) (lkRec.size_eq size_lk HP6.out) (lkRec.all_one _) ?_)
          | (refine wpList_build_lk rfl (.tmp 35) rfl b' rfl HP6.out ?_)
          | (go_at_call 84; refine (copied_any b w3 HBA3.out HSM.out (by have := HN60.out; omega)).mono ?_; rintro e w4 ⟨b', rfl, hOw, e1, e2, e3, e4, hb4⟩; have HP6 := Lib.hid (show b'.prev.length = 32 from hOw.p); have HOW := Lib.hid hOw; have HEE := Lib.hid (And.intro e1 (And.intro e2 (And.intro e3 e4))); clear hOw e1 e2 e3 e4)
          | (refine wpList_load_run rfl 79 (.tmp 3) rfl _ _ rfl lB ?_))
        obtain ⟨w6, hw6⟩ : ∃ x, x = (w4.alloc (.cells zLk 153)).setCells w4.heap.size 0 (lkCells ⟨b', none, 0, 0, []⟩) := ⟨_, rfl⟩
        obtain ⟨hL6, hb6⟩ := Rec.new (R := lkRec) (t := ⟨b', none, 0, 0, []⟩) (by kernel_rfl) HP6.out hw6
        rw [← hw6]
        obtain ⟨g6, hg6⟩ : ∃ x, x = w4.heap.size := ⟨_, rfl⟩
        rw [← hg6] at hL6 ⊢
        clear lB HX3
        have hB4 := hB3.trans (hb4.mono hB3.size)
        have hB6 := hB4.trans (hb6.mono hB4.size)
        have HT6 := Lib.hid (HB1.out.trans (hB6.mono HB1.out.size))
        have HC6 := Lib.hid (HC.out.below HT6.out)
        have HK6 := Lib.hid (HK.out.below hB6)
        have HBI6 := Lib.hid ((HOW.out.in).below hb6)
        have HSZ := Lib.hid (show w.heap.size ≤ w3.heap.size ∧ w3.heap.size ≤ g6 ∧ g6 < w6.heap.size ∧ w4.heap.size = g6 from ⟨by have := HB1.out.size; have := hB3.size; omega, by rw [hg6]; exact hb4.size, by rw [hg6]; rw [hg6] at hL6; exact hL6.lt, hg6.symm⟩)
        have HFS := Lib.hid (show g < w.heap.size ∧ sg < w.heap.size ∧ sb < w.heap.size from ⟨HC.out.has.lt, HC.out.s.has.lt, HC.out.s.map.lt⟩)
        have HNG := Lib.hid (show ¬ g = sb from has_ne_map HC.out.has HC.out.s.map)
        have HN6 := Lib.hid (show ¬ g6 = sb by have := HFS.out; have := HSZ.out; omega)
        obtain ⟨n, hn⟩ : ∃ n, n = b'.n := ⟨_, rfl⟩
        have HNB := Lib.hid (show n = b'.n ∧ n = b.n from ⟨hn, by rw [hn]; exact HEE.out.2.2.1⟩)
        have hn60 : n ≤ 60 := by have := HN60.out; have := HNB.out.2; omega
        have hnmx : n ≤ 9223372036854775807 := by omega
        have HTB := Lib.hid (show Ch.tsOf b'.vs = TS by rw [HEE.out.2.2.2, HTS.out])
        have HLTS := Lib.hid (show TS.length = n by rw [← HTB.out, Ch.tsOf_len, HBI6.out.r.1, hn])
        have HSM' := Lib.hid (show ∀ x, x ∈ b'.vs → Tx.Small x.t from fun x hx => by
          have h1 : x.t ∈ Ch.tsOf b'.vs := List.mem_map.2 ⟨x, hx, rfl⟩
          rw [HTB.out, HTS.out] at h1
          obtain ⟨y, hy, e⟩ := List.mem_map.1 h1
          rw [← e]
          exact HSM.out y hy)
        obtain ⟨ba, hba⟩ : ∃ x, x = b'.a := ⟨_, rfl⟩
        obtain ⟨bq, hbq⟩ : ∃ x, x = b'.q := ⟨_, rfl⟩
        have c33 : w6.cell? ⟨g6, 33, none⟩ = some (.slice ba n bq) := by rw [hba, hn, hbq]; exact lk_ts hL6 HP6.out
        have HBQ := Lib.hid (And.intro hba hbq)
        have HO0 := Lib.hid (And.intro (SsOwn.nil w6.heap.size w6) (show Ch.csOf ([] : List Ch.S) = Ch.spN M TS 0 from rfl))
        have HI0 := Lib.hid (show SetB w6 sg sb (Ch.doN M TS 0) ∧ (∀ x, x ∈ Ch.doN M TS 0 → Am.Good x.2.v) ∧ Cs.Chain M0 (Ch.hist (TS.take 0) (Ch.csOf ([] : List Ch.S)) ++ Ch.allHist X) (Ch.doN M TS 0) ∧ ∀ (j : Nat) (u : Tx.T), j < 0 → TS[j]? = some u → Cs.doE (Ch.doN M TS j) (Tx.idOf false u) u = 0 from ⟨HC6.out.s, HC6.out.gd, HC6.out.ch, fun j u hj => by omega⟩)
        clear hb2 hbs hBs hXs hb3 hB3 hb4 hb6 hB4 hB6 hw6 hg6 hn hba hbq
        go_wp2
        go_loopw [41] (fun iv wr => ∃ (i : Nat) (sa : Option Addr) (sq : Nat) (ss : List Ch.S), i ≤ n ∧ iv = .int .i64 i ∧ RowKit.Hid (SetB wr sg sb (Ch.doN M TS i) ∧ (∀ x, x ∈ Ch.doN M TS i → Am.Good x.2.v) ∧ Cs.Chain M0 (Ch.hist (TS.take i) (Ch.csOf ss) ++ Ch.allHist X) (Ch.doN M TS i) ∧ ∀ (j : Nat) (u : Tx.T), j < i → TS[j]? = some u → Cs.doE (Ch.doN M TS j) (Tx.idOf false u) u = 0) ∧ Has wr g6 153 (lkCells ⟨b', sa, i, sq, ss⟩).toArray ∧ RowKit.Hid (SsOwn w6.heap.size wr (.slice sa i sq) ss ∧ Ch.csOf ss = Ch.spN M TS i) ∧ Moved (fun j => j = sb ∨ j = g6) w6 wr) (fun iv _ => n - (intOf iv).toNat)
        case atStart => exact ⟨0, none, 0, [], Nat.zero_le _, rfl, HI0, hL6, HO0, Moved.refl _ _⟩
        case round =>
          clear HI0 HO0 hL6 c33
          obtain ⟨i, sa, sq, ss, hi, rfl, HI, hL, HO, hm⟩ := hrel
          have HMW := Lib.hid hm
          have HWR := Lib.hid (show g6 < wr.heap.size from hL.lt)
          have HCM := Lib.hid (fun (p : Addr) (hp : (w6.cell? p).isSome = true) (hne : p.block ≠ g6) => cells_map2 hm HC6.out.s.map p hp hne)
          have HKR := Lib.hid (HK6.out.map2 hm HC6.out.s.map ⟨by have := HK.out.lt; have := HB1.out.size; have h1 := HSZ.out; have h2 := (HK.out.lt).1; have h3 : W1.heap.size ≤ w3.heap.size := HW13.out; omega, by have h2 := (HK.out.lt).2; have h3 : W1.heap.size ≤ w3.heap.size := HW13.out; have h1 := HSZ.out; omega⟩)
          have HBIr := Lib.hid (HBI6.out.moved hm (fun j hj e => by have h1 := HSZ.out; have h2 := HFS.out; rcases e with e | e <;> omega))
          have hHr := HC6.out.has.moved hm (fun e => by have h1 := HSZ.out; have h2 := HFS.out; rcases e with e | e; exact HNG.out e; omega)
          by_cases hlt : i < n
          · have hii : (i : Int) < (n : Int) := by omega
            have hi0 : (0 : Int) ≤ (i : Int) := by omega
            obtain ⟨⟨ta, tn, tq, tb, tm, tr, t⟩, ht⟩ := HBIr.out.r.get (show i < b'.n by have := HNB.out.1; omega)
            obtain ⟨x, hxe, hx, hat⟩ := Txs.load HBIr.out.at.ts ht
            obtain rfl : ba = some x := HBQ.out.1.trans hxe
            have HAT := Lib.hid hat
            have HST := Lib.hid (HSM'.out _ (List.mem_of_getElem? ht))
            have HTI := Lib.hid (show TS[i]? = some t by rw [← HTB.out]; unfold Ch.tsOf; rw [List.getElem?_map, ht]; rfl)
            obtain ⟨Mi, hMi⟩ : ∃ z, z = Ch.doN M TS i := ⟨_, rfl⟩
            rw [← hMi] at HI
            obtain ⟨de, hde⟩ : ∃ z, z = Cs.doE Mi (Tx.idOf false t) t := ⟨_, rfl⟩
            have HDE := Lib.hid hde
            have HMI := Lib.hid hMi
            clear ht hxe hat hm hMi hde
            go_upto_region 10 with (first
              | (refine wpList_load_run rfl 26 (.tmp 43) rfl _ _ rfl hx ?_))
            obtain ⟨wa, hwa⟩ : ∃ x, x = wr.alloc (.cells #[.slice ta tn tq, .slice tb tm tr, .bool t.firm] 26) := ⟨_, rfl⟩
            have hF : Has wa wr.heap.size 26 #[.slice ta tn tq, .slice tb tm tr, .bool t.firm] := by rw [hwa]; exact Has.fresh _ _ _
            have hba : Below wr.heap.size wr wa := by rw [hwa]; exact (Below.refl _ _).alloc (Nat.le_refl _) _
            rw [← hwa]
            obtain ⟨gF, hgF⟩ : ∃ g, g = wr.heap.size := ⟨_, rfl⟩
            rw [← hgF] at hF ⊢
            have HFB := Lib.hid (show ¬ gF = sb by have := HFS.out; have := HMW.out.size; have := HSZ.out; have := HT6.out.size; omega)
            have hSa := HI.out.1.below hba
            have hLa := hL.under hba hL.lt
            have hHa := hHr.under hba hHr.lt
            have HOa := Lib.hid (And.intro (HO.out.1.below hba) HO.out.2)
            have HMa := Lib.hid (HMW.out.then hba)
            have HKa := Lib.hid (HKR.out.below hba)
            have HATa := Lib.hid (HAT.out.below hba)
            clear hwa hx hgF hba hL hHr HO HAT HMW HKR
            refine wp_region_joinK (fun m1 _ w' => ∃ (gu : Nat) (M9 : Cs.Mp) (ua : Option Addr) (un uq : Nat) (ub : Option Addr) (um ur : Nat) (uc : Option Addr) (uk ul : Nat) (u : Tx.T) (sp : List Tx.Co), m1 = [.pointer (some ⟨gu, 0, none⟩), errn de] ∧ Has w' gu 48 #[.slice ua un uq, .slice ub um ur, .bool u.firm, .slice uc uk ul] ∧ SetB w' sg sb M9 ∧ OwnR coRec 39 wa.heap.size w' (.slice uc uk ul) sp ∧ (de = 0 → M9 = Cs.doM Mi (Tx.idOf false t) t ∧ sp = Cs.spentOf Mi t) ∧ (¬ de = 0 → M9 = Mi) ∧ Moved (fun j => j = sb) wa w') 9 2 34 9 ?_ ?_
            · obtain ⟨ws, hws⟩ : ∃ ww, ww = wa.drew := ⟨_, rfl⟩
              have hbs : Below wa.heap.size wa ws := by rw [hws]; exact (Below.refl _ _).drew
              have hFs := hF.under hbs hF.lt
              have hHs := hHa.under hbs hHa.lt
              have hSs := hSa.below hbs
              have HBWS := Lib.hid hbs
              have HWA := Lib.hid (show wa.heap.size ≤ ws.heap.size from hbs.size)
              have HSB := Lib.hid (show sg < ws.heap.size ∧ sb < ws.heap.size from ⟨hSs.has.lt, hSs.map.lt⟩)
              have HDO := Lib.hid (fun (w' : World) (hb : Below ws.heap.size ws w') => pdo_any (hSs.below hb) HI.out.2.1 ta tn tq tb tm tr t ((HATa.out.below hbs).below hb) HST.out ((HKa.out.below hbs).below hb))
              have hBws : Below ws.heap.size ws ws := Below.refl _ _
              have lX := fun (wq : World) (hSw : HeldM (fun j => j = sb) ws wq) => (hFs.moved hSw.out HFB.out).load_agg (P := Tryz.prog) (t := 26) Tryz.underlying26 rfl (by kernel_rfl)
              have C0 := fun (wq : World) (hSw : HeldM (fun j => j = sb) ws wq) => (show wq.cell? ⟨g, 0, none⟩ = some (.pointer (some ⟨sg, 0, none⟩)) from (hHs.moved hSw.out HNG.out).cell_at rfl)
              refine wp_region_held_drew (S := HeldM (fun j => j = sb) ws) (by kernel_rfl) (by rw [hws]; exact HeldM.refl _ _) (fun hHeld => ?_)
              rw [← hws] at hHeld ⊢
              clear hws
              refine take_at (v := ?_) 0 46 rfl rfl (by kernel_rfl) (by kernel_rfl) (by kernel_rfl) (fun _ _ _ h => h) hHeld (Or.inl ⟨by rfl, ?_⟩) rfl ?_
              rotate_left
              · intro wq hSw
                go_simp
                try with_reducible rfl
              simp only [List.set_cons_zero, List.set_cons_succ]
              refine take_at (v := ?_) 1 47 rfl rfl (by kernel_rfl) (by kernel_rfl) (by kernel_rfl) (fun _ _ _ h => h) hHeld (Or.inl ⟨by rfl, ?_⟩) rfl ?_
              rotate_left
              · intro wq hSw
                go_simp
                try with_reducible rfl
              simp only [List.set_cons_zero, List.set_cons_succ]
              refine take_at (v := ?_) 2 48 rfl rfl (by kernel_rfl) (by kernel_rfl) (by kernel_rfl) (fun _ _ _ h => h) hHeld (Or.inl ⟨by rfl, ?_⟩) rfl ?_
              rotate_left
              · intro wq hSw
                go_simp
                try with_reducible rfl
              simp only [List.set_cons_zero, List.set_cons_succ]
              refine take_at (v := ?_) 3 49 rfl rfl (by kernel_rfl) (by kernel_rfl) (by kernel_rfl) (fun _ _ _ h => h) hHeld (Or.inl ⟨by rfl, ?_⟩) rfl ?_
              rotate_left
              · intro wq hSw
                have hst := C0 wq hSw
                go_simp
                try with_reducible rfl
              simp only [List.set_cons_zero, List.set_cons_succ]
              refine take_at 4 50 rfl rfl (by kernel_rfl) (by kernel_rfl) (by kernel_rfl) (fun _ _ _ h => h) hHeld (yieldsIf_load_agg (by rfl) 26 (.tmp 8) rfl _ _ (by rfl) (fun wq hSw => lX wq hSw)) rfl ?_
              simp only [List.set_cons_zero, List.set_cons_succ]
              refine wpAnyH_ready (rs := [5, 9]) (by kernel_rfl) (by simp) ?_
              refine AllReadyH.cons rfl (fun K hK => ?_) (AllReadyH.cons rfl (fun K hK => ?_) AllReadyH.nil)
              · go_simp
                go_at_call 15
                refine (HDO.out ws hBws).mono ?_
                rintro e k1 ⟨M9, ua, un, uq, ub, um, ur, uc, uk, ul, u, sp, rfl, hSk1, hUk1, hok, hno, hmvk1⟩
                rw [← HDE.out]
                have hmtk1 : Moved (fun j => j = sb) ws k1 := (Moved.of_below hBws).trans hmvk1 (fun j e => .inl e)
                refine hK.out _ _ (HeldM.of hmtk1) (fun _ => ?_)
                clear hK K
                try simp only [Act.put, List.setIfInBounds_toArray, List.set_cons_zero, List.set_cons_succ]
                replace hHeld := HeldM.of hmtk1
                refine take_at (v := ?_) 6 45 rfl rfl (by kernel_rfl) (by kernel_rfl) (by kernel_rfl) (fun _ _ _ h => h) hHeld (Or.inl ⟨by rfl, ?_⟩) rfl ?_
                rotate_left
                · intro wq hSw
                  go_simp
                  try with_reducible rfl
                simp only [List.set_cons_zero, List.set_cons_succ]
                refine take_at (v := ?_) 7 52 rfl rfl (by kernel_rfl) (by kernel_rfl) (by kernel_rfl) (fun _ _ _ h => h) hHeld (Or.inl ⟨by rfl, ?_⟩) rfl ?_
                rotate_left
                · intro wq hSw
                  go_simp
                  try with_reducible rfl
                simp only [List.set_cons_zero, List.set_cons_succ]
                refine take_at (v := ?_) 8 53 rfl rfl (by kernel_rfl) (by kernel_rfl) (by kernel_rfl) (fun _ _ _ h => h) hHeld (Or.inl ⟨by rfl, ?_⟩) rfl ?_
                rotate_left
                · intro wq hSw
                  go_simp
                  try with_reducible rfl
                simp only [List.set_cons_zero, List.set_cons_succ]
                refine wpAnyH_ready (rs := [9]) (by kernel_rfl) (by simp) ?_
                refine AllReadyH.cons rfl (fun K hK => ?_) AllReadyH.nil
                go_simp
                obtain ⟨k2, hYk2⟩ : ∃ ww, ww = k1.alloc (.cells #[.slice none 0 0, .slice none 0 0, .bool false, .slice none 0 0] 48) := ⟨_, rfl⟩
                obtain ⟨gu, hgu⟩ : ∃ x, x = k1.heap.size := ⟨_, rfl⟩
                rw [← hYk2, ← hgu]
                have hbk2 : Below k1.heap.size k1 k2 := by rw [hYk2]; exact (Below.refl _ _).alloc (Nat.le_refl _) _
                have hAk2 : Has k2 gu 48 #[.slice none 0 0, .slice none 0 0, .bool false, .slice none 0 0] := by rw [hYk2, hgu]; exact Has.fresh _ _ _
                have hLA : ws.heap.size ≤ gu := by rw [hgu]; exact hmtk1.size
                have hmtk2 : Moved (fun j => j = sb) ws k2 := hmtk1.then hbk2
                have hSk2 := hSk1.below hbk2
                have hUk2 := hUk1.below hbk2
                refine hK.out _ _ (HeldM.of hmtk2) (fun _ => ?_)
                clear hYk2 hgu
                clear hK K
                try simp only [Act.put, List.setIfInBounds_toArray, List.set_cons_zero, List.set_cons_succ]
                replace hHeld := HeldM.of (F := fun j => j = sb) hmtk2
                refine wpAnyH_ready (rs := [10]) (by kernel_rfl) (by simp) ?_
                refine AllReadyH.cons rfl (fun K hK => ?_) AllReadyH.nil
                refine step_store_row (by rfl) 48 (.tmp 9) (.tmp 52) rfl gu 0 #[.slice ua un uq, .slice ub um ur, .bool u.firm, .slice uc uk ul] (by first | rfl | simp [Act.eval]) (by first | rfl | simp [Act.eval]) (hAk2.there 0 4 (Nat.le_refl _)) (by kernel_rfl) (und_one _ _ _ _ _ _ _ _ _ _) rfl ?_
                obtain ⟨wt, hwt⟩ : ∃ ww, ww = k2.setCells gu 0 (#[.slice ua un uq, .slice ub um ur, .bool u.firm, .slice uc uk ul] : Array Value).toList := ⟨_, rfl⟩
                rw [← hwt]
                have hAt : Has wt gu 48 #[.slice ua un uq, .slice ub um ur, .bool u.firm, .slice uc uk ul] := by rw [hwt]; exact hAk2.whole_cs rfl
                have hmz : Moved (fun j => j = gu) k2 wt := by rw [hwt]; exact Moved.putAll (F := fun j => j = gu) (.inl rfl) _ 0 (Moved.refl _ _)
                have hmt : Moved (fun j => j = sb) ws wt := hmtk2.trans hmz (fun j e => .inr (by have e2 : j = gu := e; omega))
                have hSt : SetB wt sg sb M9 := hSk2.moved hmz (fun e => by have := HSB.out; have e2 : sg = gu := e; omega) (fun e => by have := HSB.out; have e2 : sb = gu := e; omega)
                have hot : OwnR coRec 39 wa.heap.size wt (.slice uc uk ul) sp := (hUk2.co.moved hmz (fun k hk e => by
                  have e2 : k = gu := e
                  subst e2
                  obtain ⟨cs1, h1⟩ := ownr_block hUk2.co hk
                  exact Has.ne_type h1 hAk2 (by decide) rfl)).low (by first | exact HWA.out | exact Nat.le_trans HWA.out hbk1.size)
                clear hwt hmz
                refine hK.out _ _ (HeldM.of hmt) (fun _ => ?_)
                clear hK K
                try simp only [Act.put, List.setIfInBounds_toArray, List.set_cons_zero, List.set_cons_succ]
                replace hHeld := HeldM.of (F := fun j => j = sb) hmt
                refine take_at (v := ?_) 11 10 rfl rfl (by kernel_rfl) (by kernel_rfl) (by kernel_rfl) (fun _ _ _ h => h) hHeld (Or.inl ⟨by rfl, ?_⟩) rfl ?_
                rotate_left
                · intro wq hSw
                  go_simp
                  try with_reducible rfl
                simp only [List.set_cons_zero, List.set_cons_succ]
                refine wpAnyH_done (by kernel_rfl) ?_ _
                exact ⟨[_, _], [_, _, _, _, _, _, _, _, _], ⟨gu, M9, ua, un, uq, ub, um, ur, uc, uk, ul, u, sp, rfl, hAt, hSt, hot, fun e => ⟨(hok (HDE.out.symm.trans e)).1, (hok (HDE.out.symm.trans e)).2.2⟩, (fun e => hno (fun e2 => e (HDE.out.trans e2))), (Moved.of_below HBWS.out).trans hmt (fun j e => .inl e)⟩, rfl, rfl, rfl⟩
              · go_simp
                obtain ⟨k1, hYk1⟩ : ∃ ww, ww = ws.alloc (.cells #[.slice none 0 0, .slice none 0 0, .bool false, .slice none 0 0] 48) := ⟨_, rfl⟩
                obtain ⟨gu, hgu⟩ : ∃ x, x = ws.heap.size := ⟨_, rfl⟩
                rw [← hYk1, ← hgu]
                have hbk1 : Below ws.heap.size ws k1 := by rw [hYk1]; exact (Below.refl _ _).alloc (Nat.le_refl _) _
                have hAk1 : Has k1 gu 48 #[.slice none 0 0, .slice none 0 0, .bool false, .slice none 0 0] := by rw [hYk1, hgu]; exact Has.fresh _ _ _
                have hLA : ws.heap.size ≤ gu := by rw [hgu]; exact Nat.le_refl _
                have hBk1 := hbk1
                refine hK.out _ _ (HeldM.of (Moved.of_below hbk1)) (fun _ => ?_)
                clear hYk1 hgu
                clear hK K
                try simp only [Act.put, List.setIfInBounds_toArray, List.set_cons_zero, List.set_cons_succ]
                replace hHeld := HeldM.of (F := fun j => j = sb) (Moved.of_below hbk1)
                refine wpAnyH_ready (rs := [5]) (by kernel_rfl) (by simp) ?_
                refine AllReadyH.cons rfl (fun K hK => ?_) AllReadyH.nil
                go_simp
                go_at_call 15
                refine (HDO.out k1 hBk1).mono ?_
                rintro e k2 ⟨M9, ua, un, uq, ub, um, ur, uc, uk, ul, u, sp, rfl, hSk2, hUk2, hok, hno, hmvk2⟩
                rw [← HDE.out]
                have hAk2 := hAk1.moved hmvk2 (fun e => by have := HSB.out; omega)
                have hmtk2 : Moved (fun j => j = sb) ws k2 := (Moved.of_below hBk1).trans hmvk2 (fun j e => .inl e)
                refine hK.out _ _ (HeldM.of hmtk2) (fun _ => ?_)
                clear hK K
                try simp only [Act.put, List.setIfInBounds_toArray, List.set_cons_zero, List.set_cons_succ]
                replace hHeld := HeldM.of hmtk2
                refine take_at (v := ?_) 6 45 rfl rfl (by kernel_rfl) (by kernel_rfl) (by kernel_rfl) (fun _ _ _ h => h) hHeld (Or.inl ⟨by rfl, ?_⟩) rfl ?_
                rotate_left
                · intro wq hSw
                  go_simp
                  try with_reducible rfl
                simp only [List.set_cons_zero, List.set_cons_succ]
                refine take_at (v := ?_) 7 52 rfl rfl (by kernel_rfl) (by kernel_rfl) (by kernel_rfl) (fun _ _ _ h => h) hHeld (Or.inl ⟨by rfl, ?_⟩) rfl ?_
                rotate_left
                · intro wq hSw
                  go_simp
                  try with_reducible rfl
                simp only [List.set_cons_zero, List.set_cons_succ]
                refine take_at (v := ?_) 8 53 rfl rfl (by kernel_rfl) (by kernel_rfl) (by kernel_rfl) (fun _ _ _ h => h) hHeld (Or.inl ⟨by rfl, ?_⟩) rfl ?_
                rotate_left
                · intro wq hSw
                  go_simp
                  try with_reducible rfl
                simp only [List.set_cons_zero, List.set_cons_succ]
                refine wpAnyH_ready (rs := [10]) (by kernel_rfl) (by simp) ?_
                refine AllReadyH.cons rfl (fun K hK => ?_) AllReadyH.nil
                refine step_store_row (by rfl) 48 (.tmp 9) (.tmp 52) rfl gu 0 #[.slice ua un uq, .slice ub um ur, .bool u.firm, .slice uc uk ul] (by first | rfl | simp [Act.eval]) (by first | rfl | simp [Act.eval]) (hAk2.there 0 4 (Nat.le_refl _)) (by kernel_rfl) (und_one _ _ _ _ _ _ _ _ _ _) rfl ?_
                obtain ⟨wt, hwt⟩ : ∃ ww, ww = k2.setCells gu 0 (#[.slice ua un uq, .slice ub um ur, .bool u.firm, .slice uc uk ul] : Array Value).toList := ⟨_, rfl⟩
                rw [← hwt]
                have hAt : Has wt gu 48 #[.slice ua un uq, .slice ub um ur, .bool u.firm, .slice uc uk ul] := by rw [hwt]; exact hAk2.whole_cs rfl
                have hmz : Moved (fun j => j = gu) k2 wt := by rw [hwt]; exact Moved.putAll (F := fun j => j = gu) (.inl rfl) _ 0 (Moved.refl _ _)
                have hmt : Moved (fun j => j = sb) ws wt := hmtk2.trans hmz (fun j e => .inr (by have e2 : j = gu := e; omega))
                have hSt : SetB wt sg sb M9 := hSk2.moved hmz (fun e => by have := HSB.out; have e2 : sg = gu := e; omega) (fun e => by have := HSB.out; have e2 : sb = gu := e; omega)
                have hot : OwnR coRec 39 wa.heap.size wt (.slice uc uk ul) sp := (hUk2.co.moved hmz (fun k hk e => by
                  have e2 : k = gu := e
                  subst e2
                  obtain ⟨cs1, h1⟩ := ownr_block hUk2.co hk
                  exact Has.ne_type h1 hAk2 (by decide) rfl)).low (by first | exact HWA.out | exact Nat.le_trans HWA.out hbk1.size)
                clear hwt hmz
                refine hK.out _ _ (HeldM.of hmt) (fun _ => ?_)
                clear hK K
                try simp only [Act.put, List.setIfInBounds_toArray, List.set_cons_zero, List.set_cons_succ]
                replace hHeld := HeldM.of (F := fun j => j = sb) hmt
                refine take_at (v := ?_) 11 10 rfl rfl (by kernel_rfl) (by kernel_rfl) (by kernel_rfl) (fun _ _ _ h => h) hHeld (Or.inl ⟨by rfl, ?_⟩) rfl ?_
                rotate_left
                · intro wq hSw
                  go_simp
                  try with_reducible rfl
                simp only [List.set_cons_zero, List.set_cons_succ]
                refine wpAnyH_done (by kernel_rfl) ?_ _
                exact ⟨[_, _], [_, _, _, _, _, _, _, _, _], ⟨gu, M9, ua, un, uq, ub, um, ur, uc, uk, ul, u, sp, rfl, hAt, hSt, hot, fun e => ⟨(hok (HDE.out.symm.trans e)).1, (hok (HDE.out.symm.trans e)).2.2⟩, (fun e => hno (fun e2 => e (HDE.out.trans e2))), (Moved.of_below HBWS.out).trans hmt (fun j e => .inl e)⟩, rfl, rfl, rfl⟩
            · intro m1 m2 w7 hv1 hv2 hJ
              obtain ⟨gu, M9, ua, un, uq, ub, um, ur, uc, uk, ul, u, sp, rfl, hA7, hS7, ho7, hok, hno, hm7⟩ := hJ
              obtain ⟨x0, x1, x2, x3, x4, x5, x6, x7, x8, rfl⟩ := list9 hv2
              clear hv1 hv2
              simp only [List.take_succ_cons, List.take_zero, List.drop_succ_cons, List.drop_zero, List.cons_append, List.nil_append]
              have hL7 := hLa.moved hm7 HN6.out
              have hH7 := hHa.moved hm7 HNG.out
              have hK7 := HKa.out.map hm7 hSa.map
              have HM7 := Lib.hid (HMa.out.trans hm7 (fun j e => .inl (.inl e)))
              have hSS7 : SsOwn w6.heap.size w7 (.slice sa i sq) ss := HOa.out.1.moved hm7 (fun j e _ => by have := HFS.out; have := HSZ.out; have e2 : j = sb := e; omega)
              --DEVB
              by_cases h0 : de = 0
              · have HE7 := Lib.hid (show errn de = Value.nilIface by rw [h0]; rfl)
                rw [HE7.out]
                obtain ⟨h90, hsp⟩ := hok h0
                subst h90
                subst hsp
                have cA := hA7.cell_at (i := 3) (v := .slice uc uk ul) rfl
                have c34 := lk_ss hL7 HP6.out
                have HHa := Lib.hid hH7
                have HSa := Lib.hid hS7
                have HNS := Lib.hid (show ss.length = i by
                  have h1 := congrArg List.length HOa.out.2
                  unfold Ch.csOf at h1
                  rw [List.length_map, Ch.spN_len (by have := HLTS.out; omega)] at h1
                  exact h1)
                have HSS7 := Lib.hid hSS7
                have HCO := Lib.hid (show OwnR coRec 39 w6.heap.size w7 (.slice uc uk ul) (Cs.spentOf Mi t) from ho7.low HMa.out.size)
                have HL7 := Lib.hid hL7
                have HDZ := Lib.hid h0
                have h7s : w6.heap.size ≤ w7.heap.size := HM7.out.size
                have HRS : Recs sRec (w7.alloc (.cells #[.slice uc uk ul] 24)) (some ⟨w7.heap.size, 0, none⟩) 1 [⟨uc, uk, ul, Cs.spentOf Mi t⟩] := recs_one' trivial rfl
                have HRS := Lib.hid HRS
                have HB8 := Lib.hid (show Below w7.heap.size w7 (w7.alloc (.cells #[.slice uc uk ul] 24)) from (Below.refl _ _).alloc (Nat.le_refl _) _)
                clear hok hno hA7 hS7 ho7 hL7 hH7 hK7 hSS7 h0 hm7
                go_wp2_with (first
                  | (at_builtin; refine wpList_append_recs (R := sRec) rfl (.tmp 64) (.tmp 67) 151 rfl 24 Tryz.underlying151 info_cos rfl (by decide) w6.heap.size _ ss rfl (HSS7.out.below HB8.out).o (some ⟨w7.heap.size, 0, none⟩) 1 1 [⟨uc, uk, ul, Cs.spentOf Mi t⟩] rfl HRS.out (fun e => by cases e) (by rw [HNS.out]; omega) (by have := HB8.out.size; omega) ?_; intro v' w8 ho8 hg8 hl8; have hO8 := (HSS7.out.below HB8.out).push (x := ⟨uc, uk, ul, Cs.spentOf Mi t⟩) (HCO.out.below HB8.out) hg8 ho8; obtain ⟨sa', sq', rfl, _⟩ := ho8.shape (K := i + 1) (by rw [List.length_append, HNS.out]; rfl); have hm8 : Moved (fun j => (Value.slice sa i sq).ownBlock = some j) (w7.alloc (.cells #[.slice uc uk ul] 24)) w8 := Moved.of_grown hg8 (fun k e => e); have hN8 : ∀ k, (Value.slice sa i sq).ownBlock = some k → w6.heap.size ≤ k := fun k e => HSS7.out.o.lt k e; have hL8 := (HL7.out.under HB8.out HL7.out.lt).moved hm8 (fun e => by have := hN8 _ e; have := HSZ.out; omega); have c348 := lk_ss hL8 HP6.out; have l348 := hL8.loose 34))
                obtain ⟨w9, hw9⟩ : ∃ x, x = w8.setCell ⟨g6, 34, none⟩ (.slice sa' (i + 1) sq') := ⟨_, rfl⟩
                have hm9 : Moved (fun j => j = g6) w8 w9 := by rw [hw9]; exact Moved.put (F := fun j => j = g6) (Moved.refl _ _) (.inl rfl) _ _
                have hL9 : Has w9 g6 153 (lkCells ⟨b', sa', i + 1, sq', ss ++ [⟨uc, uk, ul, Cs.spentOf Mi t⟩]⟩).toArray := by rw [hw9]; exact hL8.lk_put (l := ⟨b', sa, i, sq, ss⟩) HP6.out ⟨b', sa', i + 1, sq', ss ++ [⟨uc, uk, ul, Cs.spentOf Mi t⟩]⟩ rfl
                rw [← hw9]
                have hm79 : Moved (fun j => j = g6 ∨ w6.heap.size ≤ j) w7 w9 := ((Moved.of_below (F := fun j => j = g6 ∨ w6.heap.size ≤ j) HB8.out).trans hm8 (fun j e => .inl (.inr (hN8 j e)))).trans hm9 (fun j e => .inl (.inl e))
                have hS9 := HSa.out.moved hm79 (fun e => by have := HFS.out; have := HSZ.out; rcases e with e | e <;> omega) (fun e => by have := HFS.out; have := HSZ.out; rcases e with e | e <;> omega)
                have hO9 := hO8.moved hm9 (fun j e _ => by have e2 : j = g6 := e; have := HSZ.out; omega)
                have hM9 : Moved (fun j => j = sb ∨ j = g6) w6 w9 := HM7.out.trans hm79 (fun j e => e.elim (fun e => .inl (.inr e)) .inr)
                have hdo : Ch.doN M TS (i + 1) = Cs.doM Mi (Tx.idOf false t) t := by rw [Ch.doN_step HTI.out, HMI.out]
                have hsp : Ch.spN M TS (i + 1) = Ch.spN M TS i ++ [Cs.spentOf Mi t] := by rw [Ch.spN_step HTI.out, HMI.out]
                have hkeys := (SetAt.fits ⟨sg, sb, rfl, HI.out.1, rfl⟩ : Cs.Keys Mi ∧ _).1
                have hd0 : Cs.doE Mi (Tx.idOf false t) t = 0 := by rw [← HDE.out]; exact HDZ.out
                have HI9 := Lib.hid (show SetB w9 sg sb (Ch.doN M TS (i + 1)) ∧ (∀ x, x ∈ Ch.doN M TS (i + 1) → Am.Good x.2.v) ∧ Cs.Chain M0 (Ch.hist (TS.take (i + 1)) (Ch.csOf (ss ++ [⟨uc, uk, ul, Cs.spentOf Mi t⟩])) ++ Ch.allHist X) (Ch.doN M TS (i + 1)) ∧ ∀ (j : Nat) (u : Tx.T), j < i + 1 → TS[j]? = some u → Cs.doE (Ch.doN M TS j) (Tx.idOf false u) u = 0 from by
                  rw [hdo]
                  refine ⟨hS9, Cs.doM_good HI.out.2.1 hd0, ?_, fun j v hj hv => ?_⟩
                  · have h1 : TS.take (i + 1) = TS.take i ++ [t] := by
                      obtain ⟨h2, h3⟩ := List.getElem?_eq_some_iff.1 HTI.out
                      rw [List.take_succ_eq_append_getElem h2, h3]
                    have h2 : Ch.csOf (ss ++ [⟨uc, uk, ul, Cs.spentOf Mi t⟩]) = Ch.csOf ss ++ [Cs.spentOf Mi t] := by unfold Ch.csOf; rw [List.map_append]; rfl
                    rw [h1, h2, Ch.hist_snoc (by unfold Ch.csOf; rw [List.length_map, HNS.out, List.length_take]; have := HLTS.out; omega)]
                    exact Cs.chain_do HI.out.2.2.1 hd0 (Cs.doM_is hkeys _ _)
                  · rcases Nat.lt_or_ge j i with h1 | h1
                    · exact HI.out.2.2.2 j v h1 hv
                    · obtain rfl : j = i := by omega
                      rw [HTI.out] at hv
                      obtain rfl := Option.some.inj hv
                      rw [← HMI.out]
                      exact hd0)
                have HO9 := Lib.hid (And.intro hO9 (show Ch.csOf (ss ++ [⟨uc, uk, ul, Cs.spentOf Mi t⟩]) = Ch.spN M TS (i + 1) by rw [hsp, ← HOa.out.2]; unfold Ch.csOf; rw [List.map_append]; rfl))
                clear hw9 hm9 hm8 hN8 hL8 c348 l348 ho8 hg8 hl8 hO8 hm79 hS9 hO9 hdo hsp hkeys hd0 cA c34 h7s
                go_wp2
                go_roundw
                case rel => exact ⟨i + 1, sa', sq', _, by omega, by go_num, HI9, hL9, HO9, hM9⟩
                case measure => (simp [intOf]; try omega)
              · obtain rfl := hno h0
                --DEVC
                have HE7 := Lib.hid (show errn de = erro de from if_neg h0)
                have HD0 := Lib.hid h0
                rw [HE7.out]
                have hg7 := HI.out.2.1
                have hch7 := HI.out.2.2.1
                have HLI := Lib.hid (show i ≤ 60 ∧ i ≤ b'.n by have := HNB.out; omega)
                have HSG := Lib.hid (show ∀ s, s ∈ ss → ∀ c, c ∈ s.cs → Am.Good c.v from fun s hs c hc => by
                  have h1 : s.cs ∈ Ch.csOf ss := List.mem_map.2 ⟨s, hs, rfl⟩
                  rw [HOa.out.2] at h1
                  exact Ch.spN_good HC.out.gd HI.out.2.2.2 (by have := HLTS.out; omega) s.cs h1 c hc)
                have hLI7 : Ch.L.In (fun _ => True) w7 ⟨b', sa, i, sq, ss⟩ := by
                  obtain ⟨hr1, hr2⟩ := hSS7.o.recs
                  exact ⟨(HBI6.out.moved HM7.out (fun j hj e => by have h1 := HSZ.out; have h2 := HFS.out; rcases e with e | e <;> omega)).mono (fun _ _ => trivial), hr1, hr2, (fun _ _ _ => trivial), fun s hs => ⟨(hSS7.cs s hs).recs.1, (hSS7.cs s hs).recs.2, fun _ _ _ => trivial⟩⟩
                rw [← HTB.out] at hch7
                have HRE := Lib.hid (show Ch.runE M TS = de by rw [Ch.runE_at HI.out.2.2.2 HTI.out (by rw [← HMI.out, ← HDE.out]; exact HD0.out), ← HMI.out, HDE.out])
                have HSM2 := HSM
                replace HSM := HSM'
                clear hok hno ho7 hA7 h0
                go_upto_region 12 with fail
                obtain ⟨ws, hws⟩ : ∃ ww, ww = w7.drew := ⟨_, rfl⟩
                have hbs : Below w7.heap.size w7 ws := by rw [hws]; exact (Below.refl _ _).drew
                have hLs := hL7.under hbs hL7.lt
                have hHs := hH7.under hbs hH7.lt
                have hLIs := hLI7.below hbs
                have hSs := hS7.below hbs
                have hKs := hK7.below hbs
                have lK := fun (wq : World) (hSw : HeldM (fun j => j = sb) ws wq) => (hLs.moved hSw.out HN6.out).load_agg (P := Tryz.prog) (t := 153) Tryz.underlying153 rfl (lkRec.size_eq size_lk HP6.out)
                have C0 := fun (wq : World) (hSw : HeldM (fun j => j = sb) ws wq) => (show wq.cell? ⟨g, 0, none⟩ = some (.pointer (some ⟨sg, 0, none⟩)) from (hHs.moved hSw.out HNG.out).cell_at rfl)
                refine wp_region_held_drew (S := HeldM (fun j => j = sb) ws) (by kernel_rfl) (by rw [hws]; exact HeldM.refl _ _) (fun hHeld => ?_)
                rw [← hws] at hHeld ⊢
                clear hws
                refine take_at 0 56 rfl rfl (by kernel_rfl) (by kernel_rfl) (by kernel_rfl) (fun _ _ _ h => h) hHeld (yieldsIf_load_agg (by rfl) 153 (.tmp 6) rfl _ _ (by rfl) (fun wq hSw => lK wq hSw)) rfl ?_
                simp only [List.set_cons_zero, List.set_cons_succ]
                refine take_at (v := ?_) 1 57 rfl rfl (by kernel_rfl) (by kernel_rfl) (by kernel_rfl) (fun _ _ _ h => h) hHeld (Or.inl ⟨by rfl, ?_⟩) rfl ?_
                rotate_left
                · intro wq hSw
                  go_simp
                  try with_reducible rfl
                simp only [List.set_cons_zero, List.set_cons_succ]
                refine take_at (v := ?_) 2 58 rfl rfl (by kernel_rfl) (by kernel_rfl) (by kernel_rfl) (fun _ _ _ h => h) hHeld (Or.inl ⟨by rfl, ?_⟩) rfl ?_
                rotate_left
                · intro wq hSw
                  go_simp
                  try with_reducible rfl
                simp only [List.set_cons_zero, List.set_cons_succ]
                refine take_at (v := ?_) 3 59 rfl rfl (by kernel_rfl) (by kernel_rfl) (by kernel_rfl) (fun _ _ _ h => h) hHeld (Or.inl ⟨by rfl, ?_⟩) rfl ?_
                rotate_left
                · intro wq hSw
                  go_simp
                  try with_reducible rfl
                simp only [List.set_cons_zero, List.set_cons_succ]
                refine take_at (v := ?_) 4 60 rfl rfl (by kernel_rfl) (by kernel_rfl) (by kernel_rfl) (fun _ _ _ h => h) hHeld (Or.inl ⟨by rfl, ?_⟩) rfl ?_
                rotate_left
                · intro wq hSw
                  have hst := C0 wq hSw
                  go_simp
                  try with_reducible rfl
                simp only [List.set_cons_zero, List.set_cons_succ]
                refine wpAnyH_ready (rs := [5]) (by kernel_rfl) (by simp) ?_
                refine AllReadyH.cons rfl (fun K hK => ?_) AllReadyH.nil
                go_simp
                go_at_call 85
                refine (lundo_any (G := fun _ => True) ⟨b', sa, i, sq, ss⟩ sg sb ws hLIs HSM.out HSG.out HLI.out.2 (Nat.le_trans HLI.out.1 (by decide)) hSs hg7 hch7 hKs).mono ?_
                rintro e w9 ⟨⟨uu, rfl⟩, M8, hS8, hg8, hch8, hm8⟩
                refine hK.out _ _ (HeldM.of hm8) (fun _ => ?_)
                clear hK K
                try simp only [Act.put, List.setIfInBounds_toArray, List.set_cons_zero, List.set_cons_succ]
                replace hHeld := HeldM.of (F := fun j => j = sb) hm8
                refine wpAnyH_done (by kernel_rfl) ?_ _
                have hmw : Moved (fun j => j = sb) w w9 := ((Moved.of_below (F := fun j => j = sb) HT6.out).trans HM7.out (fun j e => e.elim .inl (fun e => .inr (by have := HSZ.out; omega)))).trans ((Moved.of_below (F := fun j => j = sb) hbs).trans hm8 (fun j e => .inl e)) (fun j e => .inl e)
                have HFN := Lib.hid (HC.out.again hmw hS8 hg8 hch8)
                have HMF := Lib.hid (hmw.mono (G := F) (fun j e => by rw [show j = sb from e]; exact HC.out.fb))
                have HLK := Lib.hid (fun q => Ch.chain_det hch8 HC.out.ch q)
                clear lK C0 hHeld hmw
                go_wp2
                go_ret
                have hz : Ch.conE M X b.prev b.h (Ch.tsOf b.vs) = de := by
                  unfold Ch.conE
                  rw [← HTS.out, if_pos HC0.out, if_pos ⟨by rw [HPT.out, HTD.out], by rw [HHH.out, HXN.out]⟩, HRE.out]
                refine ⟨F, G, la, lq, M8, X, by rw [hz]; exact congrArg Ending.returned HE7.out.symm, HFN.out, HMF.out, (fun j e => .inl e), (fun j e => .inl e), fun e => absurd (hz.symm.trans e) HD0.out, fun _ => ⟨rfl, HLK.out⟩⟩
          · --DEVD
            have hii : ¬ (i : Int) < (n : Int) := by omega
            obtain rfl : n = i := by omega
            have hmw : Moved (fun j => j = sb) w wr := (Moved.of_below (F := fun j => j = sb) HT6.out).trans hm (fun j e => e.elim .inl (fun e => .inr (by have := HSZ.out; omega)))
            have HFN := Lib.hid (show TS.take n = TS from List.take_of_length_le (by have := HLTS.out; omega))
            clear HCM HKR hHr hm
            go_upto_region 16 with fail
            obtain ⟨ws, hws⟩ : ∃ ww, ww = wr.drew := ⟨_, rfl⟩
            have hbs : Below wr.heap.size wr ws := by rw [hws]; exact (Below.refl _ _).drew
            have hLs := hL.under hbs hL.lt
            have HPT9 := Lib.hid (HC.out.parts (hmw.trans (Moved.of_below (F := fun j => j = sb) hbs) (fun j e => .inl e)))
            have hHs := HPT9.out.1
            have HSW := Lib.hid (show w.heap.size ≤ ws.heap.size ∧ wr.heap.size ≤ ws.heap.size from ⟨by have := hmw.size; have := hbs.size; omega, hbs.size⟩)
            have HBS := Lib.hid hbs
            have HMW9 := Lib.hid hmw
            have hn6 : ¬ (g6 = g ∨ (F g6 ∧ ∃ cs, Has ws g6 153 cs)) := fun e => by
              have h1 := HSZ.out
              have h2 := HFS.out
              rcases e with e | e
              · omega
              · have := (HC.out.Fl g6 e.1).2
                omega
            have lK := fun (wq : World) (hSw : HeldM (fun j => j = g ∨ (F j ∧ ∃ cs, Has ws j 153 cs)) ws wq) => (hLs.moved hSw.out hn6).load_agg (P := Tryz.prog) (t := 153) Tryz.underlying153 rfl (lkRec.size_eq size_lk HP6.out)
            clear hbs hmw hn6
            refine wp_region_held_drew (S := HeldM (fun j => j = g ∨ (F j ∧ ∃ cs, Has ws j 153 cs)) ws) (by kernel_rfl) (by rw [hws]; exact HeldM.refl _ _) (fun hHeld => ?_)
            rw [← hws] at hHeld ⊢
            clear hws
            refine take_at (v := ?_) 0 71 rfl rfl (by kernel_rfl) (by kernel_rfl) (by kernel_rfl) (fun _ _ _ h => h) hHeld (Or.inl ⟨by rfl, ?_⟩) rfl ?_
            rotate_left
            · intro wq hSw
              go_simp
              try with_reducible rfl
            simp only [List.set_cons_zero, List.set_cons_succ]
            refine take_at (v := ?_) 1 72 rfl rfl (by kernel_rfl) (by kernel_rfl) (by kernel_rfl) (fun _ _ _ h => h) hHeld (Or.inl ⟨by rfl, ?_⟩) rfl ?_
            rotate_left
            · intro wq hSw
              go_simp
              try with_reducible rfl
            simp only [List.set_cons_zero, List.set_cons_succ]
            refine take_at (v := ?_) 2 73 rfl rfl (by kernel_rfl) (by kernel_rfl) (by kernel_rfl) (fun _ _ _ h => h) hHeld (Or.inl ⟨by rfl, ?_⟩) rfl ?_
            rotate_left
            · intro wq hSw
              go_simp
              try with_reducible rfl
            simp only [List.set_cons_zero, List.set_cons_succ]
            refine take_at (v := ?_) 3 74 rfl rfl (by kernel_rfl) (by kernel_rfl) (by kernel_rfl) (fun _ _ _ h => h) hHeld (Or.inl ⟨by rfl, ?_⟩) rfl ?_
            rotate_left
            · intro wq hSw
              go_simp
              try with_reducible rfl
            simp only [List.set_cons_zero, List.set_cons_succ]
            refine take_at 5 76 rfl rfl (by kernel_rfl) (by kernel_rfl) (by kernel_rfl) (fun _ _ _ h => h) hHeld (yieldsIf_load_agg (by rfl) 153 (.tmp 6) rfl _ _ (by rfl) (fun wq hSw => lK wq hSw)) rfl ?_
            simp only [List.set_cons_zero, List.set_cons_succ]
            clear lK
            refine wpAnyH_ready (rs := [4, 6]) (by kernel_rfl) (by simp) ?_
            refine AllReadyH.cons rfl (fun K hK => ?_) (AllReadyH.cons rfl (fun K hK => ?_) AllReadyH.nil)
            · have cg : ws.cell? ⟨g, 1, none⟩ = some (.slice la X.length lq) := hHs.cell_at rfl
              go_simp
              refine hK.out _ _ hHeld (fun _ => ?_)
              clear hK K cg
              try simp only [Act.put, List.setIfInBounds_toArray, List.set_cons_zero, List.set_cons_succ]
              refine wpAnyH_ready (rs := [6]) (by kernel_rfl) (by simp) ?_
              refine AllReadyH.cons rfl (fun K hK => ?_) AllReadyH.nil
              refine step_build_row (by rfl) (.tmp 76) 147 rfl 153 Tryz.underlying147 info_lk (by decide) (by decide) (lkCells ⟨b', sa, n, sq, ss⟩).toArray (by rw [List.size_toArray, lkCells_len HP6.out]; rfl) (by first | rfl | simp [Act.eval]) ?_
              obtain ⟨k2, hk2⟩ : ∃ x, x = ws.alloc (.cells (lkCells ⟨b', sa, n, sq, ss⟩).toArray 153) := ⟨_, rfl⟩
              rw [← hk2]
              have hbk2 : Below ws.heap.size ws k2 := by rw [hk2]; exact (Below.refl _ _).alloc (Nat.le_refl _) _
              have hX2 : Recs lkRec k2 (some ⟨ws.heap.size, 0, none⟩) 1 [⟨b', sa, n, sq, ss⟩] := by rw [hk2]; exact recs_one' HP6.out rfl
              have hm2F : Moved (fun j => j = g ∨ (F j ∧ ∃ cs, Has ws j 153 cs)) ws k2 := Moved.of_below hbk2
              refine hK.out _ _ (HeldM.of hm2F) (fun _ => ?_)
              clear hK K
              try simp only [Act.put]
              try simp only [List.setIfInBounds_toArray]
              try simp only [List.set_cons_zero, List.set_cons_succ]
              replace hHeld := HeldM.of hm2F
              obtain ⟨g9, hg9⟩ : ∃ g, g = ws.heap.size := ⟨_, rfl⟩
              rw [← hg9] at hX2 ⊢
              clear hk2 hg9
              have hH2 := hHs.under hbk2 hHs.lt
              refine wpAnyH_ready (rs := [7]) (by kernel_rfl) (by simp) ?_
              refine AllReadyH.cons rfl (fun K hK => ?_) AllReadyH.nil
              refine step_append_link (D := D) (F := F) (G := G) (X := X) (by rfl) (.tmp 75) (.tmp 77) 147 rfl Tryz.underlying147 info_lk (by first | rfl | simp [Act.eval]) (HPT9.out.2.1.below hbk2) (HPT9.out.2.2.1.below hbk2) ⟨g9, 0, none⟩ ⟨b', sa, n, sq, ss⟩ (by first | rfl | simp [Act.eval]) hX2 (by have := HXL.out; omega) (by have := HDW.out; have := hbk2.size; have := HSW.out; omega) ?_
              intro va k3 ho3 hm3 hl3
              obtain ⟨la', lq', rfl, _⟩ := ho3.shape (K := X.length + 1) (by rw [List.length_append]; rfl)
              have hm3F : Moved (fun j => j = g ∨ (F j ∧ ∃ cs, Has ws j 153 cs)) k2 k3 := hm3.mono (fun j e => .inr ⟨e.1, by
                obtain ⟨cs, hcs⟩ := e.2
                exact ⟨cs, (hbk2.block j (by have := (HC.out.Fl j e.1).2; have := HSW.out; omega)).symm.trans hcs⟩⟩)
              refine hK.out _ _ (HeldM.of (hm2F.trans hm3F (fun _ e => .inl e))) (fun _ => ?_)
              clear hK K
              try simp only [Act.put]
              try simp only [List.setIfInBounds_toArray]
              try simp only [List.set_cons_zero, List.set_cons_succ]
              replace hHeld := HeldM.of (hm2F.trans hm3F (fun _ e => .inl e))
              have hH3 := hH2.moved hm3 (fun e => by
                obtain ⟨_, cs, hcs⟩ := e
                exact Has.ne_type hH2 hcs (by decide) rfl)
              refine take_at (v := ?_) 8 79 rfl rfl (by kernel_rfl) (by kernel_rfl) (by kernel_rfl) (fun _ _ _ h => h) hHeld (Or.inl ⟨by rfl, ?_⟩) rfl ?_
              rotate_left
              · intro wq hSw
                go_simp
                try with_reducible rfl
              try simp only [List.set_cons_zero, List.set_cons_succ]
              refine take_at (v := ?_) 9 80 rfl rfl (by kernel_rfl) (by kernel_rfl) (by kernel_rfl) (fun _ _ _ h => h) hHeld (Or.inl ⟨by rfl, ?_⟩) rfl ?_
              rotate_left
              · intro wq hSw
                go_simp
                try with_reducible rfl
              try simp only [List.set_cons_zero, List.set_cons_succ]
              have cg : k3.cell? ⟨g, 1, none⟩ = some (.slice la X.length lq) := hH3.cell_at rfl
              have lg := hH3.loose 1
              refine wpAnyH_ready (rs := [10]) (by kernel_rfl) (by simp) ?_
              refine AllReadyH.cons rfl (fun K hK => ?_) AllReadyH.nil
              go_simp
              obtain ⟨k4, hk4⟩ : ∃ x, x = k3.setCell ⟨g, 1, none⟩ (.slice la' (X.length + 1) lq') := ⟨_, rfl⟩
              rw [← hk4]
              have hm4 : Moved (fun j => j = g) k3 k4 := by rw [hk4]; exact Moved.put (F := fun j => j = g) (Moved.refl _ _) (.inl rfl) _ _
              have hH4 : Has k4 g 149 #[.pointer (some ⟨sg, 0, none⟩), .slice la' (X.length + 1) lq'] := by rw [hk4]; exact hH3.put 1 (.slice la' (X.length + 1) lq')
              have hm04 : Moved (fun j => j = g ∨ (F j ∧ ∃ cs, Has ws j 153 cs)) ws k4 := (hm2F.trans hm3F (fun _ e => .inl e)).trans hm4 (fun _ e => .inl (.inl e))
              refine hK.out _ _ (HeldM.of hm04) (fun _ => ?_)
              clear hK K cg lg hk4 hHeld
              refine wpAnyH_done (by kernel_rfl) ?_ _
              have HO4 := ho3.moved hm4 (fun j e e2 => by
                have e3 : j = g := e2
                subst e3
                obtain ⟨cs, hcs⟩ := ownr_block ho3 e
                exact Has.ne_type hH3 hcs (by decide) rfl)
              have hnF : ∀ j, w.heap.size ≤ j → ¬ (j = g ∨ (F j ∧ ∃ cs, Has ws j 153 cs)) := fun j hj e => by
                rcases e with e | e
                · have := HFS.out; omega
                · have := (HC.out.Fl j e.1).2; omega
              have hGx : ∀ j, G j → ¬ (j = g ∨ (F j ∧ ∃ cs, Has ws j 153 cs)) := fun j hj e => by
                rcases e with e | e
                · exact HC.out.GF j hj (by rw [e]; exact HC.out.fg)
                · exact HC.out.GF j hj e.1
              have hSs := HI.out.1.below HBS.out
              have hS4 : SetB k4 sg sb (Ch.doN M TS n) := hSs.moved hm04 (fun e => by
                rcases e with e | ⟨_, cs, hcs⟩
                · exact Has.ne_type hSs.has hHs (by decide) e
                · exact Has.ne_type hSs.has hcs (by decide) rfl) (fun e => by
                rcases e with e | ⟨_, cs, hcs⟩
                · exact HNG.out e.symm
                · exact has_ne_map hcs hSs.map rfl)
              obtain ⟨hr1, hr2⟩ := HO.out.1.o.recs
              have hin : Ch.L.In (fun j => w.heap.size ≤ j ∧ j < wr.heap.size) wr ⟨b', sa, n, sq, ss⟩ := by
                refine ⟨HBIr.out.mono (fun j e => ⟨by have := HT6.out.size; have := HSZ.out; have h1 := e.1; have h4 : w.heap.size ≤ w3.heap.size := (by have := HB1.out.size; have := HW13.out; omega); omega, by have := HSZ.out; have h3 := HWR.out; have h5 := e.2; omega⟩), hr1, hr2, ?_, fun s hs => ⟨(HO.out.1.cs s hs).recs.1, (HO.out.1.cs s hs).recs.2, ?_⟩⟩
                · exact (HO.out.1.o.inB).mono (fun j e => ⟨by have := HT6.out.size; have := HSZ.out; omega, e.2⟩)
                · exact ((HO.out.1.cs s hs).inB).mono (fun j e => ⟨by have := HT6.out.size; have := HSZ.out; omega, e.2⟩)
              have hin4 := (hin.below HBS.out).moved hm04 (fun j hj => hnF j hj.1)
              have hrun := Ch.runE_all (ts := TS) (M := M) (fun j u hu => HI.out.2.2.2 j u (by have := HLTS.out; have := (List.getElem?_eq_some_iff.1 hu).1; omega) hu)
              have hz : Ch.conE M X b.prev b.h (Ch.tsOf b.vs) = 0 := by
                unfold Ch.conE
                rw [← HTS.out, if_pos HC0.out, if_pos ⟨by rw [HPT.out, HTD.out], by rw [HHH.out, HXN.out]⟩, hrun]
              have hok : Ch.L.Ok ⟨b', sa, n, sq, ss⟩ := by
                refine ⟨by show b'.n ≤ 60; have := HNB.out; omega, ?_, fun x hx => ⟨HSM'.out x hx, ?_⟩, fun s hs => ?_⟩
                · show ss.length = b'.vs.length
                  have h1 := congrArg List.length HO.out.2
                  have h2 := congrArg List.length HTB.out
                  unfold Ch.csOf at h1
                  rw [List.length_map, Ch.spN_len (by have := HLTS.out; omega)] at h1
                  rw [Ch.tsOf_len] at h2
                  have := HLTS.out
                  omega
                · have h1 : x.t ∈ TS := by rw [← HTB.out]; exact List.mem_map.2 ⟨x, hx, rfl⟩
                  exact ⟨(HSM'.out x hx).2.1, Cs.co_good (Ch.bad_good (Ch.chk_parts HC0.out).2.2.1 x.t h1)⟩
                · have h1 : s.cs ∈ Ch.csOf ss := List.mem_map.2 ⟨s, hs, rfl⟩
                  rw [HO.out.2] at h1
                  exact Ch.spN_all (fun c => Ch.Few c) (fun j u h2 h3 => Ch.few_spent (Ch.doN_good HC.out.gd (fun k v h4 h5 => HI.out.2.2.2 k v (by omega) h5) (by have := HLTS.out; omega)) (by
                    have h6 := List.mem_of_getElem? h3
                    rw [← HTB.out] at h6
                    obtain ⟨y, hy, rfl⟩ := List.mem_map.1 h6
                    exact HSM'.out y hy)) (by have := HLTS.out; omega) s.cs h1
              have hch := HI.out.2.2.1
              rw [HFN.out] at hch
              have hkk := hbk2.size
              have h34 := hm3.size
              have h44 := hm4.size
              have hlen : (X ++ [(⟨b', sa, n, sq, ss⟩ : Ch.L)]).length = X.length + 1 := by rw [List.length_append]; rfl
              have hFin : ChAt D k4 g sg sb (fun j => F j ∨ (Value.slice la' (X.length + 1) lq').ownBlock = some j) (fun j => G j ∨ (w.heap.size ≤ j ∧ j < wr.heap.size)) la' lq' M0 (Ch.doN M TS n) (X ++ [⟨b', sa, n, sq, ss⟩]) := by
                refine ⟨by rw [hlen]; exact hH4, hS4, HI.out.2.1, by rw [hlen]; exact HO4.recs.1, by rw [hlen]; exact HO4.recs.2, .own (by rw [hlen]; exact HO4) (fun k e => .inr (by rw [hlen] at e; exact e)), ?_, ?_, ?_, .inl HC.out.fg, .inl HC.out.fs, .inl HC.out.fb, ?_, ?_, ?_⟩
                · intro l hl
                  rcases List.mem_append.1 hl with hl | hl
                  · exact ⟨(((HPT9.out.2.2.2 l hl).1).moved hm04 hGx).mono (fun j e => .inl e), (HPT9.out.2.2.2 l hl).2⟩
                  · rw [List.mem_singleton.1 hl]
                    exact ⟨hin4.mono (fun j e => .inr e), hok⟩
                · rw [Ch.allHist_snoc]
                  show Cs.Chain M0 (Ch.hist (Ch.tsOf b'.vs) (Ch.csOf ss) ++ Ch.allHist X) _
                  rw [HTB.out]
                  exact hch
                · intro i l hl
                  rcases Nat.lt_or_ge i X.length with h1 | h1
                  · rw [List.getElem?_append_left h1] at hl
                    exact HC.out.hs i l hl
                  · rw [List.getElem?_append_right h1] at hl
                    have h2 : i - X.length = 0 := by
                      have := (List.getElem?_eq_some_iff.1 hl).1
                      simp at this
                      omega
                    rw [h2] at hl
                    obtain rfl : (⟨b', sa, n, sq, ss⟩ : Ch.L) = l := by simpa using hl
                    show b'.h = _
                    rw [HEE.out.2.1, HHH.out, HXN.out]
                    omega
                · rintro j hj hF
                  have hnew : (Value.slice la' (X.length + 1) lq').ownBlock = some j → F j ∨ k2.heap.size ≤ j := hl3 j
                  have hwr := HSW.out
                  rcases hj with hj | hj
                  · rcases hF with hF | hF
                    · exact HC.out.GF j hj hF
                    · rcases hnew hF with e | e
                      · exact HC.out.GF j hj e
                      · have := HC.out.Gl j hj; omega
                  · rcases hF with hF | hF
                    · have := (HC.out.Fl j hF).2; omega
                    · rcases hnew hF with e | e
                      · have := (HC.out.Fl j e).2; omega
                      · omega
                · intro j hj
                  have hwr := HSW.out
                  rcases hj with hj | hj
                  · have := HC.out.Fl j hj; exact ⟨this.1, by omega⟩
                  · exact ⟨(HO4.lt_size j hj).1, (HO4.lt_size j hj).2⟩
                · intro j hj
                  have hwr := HSW.out
                  rcases hj with hj | hj
                  · have := HC.out.Gl j hj; omega
                  · omega
              have hMF : Moved F w k4 := ((HMW9.out.mono (G := F) (fun j e => by rw [show j = sb from e]; exact HC.out.fb)).trans (Moved.of_below (F := F) HBS.out) (fun j e => .inl e)).trans hm04 (fun j e => by
                rcases e with e | e
                · exact .inl (by rw [e]; exact HC.out.fg)
                · exact .inl e.1)
              have HFIN := Lib.hid hFin
              have HMF := Lib.hid hMF
              have HZZ := Lib.hid hz
              have HL3 := Lib.hid hl3
              have HK2 := Lib.hid (show w.heap.size ≤ k2.heap.size by have := HSW.out; omega)
              clear hFin hMF hz hin hin4 hok hch hrun hS4 hSs hnF hGx HO4 hm04 hm4 hH4 hH3 hH2 hm3 hl3 hm3F hm2F hX2 hbk2 ho3 hHs hLs
              go_wp2
              go_ret
              refine ⟨_, _, la', lq', Ch.doN M TS n, _, by rw [HZZ.out]; rfl, HFIN.out, HMF.out, fun j e => e.elim .inl (fun e => (HL3.out j e).elim .inl (fun e => .inr (by have := HK2.out; omega))), fun j e => e.elim .inl (fun e => .inr e.1), fun _ => ⟨_, rfl, HEE.out.1, HEE.out.2.1, HEE.out.2.2.2, ?_, ?_⟩, fun e => absurd HZZ.out e⟩
              · rw [← HTS.out, ← HNB.out.2]
                exact HO.out.2
              · rw [← HTS.out, ← HNB.out.2]
            · refine step_build_row (by rfl) (.tmp 76) 147 rfl 153 Tryz.underlying147 info_lk (by decide) (by decide) (lkCells ⟨b', sa, n, sq, ss⟩).toArray (by rw [List.size_toArray, lkCells_len HP6.out]; rfl) (by first | rfl | simp [Act.eval]) ?_
              obtain ⟨k2, hk2⟩ : ∃ x, x = ws.alloc (.cells (lkCells ⟨b', sa, n, sq, ss⟩).toArray 153) := ⟨_, rfl⟩
              rw [← hk2]
              have hbk2 : Below ws.heap.size ws k2 := by rw [hk2]; exact (Below.refl _ _).alloc (Nat.le_refl _) _
              have hX2 : Recs lkRec k2 (some ⟨ws.heap.size, 0, none⟩) 1 [⟨b', sa, n, sq, ss⟩] := by rw [hk2]; exact recs_one' HP6.out rfl
              have hm2F : Moved (fun j => j = g ∨ (F j ∧ ∃ cs, Has ws j 153 cs)) ws k2 := Moved.of_below hbk2
              refine hK.out _ _ (HeldM.of hm2F) (fun _ => ?_)
              clear hK K
              try simp only [Act.put]
              try simp only [List.setIfInBounds_toArray]
              try simp only [List.set_cons_zero, List.set_cons_succ]
              replace hHeld := HeldM.of hm2F
              obtain ⟨g9, hg9⟩ : ∃ g, g = ws.heap.size := ⟨_, rfl⟩
              rw [← hg9] at hX2 ⊢
              clear hk2 hg9
              have hH2 := hHs.under hbk2 hHs.lt
              refine wpAnyH_ready (rs := [4]) (by kernel_rfl) (by simp) ?_
              refine AllReadyH.cons rfl (fun K hK => ?_) AllReadyH.nil
              have cg : k2.cell? ⟨g, 1, none⟩ = some (.slice la X.length lq) := hH2.cell_at rfl
              go_simp
              refine hK.out _ _ hHeld (fun _ => ?_)
              clear hK K cg
              try simp only [Act.put, List.setIfInBounds_toArray, List.set_cons_zero, List.set_cons_succ]
              refine wpAnyH_ready (rs := [7]) (by kernel_rfl) (by simp) ?_
              refine AllReadyH.cons rfl (fun K hK => ?_) AllReadyH.nil
              refine step_append_link (D := D) (F := F) (G := G) (X := X) (by rfl) (.tmp 75) (.tmp 77) 147 rfl Tryz.underlying147 info_lk (by first | rfl | simp [Act.eval]) (HPT9.out.2.1.below hbk2) (HPT9.out.2.2.1.below hbk2) ⟨g9, 0, none⟩ ⟨b', sa, n, sq, ss⟩ (by first | rfl | simp [Act.eval]) hX2 (by have := HXL.out; omega) (by have := HDW.out; have := hbk2.size; have := HSW.out; omega) ?_
              intro va k3 ho3 hm3 hl3
              obtain ⟨la', lq', rfl, _⟩ := ho3.shape (K := X.length + 1) (by rw [List.length_append]; rfl)
              have hm3F : Moved (fun j => j = g ∨ (F j ∧ ∃ cs, Has ws j 153 cs)) k2 k3 := hm3.mono (fun j e => .inr ⟨e.1, by
                obtain ⟨cs, hcs⟩ := e.2
                exact ⟨cs, (hbk2.block j (by have := (HC.out.Fl j e.1).2; have := HSW.out; omega)).symm.trans hcs⟩⟩)
              refine hK.out _ _ (HeldM.of (hm2F.trans hm3F (fun _ e => .inl e))) (fun _ => ?_)
              clear hK K
              try simp only [Act.put]
              try simp only [List.setIfInBounds_toArray]
              try simp only [List.set_cons_zero, List.set_cons_succ]
              replace hHeld := HeldM.of (hm2F.trans hm3F (fun _ e => .inl e))
              have hH3 := hH2.moved hm3 (fun e => by
                obtain ⟨_, cs, hcs⟩ := e
                exact Has.ne_type hH2 hcs (by decide) rfl)
              refine take_at (v := ?_) 8 79 rfl rfl (by kernel_rfl) (by kernel_rfl) (by kernel_rfl) (fun _ _ _ h => h) hHeld (Or.inl ⟨by rfl, ?_⟩) rfl ?_
              rotate_left
              · intro wq hSw
                go_simp
                try with_reducible rfl
              try simp only [List.set_cons_zero, List.set_cons_succ]
              refine take_at (v := ?_) 9 80 rfl rfl (by kernel_rfl) (by kernel_rfl) (by kernel_rfl) (fun _ _ _ h => h) hHeld (Or.inl ⟨by rfl, ?_⟩) rfl ?_
              rotate_left
              · intro wq hSw
                go_simp
                try with_reducible rfl
              try simp only [List.set_cons_zero, List.set_cons_succ]
              have cg : k3.cell? ⟨g, 1, none⟩ = some (.slice la X.length lq) := hH3.cell_at rfl
              have lg := hH3.loose 1
              refine wpAnyH_ready (rs := [10]) (by kernel_rfl) (by simp) ?_
              refine AllReadyH.cons rfl (fun K hK => ?_) AllReadyH.nil
              go_simp
              obtain ⟨k4, hk4⟩ : ∃ x, x = k3.setCell ⟨g, 1, none⟩ (.slice la' (X.length + 1) lq') := ⟨_, rfl⟩
              rw [← hk4]
              have hm4 : Moved (fun j => j = g) k3 k4 := by rw [hk4]; exact Moved.put (F := fun j => j = g) (Moved.refl _ _) (.inl rfl) _ _
              have hH4 : Has k4 g 149 #[.pointer (some ⟨sg, 0, none⟩), .slice la' (X.length + 1) lq'] := by rw [hk4]; exact hH3.put 1 (.slice la' (X.length + 1) lq')
              have hm04 : Moved (fun j => j = g ∨ (F j ∧ ∃ cs, Has ws j 153 cs)) ws k4 := (hm2F.trans hm3F (fun _ e => .inl e)).trans hm4 (fun _ e => .inl (.inl e))
              refine hK.out _ _ (HeldM.of hm04) (fun _ => ?_)
              clear hK K cg lg hk4 hHeld
              refine wpAnyH_done (by kernel_rfl) ?_ _
              have HO4 := ho3.moved hm4 (fun j e e2 => by
                have e3 : j = g := e2
                subst e3
                obtain ⟨cs, hcs⟩ := ownr_block ho3 e
                exact Has.ne_type hH3 hcs (by decide) rfl)
              have hnF : ∀ j, w.heap.size ≤ j → ¬ (j = g ∨ (F j ∧ ∃ cs, Has ws j 153 cs)) := fun j hj e => by
                rcases e with e | e
                · have := HFS.out; omega
                · have := (HC.out.Fl j e.1).2; omega
              have hGx : ∀ j, G j → ¬ (j = g ∨ (F j ∧ ∃ cs, Has ws j 153 cs)) := fun j hj e => by
                rcases e with e | e
                · exact HC.out.GF j hj (by rw [e]; exact HC.out.fg)
                · exact HC.out.GF j hj e.1
              have hSs := HI.out.1.below HBS.out
              have hS4 : SetB k4 sg sb (Ch.doN M TS n) := hSs.moved hm04 (fun e => by
                rcases e with e | ⟨_, cs, hcs⟩
                · exact Has.ne_type hSs.has hHs (by decide) e
                · exact Has.ne_type hSs.has hcs (by decide) rfl) (fun e => by
                rcases e with e | ⟨_, cs, hcs⟩
                · exact HNG.out e.symm
                · exact has_ne_map hcs hSs.map rfl)
              obtain ⟨hr1, hr2⟩ := HO.out.1.o.recs
              have hin : Ch.L.In (fun j => w.heap.size ≤ j ∧ j < wr.heap.size) wr ⟨b', sa, n, sq, ss⟩ := by
                refine ⟨HBIr.out.mono (fun j e => ⟨by have := HT6.out.size; have := HSZ.out; have h1 := e.1; have h4 : w.heap.size ≤ w3.heap.size := (by have := HB1.out.size; have := HW13.out; omega); omega, by have := HSZ.out; have h3 := HWR.out; have h5 := e.2; omega⟩), hr1, hr2, ?_, fun s hs => ⟨(HO.out.1.cs s hs).recs.1, (HO.out.1.cs s hs).recs.2, ?_⟩⟩
                · exact (HO.out.1.o.inB).mono (fun j e => ⟨by have := HT6.out.size; have := HSZ.out; omega, e.2⟩)
                · exact ((HO.out.1.cs s hs).inB).mono (fun j e => ⟨by have := HT6.out.size; have := HSZ.out; omega, e.2⟩)
              have hin4 := (hin.below HBS.out).moved hm04 (fun j hj => hnF j hj.1)
              have hrun := Ch.runE_all (ts := TS) (M := M) (fun j u hu => HI.out.2.2.2 j u (by have := HLTS.out; have := (List.getElem?_eq_some_iff.1 hu).1; omega) hu)
              have hz : Ch.conE M X b.prev b.h (Ch.tsOf b.vs) = 0 := by
                unfold Ch.conE
                rw [← HTS.out, if_pos HC0.out, if_pos ⟨by rw [HPT.out, HTD.out], by rw [HHH.out, HXN.out]⟩, hrun]
              have hok : Ch.L.Ok ⟨b', sa, n, sq, ss⟩ := by
                refine ⟨by show b'.n ≤ 60; have := HNB.out; omega, ?_, fun x hx => ⟨HSM'.out x hx, ?_⟩, fun s hs => ?_⟩
                · show ss.length = b'.vs.length
                  have h1 := congrArg List.length HO.out.2
                  have h2 := congrArg List.length HTB.out
                  unfold Ch.csOf at h1
                  rw [List.length_map, Ch.spN_len (by have := HLTS.out; omega)] at h1
                  rw [Ch.tsOf_len] at h2
                  have := HLTS.out
                  omega
                · have h1 : x.t ∈ TS := by rw [← HTB.out]; exact List.mem_map.2 ⟨x, hx, rfl⟩
                  exact ⟨(HSM'.out x hx).2.1, Cs.co_good (Ch.bad_good (Ch.chk_parts HC0.out).2.2.1 x.t h1)⟩
                · have h1 : s.cs ∈ Ch.csOf ss := List.mem_map.2 ⟨s, hs, rfl⟩
                  rw [HO.out.2] at h1
                  exact Ch.spN_all (fun c => Ch.Few c) (fun j u h2 h3 => Ch.few_spent (Ch.doN_good HC.out.gd (fun k v h4 h5 => HI.out.2.2.2 k v (by omega) h5) (by have := HLTS.out; omega)) (by
                    have h6 := List.mem_of_getElem? h3
                    rw [← HTB.out] at h6
                    obtain ⟨y, hy, rfl⟩ := List.mem_map.1 h6
                    exact HSM'.out y hy)) (by have := HLTS.out; omega) s.cs h1
              have hch := HI.out.2.2.1
              rw [HFN.out] at hch
              have hkk := hbk2.size
              have h34 := hm3.size
              have h44 := hm4.size
              have hlen : (X ++ [(⟨b', sa, n, sq, ss⟩ : Ch.L)]).length = X.length + 1 := by rw [List.length_append]; rfl
              have hFin : ChAt D k4 g sg sb (fun j => F j ∨ (Value.slice la' (X.length + 1) lq').ownBlock = some j) (fun j => G j ∨ (w.heap.size ≤ j ∧ j < wr.heap.size)) la' lq' M0 (Ch.doN M TS n) (X ++ [⟨b', sa, n, sq, ss⟩]) := by
                refine ⟨by rw [hlen]; exact hH4, hS4, HI.out.2.1, by rw [hlen]; exact HO4.recs.1, by rw [hlen]; exact HO4.recs.2, .own (by rw [hlen]; exact HO4) (fun k e => .inr (by rw [hlen] at e; exact e)), ?_, ?_, ?_, .inl HC.out.fg, .inl HC.out.fs, .inl HC.out.fb, ?_, ?_, ?_⟩
                · intro l hl
                  rcases List.mem_append.1 hl with hl | hl
                  · exact ⟨(((HPT9.out.2.2.2 l hl).1).moved hm04 hGx).mono (fun j e => .inl e), (HPT9.out.2.2.2 l hl).2⟩
                  · rw [List.mem_singleton.1 hl]
                    exact ⟨hin4.mono (fun j e => .inr e), hok⟩
                · rw [Ch.allHist_snoc]
                  show Cs.Chain M0 (Ch.hist (Ch.tsOf b'.vs) (Ch.csOf ss) ++ Ch.allHist X) _
                  rw [HTB.out]
                  exact hch
                · intro i l hl
                  rcases Nat.lt_or_ge i X.length with h1 | h1
                  · rw [List.getElem?_append_left h1] at hl
                    exact HC.out.hs i l hl
                  · rw [List.getElem?_append_right h1] at hl
                    have h2 : i - X.length = 0 := by
                      have := (List.getElem?_eq_some_iff.1 hl).1
                      simp at this
                      omega
                    rw [h2] at hl
                    obtain rfl : (⟨b', sa, n, sq, ss⟩ : Ch.L) = l := by simpa using hl
                    show b'.h = _
                    rw [HEE.out.2.1, HHH.out, HXN.out]
                    omega
                · rintro j hj hF
                  have hnew : (Value.slice la' (X.length + 1) lq').ownBlock = some j → F j ∨ k2.heap.size ≤ j := hl3 j
                  have hwr := HSW.out
                  rcases hj with hj | hj
                  · rcases hF with hF | hF
                    · exact HC.out.GF j hj hF
                    · rcases hnew hF with e | e
                      · exact HC.out.GF j hj e
                      · have := HC.out.Gl j hj; omega
                  · rcases hF with hF | hF
                    · have := (HC.out.Fl j hF).2; omega
                    · rcases hnew hF with e | e
                      · have := (HC.out.Fl j e).2; omega
                      · omega
                · intro j hj
                  have hwr := HSW.out
                  rcases hj with hj | hj
                  · have := HC.out.Fl j hj; exact ⟨this.1, by omega⟩
                  · exact ⟨(HO4.lt_size j hj).1, (HO4.lt_size j hj).2⟩
                · intro j hj
                  have hwr := HSW.out
                  rcases hj with hj | hj
                  · have := HC.out.Gl j hj; omega
                  · omega
              have hMF : Moved F w k4 := ((HMW9.out.mono (G := F) (fun j e => by rw [show j = sb from e]; exact HC.out.fb)).trans (Moved.of_below (F := F) HBS.out) (fun j e => .inl e)).trans hm04 (fun j e => by
                rcases e with e | e
                · exact .inl (by rw [e]; exact HC.out.fg)
                · exact .inl e.1)
              have HFIN := Lib.hid hFin
              have HMF := Lib.hid hMF
              have HZZ := Lib.hid hz
              have HL3 := Lib.hid hl3
              have HK2 := Lib.hid (show w.heap.size ≤ k2.heap.size by have := HSW.out; omega)
              clear hFin hMF hz hin hin4 hok hch hrun hS4 hSs hnF hGx HO4 hm04 hm4 hH4 hH3 hH2 hm3 hl3 hm3F hm2F hX2 hbk2 ho3 hHs hLs
              go_wp2
              go_ret
              refine ⟨_, _, la', lq', Ch.doN M TS n, _, by rw [HZZ.out]; rfl, HFIN.out, HMF.out, fun j e => e.elim .inl (fun e => (HL3.out j e).elim .inl (fun e => .inr (by have := HK2.out; omega))), fun j e => e.elim .inl (fun e => .inr e.1), fun _ => ⟨_, rfl, HEE.out.1, HEE.out.2.1, HEE.out.2.2.2, ?_, ?_⟩, fun e => absurd HZZ.out e⟩
              · rw [← HTS.out, ← HNB.out.2]
                exact HO.out.2
              · rw [← HTS.out, ← HNB.out.2]
      · have HHH := Lib.hid hh
        obtain ⟨ws, hws⟩ : ∃ ww, ww = w2.drew := ⟨_, rfl⟩
        have hbs : Below w2.heap.size w2 ws := by rw [hws]; exact (Below.refl _ _).drew
        have hBs := hb2.trans (hbs.mono hb2.size)
        have hXs := HX.out.under hBs HX.out.lt
        have lP := fun (wq : World) (hSw : Held ws wq) => bk_load (hXs.under hSw.below hXs.lt) HP.out
        have C32 := fun (wq : World) (hSw : Held ws wq) => bk_h (hXs.under hSw.below hXs.lt) HP.out
        have HTP := Lib.hid (ptip_any (HC.out.lks.below (HB1.out.trans (hBs.mono HB1.out.size))) (by have := HXL.out; omega) (HK.out.below hBs))
        rw [← HTD.out] at HTP
        refine wp_region_held_drew (S := Held ws) (by kernel_rfl) (by rw [hws]; exact Held.refl _) (fun hHeld => ?_)
        rw [← hws] at hHeld ⊢
        clear hws
        refine take_at (v := ?_) 0 16 rfl rfl (by kernel_rfl) (by kernel_rfl) (by kernel_rfl) (fun _ _ _ h => h) hHeld (Or.inl ⟨by rfl, ?_⟩) rfl ?_
        rotate_left
        · intro wq hSw
          go_simp
          try with_reducible rfl
        simp only [List.set_cons_zero, List.set_cons_succ]
        refine take_at (v := ?_) 1 17 rfl rfl (by kernel_rfl) (by kernel_rfl) (by kernel_rfl) (fun _ _ _ h => h) hHeld (Or.inl ⟨by rfl, ?_⟩) rfl ?_
        rotate_left
        · intro wq hSw
          go_simp
          try with_reducible rfl
        simp only [List.set_cons_zero, List.set_cons_succ]
        refine take_at (v := ?_) 2 18 rfl rfl (by kernel_rfl) (by kernel_rfl) (by kernel_rfl) (fun _ _ _ h => h) hHeld (Or.inl ⟨by rfl, ?_⟩) rfl ?_
        rotate_left
        · intro wq hSw
          go_simp
          try with_reducible rfl
        simp only [List.set_cons_zero, List.set_cons_succ]
        refine take_at (v := ?_) 3 19 rfl rfl (by kernel_rfl) (by kernel_rfl) (by kernel_rfl) (fun _ _ _ h => h) hHeld (Or.inl ⟨by rfl, ?_⟩) rfl ?_
        rotate_left
        · intro wq hSw
          go_simp
          try with_reducible rfl
        simp only [List.set_cons_zero, List.set_cons_succ]
        refine take_at 4 20 rfl rfl (by kernel_rfl) (by kernel_rfl) (by kernel_rfl) (fun _ _ _ h => h) hHeld (yieldsIf_load_agg (by rfl) 34 (.tmp 19) rfl _ _ (by rfl) (fun wq hSw => lP wq hSw)) rfl ?_
        simp only [List.set_cons_zero, List.set_cons_succ]
        refine take_at (v := ?_) 5 21 rfl rfl (by kernel_rfl) (by kernel_rfl) (by kernel_rfl) (fun _ _ _ h => h) hHeld (Or.inl ⟨by rfl, ?_⟩) rfl ?_
        rotate_left
        · intro wq hSw
          go_simp
          try with_reducible rfl
        simp only [List.set_cons_zero, List.set_cons_succ]
        refine wpAnyH_ready (rs := [6]) (by kernel_rfl) (by simp) ?_
        refine AllReadyH.cons rfl (fun K hK => ?_) AllReadyH.nil
        go_simp
        go_at_call 46
        refine HTP.out.mono ?_
        rintro e w3 ⟨rfl, hb3⟩
        refine hK.out _ _ (Held.of hb3) (fun _ => ?_)
        clear hK K
        try simp only [Act.put, List.setIfInBounds_toArray, List.set_cons_zero, List.set_cons_succ]
        replace hHeld := Held.of hb3
        refine take_at 7 23 rfl rfl (by kernel_rfl) (by kernel_rfl) (by kernel_rfl) (fun _ _ _ h => h) hHeld (yieldsIf_neq (by rfl) 34 5 34 32 (.tmp 20) (.tmp 22) rfl b.prev TD (by rfl) (by rfl) (by kernel_rfl) Tryz.underlying34 Tryz.underlying5 (by kernel_rfl) HP.out HTL.out) rfl ?_
        simp only [List.set_cons_zero, List.set_cons_succ]
        rw [HNE.out]
        refine take_at (v := ?_) 8 24 rfl rfl (by kernel_rfl) (by kernel_rfl) (by kernel_rfl) (fun _ _ _ h => h) hHeld (Or.inl ⟨by rfl, ?_⟩) rfl ?_
        rotate_left
        · intro wq hSw
          go_simp
          try with_reducible rfl
        simp only [List.set_cons_zero, List.set_cons_succ]
        refine take_at (v := ?_) 9 25 rfl rfl (by kernel_rfl) (by kernel_rfl) (by kernel_rfl) (fun _ _ _ h => h) hHeld (Or.inl ⟨by rfl, ?_⟩) rfl ?_
        rotate_left
        · intro wq hSw
          go_simp
          try with_reducible rfl
        simp only [List.set_cons_zero, List.set_cons_succ]
        refine take_at (v := ?_) 10 26 rfl rfl (by kernel_rfl) (by kernel_rfl) (by kernel_rfl) (fun _ _ _ h => h) hHeld (Or.inl ⟨by rfl, ?_⟩) rfl ?_
        rotate_left
        · intro wq hSw
          go_simp
          try with_reducible rfl
        simp only [List.set_cons_zero, List.set_cons_succ]
        refine take_at (v := ?_) 11 27 rfl rfl (by kernel_rfl) (by kernel_rfl) (by kernel_rfl) (fun _ _ _ h => h) hHeld (Or.inl ⟨by rfl, ?_⟩) rfl ?_
        rotate_left
        · intro wq hSw
          have hst := C32 wq hSw
          go_simp
          try with_reducible rfl
        simp only [List.set_cons_zero, List.set_cons_succ]
        refine take_at (v := ?_) 12 28 rfl rfl (by kernel_rfl) (by kernel_rfl) (by kernel_rfl) (fun _ _ _ h => h) hHeld (Or.inl ⟨by rfl, ?_⟩) rfl ?_
        rotate_left
        · intro wq hSw
          go_simp
          try with_reducible rfl
        simp only [List.set_cons_zero, List.set_cons_succ]
        refine wpAnyH_ready (rs := [13]) (by kernel_rfl) (by simp) ?_
        refine AllReadyH.cons rfl (fun K hK => ?_) AllReadyH.nil
        go_simp
        go_at_call 45
        refine (pheight_any (HC.out.lks.below (HB1.out.trans ((hBs.trans (hb3.mono hBs.size)).mono HB1.out.size))) (by have := HXL.out; omega)).mono ?_
        rw [← HXN.out]
        rintro e w3 ⟨rfl, rfl⟩
        refine hK.out _ _ (Held.of hb3) (fun _ => ?_)
        clear hK K
        try simp only [Act.put, List.setIfInBounds_toArray, List.set_cons_zero, List.set_cons_succ]
        refine take_at (v := ?_) 14 30 rfl rfl (by kernel_rfl) (by kernel_rfl) (by kernel_rfl) (fun _ _ _ h => h) hHeld (Or.inl ⟨by rfl, ?_⟩) rfl ?_
        rotate_left
        · intro wq hSw
          go_simp
          try with_reducible rfl
        simp only [List.set_cons_zero, List.set_cons_succ]
        refine take_at (v := ?_) 15 31 rfl rfl (by kernel_rfl) (by kernel_rfl) (by kernel_rfl) (fun _ _ _ h => h) hHeld (Or.inl ⟨by rfl, ?_⟩) rfl ?_
        rotate_left
        · intro wq hSw
          go_simp
          try with_reducible rfl
        simp only [List.set_cons_zero, List.set_cons_succ]
        refine take_at (v := ?_) 16 32 rfl rfl (by kernel_rfl) (by kernel_rfl) (by kernel_rfl) (fun _ _ _ h => h) hHeld (Or.inl ⟨by rfl, ?_⟩) rfl ?_
        rotate_left
        · intro wq hSw
          go_simp
          try with_reducible rfl
        simp only [List.set_cons_zero, List.set_cons_succ]
        refine wpAnyH_done (by kernel_rfl) ?_ _
        have hB3 := hBs.trans (hb3.mono hBs.size)
        clear lP C32 hHeld HTP
        have HZ := Lib.hid (show Ch.conE M X b.prev b.h (Ch.tsOf b.vs) = 5 by
          unfold Ch.conE
          rw [← HTS.out, if_pos HC0.out, if_neg (fun e => HHH.out (by rw [e.2, HXN.out]))])
        go_wp2
        go_ret
        exact ConPost.no (HC.out.below (HB1.out.trans (hB3.mono HB1.out.size))) (Moved.of_below (HB1.out.trans (hB3.mono HB1.out.size))) HZ.out (by decide)
    · have HNE := Lib.hid (show (!decide (b.prev = TD)) = true by rw [decide_eq_false hp]; rfl)
      have HPT := Lib.hid hp
      clear hp
      obtain ⟨ws, hws⟩ : ∃ ww, ww = w2.drew := ⟨_, rfl⟩
      have hbs : Below w2.heap.size w2 ws := by rw [hws]; exact (Below.refl _ _).drew
      have hBs := hb2.trans (hbs.mono hb2.size)
      have hXs := HX.out.under hBs HX.out.lt
      have lP := fun (wq : World) (hSw : Held ws wq) => bk_load (hXs.under hSw.below hXs.lt) HP.out
      have C32 := fun (wq : World) (hSw : Held ws wq) => bk_h (hXs.under hSw.below hXs.lt) HP.out
      have HTP := Lib.hid (ptip_any (HC.out.lks.below (HB1.out.trans (hBs.mono HB1.out.size))) (by have := HXL.out; omega) (HK.out.below hBs))
      rw [← HTD.out] at HTP
      refine wp_region_held_drew (S := Held ws) (by kernel_rfl) (by rw [hws]; exact Held.refl _) (fun hHeld => ?_)
      rw [← hws] at hHeld ⊢
      clear hws
      refine take_at (v := ?_) 0 16 rfl rfl (by kernel_rfl) (by kernel_rfl) (by kernel_rfl) (fun _ _ _ h => h) hHeld (Or.inl ⟨by rfl, ?_⟩) rfl ?_
      rotate_left
      · intro wq hSw
        go_simp
        try with_reducible rfl
      simp only [List.set_cons_zero, List.set_cons_succ]
      refine take_at (v := ?_) 1 17 rfl rfl (by kernel_rfl) (by kernel_rfl) (by kernel_rfl) (fun _ _ _ h => h) hHeld (Or.inl ⟨by rfl, ?_⟩) rfl ?_
      rotate_left
      · intro wq hSw
        go_simp
        try with_reducible rfl
      simp only [List.set_cons_zero, List.set_cons_succ]
      refine take_at (v := ?_) 2 18 rfl rfl (by kernel_rfl) (by kernel_rfl) (by kernel_rfl) (fun _ _ _ h => h) hHeld (Or.inl ⟨by rfl, ?_⟩) rfl ?_
      rotate_left
      · intro wq hSw
        go_simp
        try with_reducible rfl
      simp only [List.set_cons_zero, List.set_cons_succ]
      refine take_at (v := ?_) 3 19 rfl rfl (by kernel_rfl) (by kernel_rfl) (by kernel_rfl) (fun _ _ _ h => h) hHeld (Or.inl ⟨by rfl, ?_⟩) rfl ?_
      rotate_left
      · intro wq hSw
        go_simp
        try with_reducible rfl
      simp only [List.set_cons_zero, List.set_cons_succ]
      refine take_at 4 20 rfl rfl (by kernel_rfl) (by kernel_rfl) (by kernel_rfl) (fun _ _ _ h => h) hHeld (yieldsIf_load_agg (by rfl) 34 (.tmp 19) rfl _ _ (by rfl) (fun wq hSw => lP wq hSw)) rfl ?_
      simp only [List.set_cons_zero, List.set_cons_succ]
      refine take_at (v := ?_) 5 21 rfl rfl (by kernel_rfl) (by kernel_rfl) (by kernel_rfl) (fun _ _ _ h => h) hHeld (Or.inl ⟨by rfl, ?_⟩) rfl ?_
      rotate_left
      · intro wq hSw
        go_simp
        try with_reducible rfl
      simp only [List.set_cons_zero, List.set_cons_succ]
      refine wpAnyH_ready (rs := [6]) (by kernel_rfl) (by simp) ?_
      refine AllReadyH.cons rfl (fun K hK => ?_) AllReadyH.nil
      go_simp
      go_at_call 46
      refine HTP.out.mono ?_
      rintro e w3 ⟨rfl, hb3⟩
      refine hK.out _ _ (Held.of hb3) (fun _ => ?_)
      clear hK K
      try simp only [Act.put, List.setIfInBounds_toArray, List.set_cons_zero, List.set_cons_succ]
      replace hHeld := Held.of hb3
      refine take_at 7 23 rfl rfl (by kernel_rfl) (by kernel_rfl) (by kernel_rfl) (fun _ _ _ h => h) hHeld (yieldsIf_neq (by rfl) 34 5 34 32 (.tmp 20) (.tmp 22) rfl b.prev TD (by rfl) (by rfl) (by kernel_rfl) Tryz.underlying34 Tryz.underlying5 (by kernel_rfl) HP.out HTL.out) rfl ?_
      simp only [List.set_cons_zero, List.set_cons_succ]
      rw [HNE.out]
      refine take_at (v := ?_) 8 24 rfl rfl (by kernel_rfl) (by kernel_rfl) (by kernel_rfl) (fun _ _ _ h => h) hHeld (Or.inl ⟨by rfl, ?_⟩) rfl ?_
      rotate_left
      · intro wq hSw
        go_simp
        try with_reducible rfl
      simp only [List.set_cons_zero, List.set_cons_succ]
      refine take_at (v := ?_) 9 25 rfl rfl (by kernel_rfl) (by kernel_rfl) (by kernel_rfl) (fun _ _ _ h => h) hHeld (Or.inl ⟨by rfl, ?_⟩) rfl ?_
      rotate_left
      · intro wq hSw
        go_simp
        try with_reducible rfl
      simp only [List.set_cons_zero, List.set_cons_succ]
      refine take_at (v := undef) 10 26 rfl rfl (by kernel_rfl) (by kernel_rfl) (by kernel_rfl) (fun _ _ _ h => h) hHeld (Or.inr ⟨by rfl, rfl⟩) rfl ?_
      simp only [List.set_cons_zero, List.set_cons_succ]
      refine take_at (v := undef) 11 27 rfl rfl (by kernel_rfl) (by kernel_rfl) (by kernel_rfl) (fun _ _ _ h => h) hHeld (Or.inr ⟨by rfl, rfl⟩) rfl ?_
      simp only [List.set_cons_zero, List.set_cons_succ]
      refine take_at (v := undef) 12 28 rfl rfl (by kernel_rfl) (by kernel_rfl) (by kernel_rfl) (fun _ _ _ h => h) hHeld (Or.inr ⟨by rfl, rfl⟩) rfl ?_
      simp only [List.set_cons_zero, List.set_cons_succ]
      refine take_at (v := undef) 13 29 rfl rfl (by kernel_rfl) (by kernel_rfl) (by kernel_rfl) (fun _ _ _ h => h) hHeld (Or.inr ⟨by rfl, rfl⟩) rfl ?_
      simp only [List.set_cons_zero, List.set_cons_succ]
      refine take_at (v := undef) 14 30 rfl rfl (by kernel_rfl) (by kernel_rfl) (by kernel_rfl) (fun _ _ _ h => h) hHeld (Or.inr ⟨by rfl, rfl⟩) rfl ?_
      simp only [List.set_cons_zero, List.set_cons_succ]
      refine take_at (v := undef) 15 31 rfl rfl (by kernel_rfl) (by kernel_rfl) (by kernel_rfl) (fun _ _ _ h => h) hHeld (Or.inr ⟨by rfl, rfl⟩) rfl ?_
      simp only [List.set_cons_zero, List.set_cons_succ]
      refine take_at (v := ?_) 16 32 rfl rfl (by kernel_rfl) (by kernel_rfl) (by kernel_rfl) (fun _ _ _ h => h) hHeld (Or.inl ⟨by rfl, ?_⟩) rfl ?_
      rotate_left
      · intro wq hSw
        go_simp
        try with_reducible rfl
      simp only [List.set_cons_zero, List.set_cons_succ]
      refine wpAnyH_done (by kernel_rfl) ?_ _
      have hB3 := hBs.trans (hb3.mono hBs.size)
      clear lP C32 hHeld HTP
      have HZ := Lib.hid (show Ch.conE M X b.prev b.h (Ch.tsOf b.vs) = 5 by
        unfold Ch.conE
        rw [← HTS.out, if_pos HC0.out, if_neg (fun e => HPT.out (by rw [e.1, HTD.out]))])
      go_wp2
      go_ret
      exact ConPost.no (HC.out.below (HB1.out.trans (hB3.mono HB1.out.size))) (Moved.of_below (HB1.out.trans (hB3.mono HB1.out.size))) HZ.out (by decide)
  · have HE0 := Lib.hid (show errn c = erro c from if_neg h0)
    have HZ := Lib.hid (show Ch.conE M X b.prev b.h (Ch.tsOf b.vs) = c by
      unfold Ch.conE
      rw [← HTS.out, ← HCC.out, if_neg h0])
    have H0 := Lib.hid h0
    clear h0
    go_wp2_with (first
      | (go_at_call 42; refine HCK.out.mono ?_; rw [HE0.out]; rintro e w2 ⟨rfl, hb2⟩)
      | (refine wpList_load_run rfl 79 (.tmp 3) rfl _ _ rfl lB ?_))
    go_ret
    exact ConPost.no (HC.out.below (HB1.out.trans (hb2.mono HB1.out.size))) (Moved.of_below (HB1.out.trans (hb2.mono HB1.out.size))) HZ.out H0.out
end Go.Proofs.YtdfplenniamnoaaGreatDoor
