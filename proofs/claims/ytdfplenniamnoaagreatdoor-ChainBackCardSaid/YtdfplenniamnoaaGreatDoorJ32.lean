/- package chain: Disconnect (mkchk.py) · the reference's sets: lists of points and coins (pure and in memory); less -/
import Derived.Test.YtdfplenniamnoaaGreatDoorJ31
import Derived.Test.YtdfplenniamnoaaGreatDoorJ28
import Derived.Test.YtdfplenniamnoaaGreatDoorJ27
import Derived.Test.YtdfplenniamnoaaGreatDoorJ06
import Derived.Test.YtdfplenniamnoaaGreatDoorJ14
/-! package chain: Disconnect (mkchk.py) -/
namespace Go.Proofs.YtdfplenniamnoaaGreatDoor
open Go Go.RowKit Go.ChangeShapes Go.WideShapes
def DisPost (D : Nat) (w0 : World) (g sg sb : Nat) (F G : Nat → Prop) (M0 : Cs.Mp) (Y : List Ch.L) (l : Ch.L) (e : Ending) (w' : World) : Prop :=
  ∃ (F' G' : Nat → Prop) (la' : Option Addr) (M' : Cs.Mp) (b' : Ch.B), e = .returned (.tuple #[.agg (bkCells b').toArray, .nilIface]) ∧ b'.Own w0.heap.size w' ∧ b'.prev = l.b.prev ∧ b'.h = l.b.h ∧ b'.n = l.b.n ∧ Ch.tsOf b'.vs = Ch.tsOf l.b.vs ∧
    ChAt D w' g sg sb F' G' la' Y.length M0 M' Y ∧ Moved F w0 w' ∧ (∀ j, F' j → F j) ∧ (∀ j, G' j → G j ∨ F j)
set_option maxRecDepth 100000 in
set_option maxHeartbeats 8000000 in
theorem pdis_any {D : Nat} {w : World} {g sg sb : Nat} {F G : Nat → Prop} {la : Option Addr} {lq : Nat} {M0 M : Cs.Mp} {Y : List Ch.L} {l : Ch.L} (h : ChAt D w g sg sb F G la lq M0 M (Y ++ [l])) (hX : Y.length ≤ 100000) (hK : KDg w) :
    Calls Tryz.prog 38 #[.pointer (some ⟨g, 0, none⟩)] w (DisPost D w g sg sb F G M0 Y l) := by
  have hlen : (Y ++ [l]).length = Y.length + 1 := by rw [List.length_append]; rfl
  have hlk := h.lks
  have hrow := h.row (by omega)
  have hlq := h.q
  have hown := h.own
  obtain ⟨W1, hW1⟩ : ∃ ww, ww = w.alloc (.cells zBk 79) := ⟨_, rfl⟩
  have hB1 : Below w.heap.size w W1 := by rw [hW1]; exact (Below.refl _ _).alloc (Nat.le_refl _) _
  have hR : Has W1 w.heap.size 79 zBk := by rw [hW1]; exact Has.fresh _ _ _
  have hsz : W1.heap.size = w.heap.size + 1 := by rw [hW1]; simp
  have hht := pheight_any (hlk.below hB1) (by omega)
  have hat := pat_any (hlk.below hB1) (by omega) ((Y ++ [l]).length : Int) (by omega)
  obtain ⟨l2, hl2, e2⟩ := Ch.lkAt_top (X := Y ++ [l]) (by simp)
  have hll : l2 = l := by
    rw [hlen, Nat.add_sub_cancel, List.getElem?_append_right (Nat.le_refl _), Nat.sub_self] at hl2
    exact (Option.some.inj hl2).symm
  subst hll
  rw [e2] at hat
  have HLM := Lib.hid (show l2 ∈ Y ++ [l2] by simp)
  have HLO := Lib.hid (h.ins l2 HLM.out).2
  have HOK := Lib.hid (show l2.b.prev.length = 32 from (h.ins l2 HLM.out).1.b.p)
  have hh : l2.b.h = (Y.length : Int) + 1 := h.hs Y.length l2 (by rw [List.getElem?_append_right (Nat.le_refl _), Nat.sub_self]; rfl)
  have HSN := Lib.hid (show l2.sn ≤ l2.b.n ∧ (Ch.tsOf l2.b.vs).take l2.sn = Ch.tsOf l2.b.vs by
    have h1 := (h.ins l2 HLM.out).1.r.1
    have h2 := (h.ins l2 HLM.out).1.b.r.1
    have h3 := HLO.out.len
    exact ⟨by omega, List.take_of_length_le (by rw [Ch.tsOf_len]; omega)⟩)
  obtain ⟨k, hk⟩ : ∃ k, k = Y.length := ⟨_, rfl⟩
  have HKY := Lib.hid hk
  rw [hlen, ← hk] at hht hat
  rw [← hk] at hh
  have HHT := Lib.hid hht
  have HAT := Lib.hid hat
  have hkl : k ≤ 100000 := by omega
  have hkw : IntKind.i64.wrap ((k : Int) + 1 - 1) = (k : Int) := by rw [Int.add_sub_cancel]; exact IntWalk.i64_in _ (by omega)
  have HC := Lib.hid h
  have HK := Lib.hid (hK.below hB1)
  have HW := Lib.hid hW1
  have HB1 := Lib.hid hB1
  have HR := Lib.hid hR
  have HSZ := Lib.hid hsz
  have HH := Lib.hid hh
  have HRO := Lib.hid hrow
  have HOWN := Lib.hid hown
  clear h hK hW1 hR hsz hlk hht hat hl2 e2 hk hlen hB1 hh hrow hlq hown
  obtain ⟨l, hl⟩ : ∃ l, l = l2 := ⟨_, rfl⟩
  rw [← hl] at HC HLM HLO HOK HSN HAT HH ⊢
  clear hl
  go_enter Tryz.func38, Tryz.ntmps38
  go_upto_region 1 with fail
  rw [← HW.out]
  go_upto_region 2 with (first
    | (refine wpList_store_mid rfl 153 (.tmp 4) (.tmp 11) rfl w3.heap.size 0 (lkCells l).toArray rfl rfl (lkRec.there w3 153 (by kernel_rfl) HOK.out) (lkRec.size_eq size_lk HOK.out) (lkRec.all_one _) ?_)
    | (go_at_call 89; refine HAT.out.mono ?_; rintro e w3 ⟨rfl, hb3⟩)
    | (go_at_call 45; refine HHT.out.mono ?_; rintro e w2 ⟨rfl, rfl⟩))
  obtain ⟨w5, hw5⟩ : ∃ x, x = (w3.alloc (.cells zLk 153)).setCells w3.heap.size 0 (lkCells l) := ⟨_, rfl⟩
  obtain ⟨hG5, hb5x⟩ := Rec.new (R := lkRec) (by kernel_rfl) HOK.out hw5
  rw [← hw5]
  obtain ⟨g5, hg5⟩ : ∃ g, g = w3.heap.size := ⟨_, rfl⟩
  rw [← hg5] at hG5 ⊢
  have hb5 := hb3.trans (hb5x.mono hb3.size)
  clear hw5 hg5 hb5x hb3
  go_upto_region 4 with fail
  obtain ⟨ws, hws⟩ : ∃ ww, ww = w5.drew := ⟨_, rfl⟩
  have hbs : Below w5.heap.size w5 ws := by rw [hws]; exact (Below.refl _ _).drew
  have hBs := hb5.trans (hbs.mono hb5.size)
  have hGs := hG5.under hbs hG5.lt
  have HCs := HC.out.below (HB1.out.trans (hBs.mono HB1.out.size))
  have hKs := HK.out.below hBs
  have HCS := Lib.hid HCs
  have HHs := Lib.hid HCs.has
  have lK := fun (wq : World) (hSw : HeldM (fun j => j = sb) ws wq) => (hGs.moved hSw.out (has_ne_map hGs HCS.out.s.map)).load_agg (P := Tryz.prog) (t := 153) Tryz.underlying153 rfl (lkRec.size_eq size_lk HOK.out)
  have C0 := fun (wq : World) (hSw : HeldM (fun j => j = sb) ws wq) => (show wq.cell? ⟨g, 0, none⟩ = some (.pointer (some ⟨sg, 0, none⟩)) from (HHs.out.moved hSw.out (has_ne_map HHs.out HCS.out.s.map)).cell_at rfl)
  have HUN := Lib.hid (lundo_any (G := G) l sg sb ws (HCS.out.ins l HLM.out).1 (fun x hx => (HLO.out.sm x hx).1) (fun s hs => (HLO.out.few s hs).2) HSN.out.1 (by have := HLO.out.n; have := HSN.out.1; omega) (us := Ch.allHist Y) HCS.out.s HCS.out.gd (by have h9 := HCS.out.ch; rw [Ch.allHist_snoc] at h9; rw [HSN.out.2]; exact h9) hKs)
  clear HCs hKs
  refine wp_region_held_drew (S := HeldM (fun j => j = sb) ws) (by kernel_rfl) (by rw [hws]; exact HeldM.refl _ _) (fun hHeld => ?_)
  rw [← hws] at hHeld ⊢
  clear hws
  refine take_at 0 17 rfl rfl (by kernel_rfl) (by kernel_rfl) (by kernel_rfl) (fun _ _ _ h => h) hHeld (yieldsIf_load_agg (by rfl) 153 (.tmp 4) rfl _ _ (by rfl) (fun wq hSw => lK wq hSw)) rfl ?_
  simp only [List.set_cons_zero, List.set_cons_succ]
  refine take_at (v := ?_) 1 18 rfl rfl (by kernel_rfl) (by kernel_rfl) (by kernel_rfl) (fun _ _ _ h => h) hHeld (Or.inl ⟨by rfl, ?_⟩) rfl ?_
  rotate_left
  · intro wq hSw
    go_simp
    try with_reducible rfl
  simp only [List.set_cons_zero, List.set_cons_succ]
  refine take_at (v := ?_) 2 19 rfl rfl (by kernel_rfl) (by kernel_rfl) (by kernel_rfl) (fun _ _ _ h => h) hHeld (Or.inl ⟨by rfl, ?_⟩) rfl ?_
  rotate_left
  · intro wq hSw
    go_simp
    try with_reducible rfl
  simp only [List.set_cons_zero, List.set_cons_succ]
  refine take_at (v := ?_) 3 20 rfl rfl (by kernel_rfl) (by kernel_rfl) (by kernel_rfl) (fun _ _ _ h => h) hHeld (Or.inl ⟨by rfl, ?_⟩) rfl ?_
  rotate_left
  · intro wq hSw
    go_simp
    try with_reducible rfl
  simp only [List.set_cons_zero, List.set_cons_succ]
  refine take_at (v := ?_) 4 21 rfl rfl (by kernel_rfl) (by kernel_rfl) (by kernel_rfl) (fun _ _ _ h => h) hHeld (Or.inl ⟨by rfl, ?_⟩) rfl ?_
  rotate_left
  · intro wq hSw
    have hst := C0 wq hSw
    go_simp
    try with_reducible rfl
  simp only [List.set_cons_zero, List.set_cons_succ]
  refine wpAnyH_ready (rs := [5]) (by kernel_rfl) (by simp) ?_
  refine AllReadyH.cons rfl (fun K hK => ?_) AllReadyH.nil
  go_simp
  go_at_call 85
  refine HUN.out.mono ?_
  rintro e w6 ⟨⟨uu, rfl⟩, M8, hS8, hg8, hch8, hm8⟩
  refine hK.out _ _ (HeldM.of hm8) (fun _ => ?_)
  clear hK K
  try simp only [Act.put, List.setIfInBounds_toArray, List.set_cons_zero, List.set_cons_succ]
  replace hHeld := HeldM.of (F := fun j => j = sb) hm8
  refine wpAnyH_done (by kernel_rfl) ?_ _
  clear lK C0 hHeld
  have hmw : Moved (fun j => j = sb) w w6 := (Moved.of_below (F := fun j => j = sb) (HB1.out.trans (hBs.mono HB1.out.size))).trans hm8 (fun j e => .inl e)
  have HPT := Lib.hid (HC.out.parts hmw)
  have hH6 := HPT.out.1
  have hG6 := hGs.moved hm8 (has_ne_map hGs HCS.out.s.map)
  have c32 := lk_h hG6 HOK.out
  rw [HH.out] at c32
  have c1 := hH6.cell_at (i := 1) (v := .slice la (Y ++ [l]).length lq) rfl
  have l1 := hH6.loose 1
  have HUP := Lib.hid (pupto_any hH6 HC.out.q k (by rw [List.length_append]; have := HKY.out; omega) (by rw [List.length_append]; have := HKY.out; simp; omega))
  go_upto_region 6 with (first
    | (go_at_call 90; refine HUP.out.mono ?_; rintro e w6 ⟨rfl, rfl⟩))
  obtain ⟨w7, hw7⟩ : ∃ x, x = w6.setCell ⟨g, 1, none⟩ (.slice la k k) := ⟨_, rfl⟩
  rw [← hw7]
  have hm7 : Moved (fun j => j = g) w6 w7 := by rw [hw7]; exact Moved.put (F := fun j => j = g) (Moved.refl _ _) (.inl rfl) _ _
  have hH7 : Has w7 g 149 #[.pointer (some ⟨sg, 0, none⟩), .slice la k k] := by rw [hw7]; exact hH6.put 1 (.slice la k k)
  have hgl : g < w.heap.size := HC.out.has.lt
  have hg5 : ¬ g5 = g := fun e => by
    have h1 := hG6
    rw [e] at h1
    exact Has.ne_type h1 hH6 (by decide) rfl
  have hG7 := hG6.moved hm7 hg5
  have lB := lk_load_bk hG7 HOK.out
  have hGx : ∀ j, G j → ¬ (j = g) := fun j hj e => HC.out.GF j hj (by rw [e]; exact HC.out.fg)
  have hLI := ((HPT.out.2.2.2 l HLM.out).1).moved hm7 hGx
  have HCP := Lib.hid (copied_any l.b w7 hLI.b.at (fun x hx => (HLO.out.sm x hx).1) (by have := HLO.out.n; omega))
  have hR5 := (HR.out.under hb5 HR.out.lt).under hbs (HR.out.under hb5 HR.out.lt).lt
  have hR7 := (hR5.moved hm8 (has_ne_map hR5 HCS.out.s.map)).moved hm7 (fun e => by have e2 : w.heap.size = g := e; omega)
  have HR7 := Lib.hid hR7
  have HM7 := Lib.hid hm7
  have HM8 := Lib.hid hmw
  have HH7 := Lib.hid hH7
  have HS8 := Lib.hid hS8
  have HCH := Lib.hid (And.intro hg8 hch8)
  have HW7 := Lib.hid (show w.heap.size < w7.heap.size by have := hmw.size; have := hm7.size; have := hR7.lt; omega)
  clear hw7 hm7 hH7 hG7 hG6 hGs hH6 hR7 hR5 hLI c32 c1 l1 hm8 hmw hS8 hg8 hch8 hbs hBs hg5
  go_wp2_with (first
    | (refine wpList_store_mid rfl 79 (.tmp 2) (.tmp 34) rfl w.heap.size 0 (bkCells b').toArray rfl rfl HTH.out (bkRec.size_eq size_bk HP6.out) (bkRec.all_one _) ?_)
    | (go_at_call 84; refine HCP.out.mono ?_; rintro e w8 ⟨b', rfl, hOw, e1, e2, e3, e4, hb8⟩; have HP6 := Lib.hid hOw.p; have hR8 := HR7.out.under hb8 HR7.out.lt; have hth := hR8.there 0 (bkCells b').toArray.size (by rw [List.size_toArray, bkCells_len HP6.out]; decide); have HTH := Lib.hid hth; clear hth; have HOW := Lib.hid hOw; have HEE := Lib.hid (And.intro e1 (And.intro e2 (And.intro e3 e4))); clear hOw e1 e2 e3 e4)
    | (refine wpList_load_run rfl 79 (.tmp 32) rfl _ _ rfl lB ?_))
  have hE := hR8.whole_cs (cs2 := (bkCells b').toArray) (by rw [List.size_toArray, bkCells_len HP6.out]; rfl)
  refine bodyPost_ret (results_cellslot rfl _ _ w.heap.size rfl _ _ (hE.load_var Tryz.underlying79 rfl (bkRec.size_eq size_bk HP6.out)) rfl) rfl ?_
  obtain ⟨w9, hw9⟩ : ∃ x, x = w8.setCells w.heap.size 0 (bkCells b') := ⟨_, rfl⟩
  have hm9 : Moved (fun j => j = w.heap.size) w8 w9 := by rw [hw9]; exact Moved.putAll (F := fun j => j = w.heap.size) (.inl rfl) _ 0 (Moved.refl _ _)
  have e9 : w8.setCells w.heap.size 0 (bkCells b').toArray.toList = w9 := hw9.symm
  first
    | rw [e9]
    | rw [← hw9]
  clear hw9 e9
  have hm79 : Moved (fun j => j = w.heap.size) w7 w9 := (Moved.of_below hb8).trans hm9 (fun j e => .inl e)
  have hm69 : Moved (fun j => j = g ∨ j = w.heap.size) w6 w9 := (HM7.out.mono (fun j e => .inl e)).trans hm79 (fun j e => .inl (.inr e))
  obtain ⟨y, hy⟩ : ∃ y, la = some y := by
    obtain ⟨x, hx⟩ := HPT.out.2.1.get (i := 0) (by rw [List.length_append]; simp)
    obtain ⟨y, hy, _⟩ := HPT.out.2.1.2.2.2 0 x hx
    exact ⟨y, hy⟩
  have hFG := HRO.out y hy
  have hyg : y.block ≠ g ∧ y.block ≠ sg ∧ y.block ≠ sb := by
    obtain ⟨x, hx⟩ := HPT.out.2.1.get (i := 0) (by rw [List.length_append]; simp)
    cases HPT.out.2.2.1 with
    | own o kF =>
      have hob : (Value.slice la (Y ++ [l]).length lq).ownBlock = some y.block := by rw [hy]; rfl
      obtain ⟨cs, hcs⟩ := ownr_block o hob
      exact ⟨fun e => Has.ne_type hcs HPT.out.1 (by decide) e, fun e => Has.ne_type hcs HS8.out.has (by decide) e, fun e => has_ne_map hcs HS8.out.map e⟩
    | full y' ha hq hG =>
      have e3 : y = y' := Option.some.inj (hy.symm.trans ha)
      have hGy := hG (by rw [List.length_append]; simp)
      rw [← e3] at hGy
      exact ⟨fun e => HC.out.GF _ hGy (by rw [e]; exact HC.out.fg), fun e => HC.out.GF _ hGy (by rw [e]; exact HC.out.fs), fun e => HC.out.GF _ hGy (by rw [e]; exact HC.out.fb)⟩
  have hyl : y.block < w.heap.size := hFG.elim (fun e => (HC.out.Fl _ e).2) (HC.out.Gl _)
  have hGn : ∀ j, G j → ¬ (j = g ∨ j = w.heap.size) := fun j hj e => by
    have := HC.out.Gl j hj
    rcases e with e | e
    · exact HC.out.GF j hj (by rw [e]; exact HC.out.fg)
    · omega
  have hsgw : sg < w.heap.size ∧ sb < w.heap.size := ⟨HC.out.s.has.lt, HC.out.s.map.lt⟩
  have hS6 := HS8.out
  have hS9 : SetB w9 sg sb M8 := hS6.moved hm69 (fun e => by
    rcases e with e | e
    · exact Has.ne_type hS6.has HPT.out.1 (by decide) e
    · omega) (fun e => by
    rcases e with e | e
    · exact has_ne_map HPT.out.1 hS6.map e.symm
    · omega)
  have hrt : Recs lkRec w6 la k Y := by
    have h1 := HPT.out.2.1.take (m := k) (by rw [List.length_append]; have := HKY.out; omega)
    rwa [show (Y ++ [l]).take k = Y by rw [HKY.out]; exact List.take_left] at h1
  have hr9 : Recs lkRec w9 la k Y := hrt.moved hm69 (fun _ y' e => by
    have e3 : y' = y := Option.some.inj (e.symm.trans hy)
    rw [e3]
    intro e4
    rcases e4 with e4 | e4
    · exact hyg.1 e4
    · omega)
  have hszT : w.heap.size ≤ w9.heap.size := by have := hm79.size; have := HW7.out; omega
  have hb' : w.heap.size ≤ w7.heap.size := by have := HW7.out; omega
  refine ⟨fun j => F j ∧ j ≠ y.block, fun j => G j ∨ j = y.block, la, M8, b', rfl, ⟨HOW.out.p, HOW.out.h, (HOW.out.ts.moved hm9 (fun j e _ => by have e2 : j = w.heap.size := e; have := HW7.out; omega)).low hb'⟩, HEE.out.1, HEE.out.2.1, HEE.out.2.2.1, HEE.out.2.2.2, ?_, ?_, fun j e => e.1, fun j e => e.elim .inl (fun e => by rw [e]; exact hFG.elim .inr .inl)⟩
  · rw [← HKY.out]
    refine ⟨by rw [← HKY.out]; exact HH7.out.moved hm79 (fun e => by have e2 : g = w.heap.size := e; have := HC.out.has.lt; omega), hS9, HCH.out.1, by rw [← HKY.out]; exact hr9, ⟨by rw [HKY.out]; exact Nat.le_refl _, fun e => by rw [hy] at e; cases e⟩, .full y hy HKY.out (fun _ => .inr rfl), ?_, HCH.out.2, ?_, ⟨HC.out.fg, hyg.1.symm⟩, ⟨HC.out.fs, hyg.2.1.symm⟩, ⟨HC.out.fb, hyg.2.2.symm⟩, ?_, ?_, ?_⟩
    · intro x hx
      have h1 := HPT.out.2.2.2 x (List.mem_append_left _ hx)
      exact ⟨(h1.1.moved hm69 hGn).mono (fun j e => .inl e), h1.2⟩
    · intro i x hx
      exact HC.out.hs i x (by rw [List.getElem?_append_left (List.getElem?_eq_some_iff.1 hx).1]; exact hx)
    · rintro j hj ⟨h1, h2⟩
      rcases hj with hj | hj
      · exact HC.out.GF j hj h1
      · exact h2 hj
    · rintro j ⟨h1, _⟩
      have := HC.out.Fl j h1
      exact ⟨this.1, by omega⟩
    · rintro j hj
      rcases hj with hj | hj
      · have := HC.out.Gl j hj; omega
      · rw [hj]; omega
  · exact ((HM8.out.mono (G := F) (fun j e => by rw [show j = sb from e]; exact HC.out.fb)).trans HM7.out (fun j e => .inl (by rw [show j = g from e]; exact HC.out.fg))).trans hm79 (fun j e => .inr (by have e2 : j = w.heap.size := e; omega))
end Go.Proofs.YtdfplenniamnoaaGreatDoor

/-! the reference's sets: lists of points and coins (pure and in memory); less -/
namespace Go.Proofs.YtdfplenniamnoaaGreatDoor
open Go Go.RowKit Go.ChangeShapes Go.WideShapes
namespace Cs
abbrev Hv := Pt × Tx.Co
/-- the coins without a point, with one more -/
def rwo (l : List Hv) (p : Pt) : List Hv := l.filter (fun x => !decide (x.1 = p))
instance (p q : Pt) : Decidable (Ahead p q) := by unfold Ahead; infer_instance
def rwi (l : List Hv) (p : Pt) (c : Tx.Co) : List Hv := match l with
  | [] => [(p, c)]
  | x :: l => if Ahead p x.1 then (p, c) :: x :: l else x :: rwi l p c
def Srt (l : List Hv) : Prop := (l.map (·.1)).Pairwise Ahead
theorem look_rwi (l : List Hv) (p : Pt) (c : Tx.Co) (q : Pt) (hn : look l p = none) : look (rwi l p c) q = if q = p then some c else look l q := by
  induction l with
  | nil =>
    unfold rwi look
    rw [idx_cons]
    by_cases h : q = p
    · rw [if_pos h, if_pos h]; rfl
    · rw [if_neg h, if_neg h]; rfl
  | cons x l ih =>
    have hx : ¬ p = x.1 := fun e => by
      unfold look at hn
      rw [idx_cons, if_pos e] at hn
      cases hn
    have hl : look l p = none := by
      unfold look at hn ⊢
      rw [idx_cons, if_neg hx] at hn
      cases h : idx p l with
      | none => rfl
      | some r => rw [h] at hn; cases hn
    unfold rwi
    by_cases ha : Ahead p x.1
    · rw [if_pos ha]
      unfold look
      rw [idx_cons]
      by_cases h : q = p
      · rw [if_pos h, if_pos h]; rfl
      · rw [if_neg h, if_neg h]
        cases idx q (x :: l) <;> rfl
    · rw [if_neg ha]
      have ih2 := ih hl
      unfold look at ih2 ⊢
      rw [idx_cons, idx_cons]
      by_cases hq : q = x.1
      · rw [if_pos hq, if_pos hq, if_neg (fun e => hx (e.symm.trans hq))]
      · rw [if_neg hq, if_neg hq]
        have h2 : Option.map (·.2) (Option.map (fun r : Nat × Tx.Co => (r.1 + 1, r.2)) (idx q (rwi l p c))) = Option.map (·.2) (idx q (rwi l p c)) := by
          cases idx q (rwi l p c) <;> rfl
        have h3 : Option.map (·.2) (Option.map (fun r : Nat × Tx.Co => (r.1 + 1, r.2)) (idx q l)) = Option.map (·.2) (idx q l) := by
          cases idx q l <;> rfl
        rw [h2, h3, ih2]
theorem rwi_mem {l : List Hv} {p : Pt} {c : Tx.Co} {x : Hv} (h : x ∈ rwi l p c) : x ∈ l ∨ x = (p, c) := by
  induction l with
  | nil => exact .inr (List.mem_singleton.1 h)
  | cons y l ih =>
    unfold rwi at h
    split at h
    · rcases List.mem_cons.1 h with h | h
      · exact .inr h
      · exact .inl h
    · rcases List.mem_cons.1 h with h | h
      · exact .inl (List.mem_cons.2 (.inl h))
      · rcases ih h with h | h
        · exact .inl (List.mem_cons_of_mem _ h)
        · exact .inr h
theorem srt_rwi {l : List Hv} (h : Srt l) (hl : ∀ x, x ∈ l → x.1.1.length = 32) {p : Pt} (hp : p.1.length = 32) (c : Tx.Co) (hn : look l p = none) : Srt (rwi l p c) := by
  unfold Srt at h ⊢
  induction l with
  | nil => unfold rwi; simp
  | cons x l ih =>
    have hx : ¬ p = x.1 := fun e => by
      unfold look at hn
      rw [idx_cons, if_pos e] at hn
      cases hn
    have hnl : look l p = none := by
      unfold look at hn ⊢
      rw [idx_cons, if_neg hx] at hn
      cases h : idx p l with
      | none => rfl
      | some r => rw [h] at hn; cases hn
    rw [List.map_cons, List.pairwise_cons] at h
    unfold rwi
    by_cases ha : Ahead p x.1
    · rw [if_pos ha, List.map_cons, List.pairwise_cons, List.map_cons, List.pairwise_cons]
      refine ⟨fun q hq => ?_, h⟩
      rcases List.mem_cons.1 hq with rfl | hq
      · exact ha
      · exact ahead_trans ha (h.1 q hq)
    · rw [if_neg ha, List.map_cons, List.pairwise_cons]
      have hxp : Ahead x.1 p := by
        rcases ahead_total hp (hl x List.mem_cons_self) with h1 | h1 | h1
        · exact absurd h1 ha
        · exact absurd h1 hx
        · exact h1
      refine ⟨fun q hq => ?_, ih h.2 (fun y hy => hl y (List.mem_cons_of_mem _ hy)) hnl⟩
      obtain ⟨y, hy, rfl⟩ := List.mem_map.1 hq
      rcases rwi_mem hy with hy | rfl
      · exact h.1 _ (List.mem_map.2 ⟨y, hy, rfl⟩)
      · exact hxp
theorem rwi_len (l : List Hv) (p : Pt) (c : Tx.Co) : (rwi l p c).length = l.length + 1 := by
  induction l with
  | nil => rfl
  | cons x l ih =>
    unfold rwi
    split
    · rfl
    · rw [List.length_cons, ih, List.length_cons]
end Cs
def hvCells (x : Cs.Hv) : List Value := ptCells x.1.1 x.1.2 ++ coCells x.2
def hvRec : Rec Cs.Hv where
  k := 35
  cells := hvCells
  ok := fun x => Cs.ptOk x.1 ∧ Tx.CoOk x.2
  pos := by omega
  len t h := by
    show (hvCells t).length = 35
    unfold hvCells
    rw [List.length_append, ptCells_len h.1.1]
    rfl
  one t v hv := by
    rcases List.mem_append.1 hv with h | h
    · exact ptRec.one t.1 v h
    · exact coRec.one t.2 v h
theorem hv_pt {x : Cs.Hv} (j : Nat) (v : Value) (h : (ptCells x.1.1 x.1.2)[j]? = some v) : (hvCells x)[j]? = some v := by
  unfold hvCells
  rw [List.getElem?_append_left (List.getElem?_eq_some_iff.1 h).1]
  exact h
theorem hv_co {x : Cs.Hv} (hl : x.1.1.length = 32) (j : Nat) (v : Value) (h : (coCells x.2)[j]? = some v) : (hvCells x)[33 + j]? = some v := by
  unfold hvCells
  rw [List.getElem?_append_right (by rw [ptCells_len hl]; omega), ptCells_len hl, Nat.add_sub_cancel_left]
  exact h
/-- a part of a record, where it lies in a slice -/
theorem Recs.load_part {α : Type} {R : Rec α} {P : Program} {T : TypeId} {d : TypeDesc} (hT : P.underlying T = some d) (hd : d.isRow = true) {w : World} {x : Addr} {n i : Nat} {L : List α} {t : α} (h : Recs R w (some x) n L) (hi : L[i]? = some t) (sub : List Value) (hsz : (P.info? T).map (·.size) = some sub.length) (hs : ∀ (j : Nat) (v : Value), sub[j]? = some v → (R.cells t)[j]? = some v) :
    (Instr.loadAt T (.pointer (some (x.add (i * R.k))))).run P w = .ok (.agg sub.toArray) w := by
  obtain ⟨y, e, hx⟩ := h.2.2.2 i t hi
  injection e with e
  subst e
  have h1 := run_loadCells_list (P := P) w (x.add (i * R.k)) sub (fun j v hj => by rw [Addr.add_add]; exact hx j v (hs j v hj))
  cases hq : P.info? T with
  | none => simp [hq] at hsz
  | some inf =>
    have hz : inf.size = sub.length := by simpa [hq] using hsz
    have hagg : (isAgg T).run P w = .ok true w := by
      unfold isAgg
      rw [Sem.run_bind, run_underlying hT w]
      cases d <;> first | rfl | (exact absurd hd (by simp [TypeDesc.isRow]))
    simp [Instr.loadAt, Instr.sureAddr, loadVar, Sem.run_bind, hagg, sizeOf, typeInfo, hq, hz, h1]
theorem Recs.load_later {α : Type} {R : Rec α} {P : Program} {T : TypeId} {d : TypeDesc} (hT : P.underlying T = some d) (hd : d.isRow = true) {w : World} {x : Addr} {n i : Nat} {L : List α} {t : α} (h : Recs R w (some x) n L) (hi : L[i]? = some t) (off : Nat) (sub : List Value) (hsz : (P.info? T).map (·.size) = some sub.length) (hs : ∀ (j : Nat) (v : Value), sub[j]? = some v → (R.cells t)[(off + 1) + j]? = some v) :
    (Instr.loadAt T (.pointer (some ⟨(x.add (i * R.k)).block, (x.add (i * R.k)).off + (off + 1), none⟩))).run P w = .ok (.agg sub.toArray) w := by
  have h1 := run_loadVar_mid (P := P) w (x.add (i * R.k)).block ((x.add (i * R.k)).off + (off + 1)) T sub d (fun j v hj => by
    have h2 := h.fieldS (j := off + j) hi (by
      have := hs j v hj
      rwa [show off + 1 + j = off + j + 1 by omega] at this)
    rw [show (x.add (i * R.k)).off + (off + 1) + j = (x.add (i * R.k)).off + (off + j + 1) by omega]
    exact h2) hT hd hsz
  simp only [Instr.loadAt, Instr.sureAddr, Sem.run_bind, Sem.run_pure, Result.andThen_ok, h1]
theorem size_have : (Tryz.prog.info? 103).map (·.size) = some hvRec.k := by kernel_rfl
end Go.Proofs.YtdfplenniamnoaaGreatDoor
