/- package digest: Sum, Double · package digest: Double · a tree of two, four or eight digests is the double digest of both halves' trees. Nothing of the program. · Slices of digests that are the call's own: what they hold, appended to; loads in a drawn region · the reference's Double, Tree · ids: package tx's and the reference's (mktxi.py) · the reference's Check (mklkc.py) -/
import Derived.Test.YtdfplenniamnoaaGreatDoorJ13
import Derived.Test.YtdfplenniamnoaaGreatDoorJ06
import Derived.Test.YtdfplenniamnoaaGreatDoorJ02
import Derived.Test.YtdfplenniamnoaaGreatDoorJ04
import Derived.Laws.AppendOwn
import Derived.Laws.AppendOwnNone
import Derived.Test.YtdfplenniamnoaaGreatDoorJ09
import Derived.Test.YtdfplenniamnoaaGreatDoorJ05
/-! package digest: Sum, Double -/
namespace Go.Proofs.YtdfplenniamnoaaGreatDoor
open Go Go.RowKit Go.Shelf Go.ChangeShapes Go.WideShapes
attribute [local go_sem] Oper.semAt_some
def Dg.startL : List (BitVec 32) := [1779033703#32, 3144134277#32, 1013904242#32, 2773480762#32, 1359893119#32, 2600822924#32, 528734635#32, 1541459225#32]
theorem Dg.start_at (L : List (BitVec 8)) : (wcells 8 fun j => Dg.startL.getD j 0) = wcells 8 (Dg.run L 0).at := rfl
theorem Dg.m_blk (L : List (BitVec 8)) (s t : Nat) (ht : t < 16) : Dg.m (Dg.blkB L s) t = Dg.blk L s t := by
  unfold Dg.m Dg.blk Dg.word
  rw [Dg.blkB_at L s _ (by omega), Dg.blkB_at L s _ (by omega), Dg.blkB_at L s _ (by omega), Dg.blkB_at L s _ (by omega)]
  simp only [Nat.add_assoc]
theorem Dg.run_step (L : List (BitVec 8)) (s : Nat) : Dg.add8 (Dg.run L s) (Dg.steps (Dg.m (Dg.blkB L s)) (Dg.run L s) 64) = Dg.run L (s + 1) := by
  show _ = Dg.take8 L s (Dg.run L s)
  unfold Dg.take8
  rw [Dg.steps_same (fun t ht => Dg.m_blk L s t ht)]
theorem leaves_arr {P : Program} {fn : Func} {n : Nat} {p : Tmp} {ty : TypeId} (h : fn.results = #[.cell p ty]) {tmps : Array Value} {D g : Nat} {w : World} {v : Value} {R : Ending → World → Prop}
    (hp : tmps.getD p undef = .pointer (some ⟨g, 0, none⟩)) (hK : w.heap[D]? = some (.deferred (some []))) (hv : (loadVar ty ⟨g, 0, none⟩).run P (w.putObj D (.deferred none)) = .ok v (w.putObj D (.deferred none))) (hR : R (.returned v) (w.putObj D (.deferred none))) :
    bodyPostM Fence.wide n P fn R .ret { tmps := tmps, defers := [{ target := .collected D, args := #[] }] } w :=
  ⟨by simp, .inl ⟨_, _, rfl, run_takeDeferred hK, ⟨v, results_one_cell h _ _ g hp _ hv, hR⟩⟩⟩
theorem calls_wide7 {P : Program} {f : FuncId} {args : Array Value} {w : World} {R : Ending → World → Prop} (h : CallsIn Fence.wide 5 P f args w R) : Calls P f args w R := callsIn_wide.1 h
/-- the package's tables stand -/
def KDg (w : World) : Prop := Tab32 w 2 Dg.kL ∧ Tab32 w 0 Dg.startL
theorem KDg.below {w w' : World} (h : KDg w) (hb : Below w.heap.size w w') : KDg w' := ⟨h.1.below hb, h.2.below hb⟩
set_option maxRecDepth 100000 in
set_option maxHeartbeats 8000000 in
theorem dsum_any (a : Option Addr) (n c : Nat) (LL : List (List (BitVec 8))) (w : World) (hK : KDg w) (hP : Parts w a n LL) (hn : n ≤ 1000) (hfl : LL.flatten.length ≤ 1000000) :
    Calls Tryz.prog 107 #[.slice a n c] w fun e w' => e = .returned (.agg (blist (Dg.sum LL.flatten)).toArray) ∧ Below w.heap.size w w' := by
  obtain ⟨L, hL⟩ : ∃ L, L = Dg.pad LL.flatten := ⟨_, rfl⟩
  have HLd := Lib.hid hL
  obtain ⟨N, hN⟩ : ∃ N, N = L.length / 64 := ⟨_, rfl⟩
  have HN := Lib.hid (And.intro hN (show L.length % 64 = 0 by rw [hL]; exact Dg.pad_mod _))
  have HKD := Lib.hid (And.intro (hK.1.lt (by decide)) (And.intro hK.1 hK.2))
  have hiter := fun gX wD => blocks_iter 4 (by omega) gX a n c LL w wD hP hfl (by omega)
  rw [← hL, ← hN] at hiter
  clear hL hN hfl hn
  apply calls_wide7
  refine callsIn_of_wp_marks Tryz.func107 rfl trivial ?_ rfl
  simp only [Tryz.ntmps107, List.size_toArray, List.length_cons, List.length_nil, Nat.reduceAdd, Nat.reduceSub, Array.replicate_succ, Array.replicate_zero, List.push_toArray, List.append_toArray, List.nil_append, List.cons_append]
  refine wpIn_wide.2 ?_
  go_upto_region 1 with fail
  obtain ⟨wA, hwA⟩ : ∃ x, x = w.alloc (.cells z32 34) := ⟨_, rfl⟩
  rw [← hwA]
  have hs : wA.heap.size = w.heap.size + 1 := by rw [hwA]; simp
  have hR : Has wA w.heap.size 34 z32 := by rw [hwA]; exact Has.fresh _ _ _
  have hB : Below w.heap.size w wA := by rw [hwA]; exact (Below.refl _ _).alloc (Nat.le_refl _) _
  have hSA := HKD.out.2.2.below hB
  have hx := hSA.load (P := Tryz.prog) (k := 8) rfl Tryz.underlying213 rfl (by kernel_rfl)
  rw [Dg.start_at L] at hx
  clear hwA hSA
  obtain ⟨gW, hgW⟩ : ∃ g, g = w.heap.size + 1 := ⟨_, rfl⟩
  have hZ := Has.fresh_at (n := gW) wA 213 z8 (by omega)
  have hth := hZ.there 0 (wcells 8 (Dg.run L 0).at).size (by rw [wcells_size]; decide)
  have HT := Lib.hid (And.intro hth (And.intro (size_w8 (Dg.run L 0).at) (wcells_one 8 (Dg.run L 0).at)))
  clear hth
  go_upto_region 2 with (first
    | (rw [← hgW]; refine wpList_store_mid rfl 213 (.tmp 3) (.tmp 5) rfl gW 0 (wcells 8 (Dg.run L 0).at) rfl rfl HT.out.1 HT.out.2.1 HT.out.2.2 ?_)
    | (refine wpList_load_run rfl 213 (.global 0) rfl _ _ rfl hx ?_))
  clear hx HT
  have hW := hZ.whole_cs (cs2 := wcells 8 (Dg.run L 0).at) (by rw [wcells_size]; rfl)
  have hR2 := (hR.past (.cells z8 213)).asideAll (g' := gW) (by omega) (wcells 8 (Dg.run L 0).at).toList 0
  have hB2 := below_setAll (g := gW) (by omega) (wcells 8 (Dg.run L 0).at).toList 0 (hB.alloc hB.size (.cells z8 213))
  generalize (wA.alloc (.cells z8 213)).setCells gW 0 (wcells 8 (Dg.run L 0).at).toList = wC at hW hR2 hB2 ⊢
  clear hZ hR hB hs
  go_wp2_with (first
    | (go_at_call 144; refine (blocks_any a n c wC).mono ?_; rintro e wQ ⟨rfl, rfl⟩))
  obtain ⟨gX, hgX⟩ : ∃ g, g = wC.heap.size := ⟨_, rfl⟩
  obtain ⟨wD, hwD⟩ : ∃ x, x = wC.alloc (.cells #[.slice a n c] 207) := ⟨_, rfl⟩
  rw [← hwD, ← hgX, ← hgW]
  have hXD : Has wD gX 207 #[.slice a n c] := by rw [hwD, hgX]; exact Has.fresh _ _ _
  have hWD : Has wD gW 213 (wcells 8 (Dg.run L 0).at) := by rw [hwD]; exact hW.past _
  have hRD : Has wD w.heap.size 34 z32 := by rw [hwD]; exact hR2.past _
  have hBD : Below w.heap.size w wD := by rw [hwD]; exact hB2.alloc hB2.size _
  have hlt : gW < gX ∧ gX < wD.heap.size := ⟨by rw [hgX]; exact hW.lt, hXD.lt⟩
  have HG := Lib.hid (And.intro hgW hlt)
  clear hwD hgX hW hR2 hB2 hgW hlt
  refine (wpIn_wide (n := 5)).1 ?_
  refine wpIn_range_keep (F := Fence.wide) rfl (by omega) (gf := 163) (lb := #[.pointer (some ⟨gX, 0, none⟩)]) rfl trivial (enters_of Tryz.func163 (by kernel_rfl) rfl)
    (hiter gX wD) (Below.refl _ _) (fun _ => rfl)
    (fun s W => Has W gW 213 (wcells 8 (Dg.run L s).at) ∧ Has W w.heap.size 34 z32 ∧ Has W gX 207 #[.slice a n c] ∧ Below w.heap.size w W)
    ?hI (fun s W h => ⟨h.2.2.2, h.2.2.1⟩) ⟨hWD, hRD, hXD, hBD⟩
    (fun s x s' a' W => s' = s + 1 ∧ s < N ∧ x = Dg.blkB L s ∧ ∃ g, a' = { tmps := #[.slice a n c, undef, .pointer (some ⟨w.heap.size, 0, none⟩), .pointer (some ⟨gW, 0, none⟩), .pointer (some ⟨g, 0, none⟩), .agg (wcells 8 (Dg.run L 0).at),
      .slice a n c, .func (.func 163) #[] #[.pointer (some ⟨gX, 0, none⟩)], .agg (blist x).toArray, undef, undef, undef, undef, undef], defers := [] } ∧ Has W g 217 (blist x).toArray)
    ?hAx ?assign ?body ?done
  case hI =>
    intro s W1 W2 h hb
    have hg := HG.out
    exact ⟨h.1.under hb (by omega), h.2.1.under hb (by omega), h.2.2.1.under hb (by omega), h.2.2.2.trans (hb.mono (by omega))⟩
  case hAx => exact fun x s' a' s W1 W2 row h hg hr => ⟨h.1, h.2.1, h.2.2.1, by
    obtain ⟨g, h1, h2⟩ := h.2.2.2
    exact ⟨g, h1, h2.kept hg (fun r e => (hr r e).2)⟩⟩
  case assign =>
    rintro l s x s' W K hi hsz ⟨hs', hsN, hxb⟩ hK
    have hxl : x.length = 64 := by rw [hxb]; exact Dg.blkB_len L s (by have := HN.out; omega)
    have hth := (Has.fresh W 217 zb64).there 0 (blist x).toArray.size (by rw [List.size_toArray, blist_length, hxl]; decide)
    have hsz2 : (Tryz.prog.info? 217).map (·.size) = some (blist x).toArray.size := by rw [List.size_toArray, blist_length, hxl]; kernel_rfl
    have HT := Lib.hid (And.intro hth (And.intro hsz2 (one_hash x)))
    have hb2 : Below W.heap.size W ((W.alloc (.cells zb64 217)).setCells W.heap.size 0 (blist x).toArray.toList) := below_setAll (Nat.le_refl _) _ 0 ((Below.refl _ _).alloc (Nat.le_refl _) _)
    have hH2 := (Has.fresh W 217 zb64).whole_cs (cs2 := (blist x).toArray) (by rw [List.size_toArray, blist_length, hxl]; rfl)
    have hg := HG.out
    have hi2 : Has ((W.alloc (.cells zb64 217)).setCells W.heap.size 0 (blist x).toArray.toList) gW 213 (wcells 8 (Dg.run L s).at) ∧ Has ((W.alloc (.cells zb64 217)).setCells W.heap.size 0 (blist x).toArray.toList) w.heap.size 34 z32 ∧ Has ((W.alloc (.cells zb64 217)).setCells W.heap.size 0 (blist x).toArray.toList) gX 207 #[.slice a n c] ∧ Below w.heap.size w ((W.alloc (.cells zb64 217)).setCells W.heap.size 0 (blist x).toArray.toList) :=
      ⟨hi.1.under hb2 hi.1.lt, hi.2.1.under hb2 hi.2.1.lt, hi.2.2.1.under hb2 hi.2.2.1.lt, hi.2.2.2.trans (hb2.mono hi.2.2.2.size)⟩
    have HH := Lib.hid (And.intro hb2 (And.intro hH2 hi2))
    have HXB := Lib.hid hxb
    clear hth hsz2 hb2 hH2 hi2 hg hi hsz hxl hxb
    dsimp only [encB]
    gi_wp2_with (refine wpListInR_store (by rfl) 217 (.tmp 4) (.tmp 8) rfl W.heap.size 0 (blist x).toArray rfl rfl HT.out.1 HT.out.2.1 HT.out.2.2 ?_)
    exact hK _ _ (Keeps.below HH.out.1) HH.out.2.2 ⟨hs', hsN, HXB.out, _, rfl, HH.out.2.1⟩
  case body =>
    rintro l s x s' a' W hi hsz ⟨rfl, hsN, rfl, g, rfl, hgx⟩
    obtain ⟨hW1, hR1, hX1, hB1⟩ := hi
    have hg := HG.out
    have hbl : (Dg.blkB L s).length = 64 := Dg.blkB_len L s (by have := HN.out; omega)
    have hx1 := hW1.load_agg (P := Tryz.prog) Tryz.underlying213 rfl (size_w8 _)
    have hx2 := hgx.load_agg (P := Tryz.prog) Tryz.underlying217 rfl (by rw [List.size_toArray, blist_length, hbl]; kernel_rfl)
    have hM := mixed_any (Dg.run L s) (Dg.blkB L s) hbl W (HKD.out.2.1.below hB1)
    rw [Dg.run_step] at hM
    have HM := Lib.hid hM
    have HT := Lib.hid (And.intro (size_w8 (Dg.run L (s + 1)).at) (wcells_one 8 (Dg.run L (s + 1)).at))
    clear hM hbl hg
    gi_wp2_with (first
      | (refine ⟨trivial, ?_⟩; gi_at_call 145; refine (CallsIn.inRound l (callsIn_wide.2 HM.out)).mono ?_; rintro e w3 ⟨rfl, hb3⟩; have hW3 := hW1.under hb3 hW1.lt; have hth := hW3.there 0 (wcells 8 (Dg.run L (s + 1)).at).size (by rw [wcells_size, wcells_size]; exact Nat.le_refl _))
      | (refine wpListInR_store (by rfl) 213 (.tmp 3) (.tmp 11) rfl gW 0 (wcells 8 (Dg.run L (s + 1)).at) rfl rfl hth HT.out.1 HT.out.2 ?_)
      | (refine wpListInR_load (by rfl) 213 (.tmp 3) rfl _ _ rfl hx1 ?_)
      | (refine wpListInR_load (by rfl) 217 (.tmp 4) rfl _ _ rfl hx2 ?_))
    have hg := HG.out
    refine ⟨(Keeps.below hb3).trans (Keeps.grown (grown_puts7 _ 0 (grown_refl7 _ (some gW))) (by omega)), hW3.whole_cs (by rw [wcells_size, wcells_size]), ?_, ?_, ?_⟩
    · exact (hR1.under hb3 hR1.lt).asideAll (by omega) _ 0
    · exact (hX1.under hb3 hX1.lt).asideAll (by omega) _ 0
    · exact below_setAll (by omega) _ 0 (hB1.trans (hb3.mono hB1.size))
  case done =>
    rintro D s W hD rfl ⟨hW1, hR1, hX1, hB1⟩ hK1
    have hg := HG.out
    have hDW : D < W.heap.size := (Array.getElem?_eq_some_iff.1 hK1).1
    have hx1 := hW1.load_agg (P := Tryz.prog) Tryz.underlying213 rfl (size_w8 _)
    obtain ⟨v, hv⟩ : ∃ v, v = Dg.run L s := ⟨_, rfl⟩
    rw [← hv] at hx1
    have HV := Lib.hid (show Dg.out v = Dg.sum LL.flatten by unfold Dg.sum; rw [← HLd.out, ← HN.out.1, hv])
    have HJ := Lib.hid (joined_any v W)
    have hsz := size_hash' (Dg.out_len v)
    have hone := one_hash (Dg.out v)
    have HT := Lib.hid (And.intro hsz hone)
    have HD := Lib.hid (And.intro hg (And.intro hD hDW))
    clear hsz hone hv hg hD hDW hX1 hW1
    go_wp2_with (first
      | (go_at_call 146; refine HJ.out.mono ?_; rintro e w3 ⟨rfl, hb3⟩; have hR3 := hR1.under hb3 hR1.lt; have hth := hR3.there 0 (blist (Dg.out v)).toArray.size (by rw [List.size_toArray, blist_length, Dg.out_len]; decide))
      | (refine wpList_store_mid rfl 34 (.tmp 2) (.tmp 13) rfl w.heap.size 0 (blist (Dg.out v)).toArray rfl rfl hth HT.out.1 HT.out.2 ?_)
      | (refine wpList_load_run rfl 213 (.tmp 3) rfl _ _ rfl hx1 ?_))
    have hd := HD.out
    have hE := hR3.whole (l := Dg.out v) (by rw [Dg.out_len]; rfl)
    have hS := size_hash (Dg.out_len v)
    have hK3 : (w3.setCells w.heap.size 0 (blist (Dg.out v))).heap[D]? = some (.deferred (some [])) := by
      have h1 : w3.heap[D]? = some (.deferred (some [])) := (hb3.block D (by omega)).trans hK1
      exact ((grown_puts7 (blist (Dg.out v)) 0 (grown_refl7 w3 (some w.heap.size))).block D (by have := hb3.size; omega) (fun e => by injection e with e; omega)).trans h1
    have hE2 : Has ((w3.setCells w.heap.size 0 (blist (Dg.out v))).putObj D (.deferred none)) w.heap.size 34 (blist (Dg.out v)).toArray := (World.putObj_heap_other (by omega)).trans hE
    have hB3 := below_setAll (g := w.heap.size) (Nat.le_refl _) (blist (Dg.out v)) 0 (hB1.trans (hb3.mono hB1.size))
    refine leaves_arr rfl rfl hK3 (run_loadVar_mid _ _ 0 34 _ _ hE2.range Tryz.underlying34 rfl hS) ⟨by rw [HV.out], below_put_at hB3 hB3.size (by omega) _⟩
end Go.Proofs.YtdfplenniamnoaaGreatDoor

/-! package digest: Double -/
namespace Go.Proofs.YtdfplenniamnoaaGreatDoor
open Go Go.RowKit Go.ChangeShapes Go.WideShapes
set_option maxRecDepth 100000 in
set_option maxHeartbeats 4000000 in
theorem ddouble_any (a : Option Addr) (n c : Nat) (LL : List (List (BitVec 8))) (w : World) (hK : KDg w) (hP : Parts w a n LL) (hn : n ≤ 1000) (hfl : LL.flatten.length ≤ 1000000) :
    Calls Tryz.prog 96 #[.slice a n c] w fun e w' => e = .returned (.agg (blist (Dg.double LL.flatten)).toArray) ∧ Below w.heap.size w w' := by
  have hB1 : Below w.heap.size w (w.alloc (.cells z32 34)) := (Below.refl _ _).alloc (Nat.le_refl _) _
  have hR1 : Has (w.alloc (.cells z32 34)) w.heap.size 34 z32 := Has.fresh _ _ _
  have hS := dsum_any a n c LL _ (hK.below hB1) (hP.below hB1) hn hfl
  obtain ⟨S, hSd⟩ : ∃ S, S = Dg.sum LL.flatten := ⟨_, rfl⟩
  rw [← hSd] at hS
  have HS := Lib.hid hS
  have hSl : S.length = 32 := by rw [hSd]; exact Dg.sum_len _
  obtain ⟨D, hDd⟩ : ∃ D, D = Dg.double LL.flatten := ⟨_, rfl⟩
  have hDl : D.length = 32 := by rw [hDd]; exact Dg.double_len _
  have HD := Lib.hid (And.intro (show D = Dg.sum [S].flatten by rw [hDd, hSd]; simp [Dg.double]) (And.intro hDl (And.intro hSl hDd)))
  have HK := Lib.hid (And.intro hK hB1)
  have HR := Lib.hid hR1
  have hszS := size_hash' hSl
  have hszD := size_hash' hDl
  have HT := Lib.hid (And.intro (And.intro hszS (one_hash S)) (And.intro hszD (one_hash D)))
  clear hS hSd hDd hK hB1 hR1 hszS hszD hSl hDl hP hfl hn
  rw [← HD.out.2.2.2]
  go_enter Tryz.func96, Tryz.ntmps96
  go_upto_region 2 with (first
    | (refine wpList_store_mid rfl 34 (.tmp 3) (.tmp 5) rfl w2.heap.size 0 (blist S).toArray rfl rfl (there_new w2 _ HD.out.2.2.1) HT.out.1.1 HT.out.1.2 ?_)
    | (go_at_call 107; refine HS.out.mono ?_; rintro e w2 ⟨rfl, hb2⟩))
  obtain ⟨w3, hw3⟩ : ∃ x, x = (w2.alloc (.cells z32 34)).setCells w2.heap.size 0 (blist S) := ⟨_, rfl⟩
  rw [← hw3]
  obtain ⟨hH3, hb3⟩ := hash_new HD.out.2.2.1 hw3
  have hB2 : Below w.heap.size w w2 := HK.out.2.trans (hb2.mono HK.out.2.size)
  have hB3 : Below w.heap.size w w3 := hB2.trans (hb3.mono hB2.size)
  have hR3 : Has w3 w.heap.size 34 z32 := (HR.out.under hb2 HR.out.lt).under hb3 (HR.out.under hb2 HR.out.lt).lt
  obtain ⟨g, hg⟩ : ∃ g, g = w2.heap.size := ⟨_, rfl⟩
  rw [← hg] at hH3 ⊢
  have hB4 : Below w.heap.size w (w3.alloc (.cells #[.slice (some ⟨g, 0, none⟩) 32 32] 163)) := hB3.alloc hB3.size _
  have hP4 := parts_one (c := 32) 163 (bytes_has32 hH3 HD.out.2.2.1) (Nat.le_refl _) (fun e => by cases e)
  have hS4 := dsum_any _ 1 1 [S] _ (HK.out.1.below hB4) hP4 (by omega) (by simp [HD.out.2.2.1])
  rw [← HD.out.1] at hS4
  have HS4 := Lib.hid hS4
  have hR4 := hR3.past (.cells #[.slice (some ⟨g, 0, none⟩) 32 32] 163)
  have HB := Lib.hid hB4
  clear hS4 hP4 hw3 hg hR3 hB3 hB2 hb2 hb3 hH3 hB4
  go_wp2_with (first
    | (refine wpList_store_mid rfl 34 (.tmp 2) (.tmp 8) rfl w.heap.size 0 (blist D).toArray rfl rfl hth HT.out.2.1 HT.out.2.2 ?_)
    | (go_at_call 107; refine HS4.out.mono ?_; rintro e w5 ⟨rfl, hb5⟩; have hR5 := hR4.under hb5 hR4.lt; have hth := hR5.there 0 (blist D).toArray.size (by rw [List.size_toArray, blist_length, HD.out.2.1]; decide)))
  have hE := hR5.whole (l := D) (by rw [HD.out.2.1]; rfl)
  have hS := size_hash HD.out.2.1
  exact bodyPost_ret (results_one_cell rfl _ _ w.heap.size rfl _ (run_loadVar_mid _ _ 0 34 _ _ hE.range Tryz.underlying34 rfl hS)) rfl ⟨rfl, below_setAll (Nat.le_refl _) _ 0 (HB.out.trans (hb5.mono HB.out.size))⟩
end Go.Proofs.YtdfplenniamnoaaGreatDoor

/-! a tree of two, four or eight digests is the double digest of both halves' trees. Nothing of the program. -/
namespace Go.Proofs.YtdfplenniamnoaaGreatDoor.Dg
open Go.Proofs.YtdfplenniamnoaaGreatDoor
theorem up_at : ∀ (L : List (List (BitVec 8))) (k : Nat), 2 * k < L.length → (up L).getD k [] = double (L.getD (2 * k) [] ++ L.getD (if 2 * k + 1 = L.length then 2 * k else 2 * k + 1) [])
  | [], _, h => by simp at h
  | [a], k, h => by
    obtain rfl : k = 0 := by simp at h; omega
    rfl
  | a :: b :: r, 0, _ => by
    show double (a ++ b) = double (a ++ (a :: b :: r).getD (if 2 * 0 + 1 = (a :: b :: r).length then 2 * 0 else 2 * 0 + 1) [])
    rw [if_neg (by simp only [List.length_cons]; omega)]
    rfl
  | a :: b :: r, k + 1, h => by
    simp only [List.length_cons] at h
    have ih := up_at r k (by omega)
    show (up r).getD k [] = _
    rw [ih]
    simp only [List.length_cons]
    rw [show 2 * (k + 1) = 2 * k + 1 + 1 by omega]
    by_cases hh : 2 * k + 1 = r.length
    · rw [if_pos hh, if_pos (by omega)]
      rfl
    · rw [if_neg hh, if_neg (by omega)]
      rfl
theorem up_take {L : List (List (BitVec 8))} {k : Nat} (h : 2 * k < L.length) (l1 l2 : List (BitVec 8)) (h1 : l1 = L.getD (2 * k) []) (h2 : l2 = L.getD (if 2 * k + 1 = L.length then 2 * k else 2 * k + 1) []) :
    (up L).take (k + 1) = (up L).take k ++ [double (l1 ++ l2)] := by
  have hk : k < (up L).length := by rw [up_len]; omega
  rw [h1, h2, ← up_at L k h, List.take_succ_eq_append_getElem hk, List.getD_eq_getElem?_getD, List.getElem?_eq_getElem hk]
  rfl
end Go.Proofs.YtdfplenniamnoaaGreatDoor.Dg

/-! Slices of digests that are the call's own: what they hold, appended to; loads in a drawn region -/
namespace Go.Proofs.YtdfplenniamnoaaGreatDoor
open Go Go.RowKit
set_option maxRecDepth 100000
/-- the cells of a list of digests -/
def hrow (L : List (List (BitVec 8))) : List Value := L.flatMap blist
theorem hrow_app (L M : List (List (BitVec 8))) : hrow (L ++ M) = hrow L ++ hrow M := List.flatMap_append
theorem hrow_len : ∀ {L : List (List (BitVec 8))}, (∀ l, l ∈ L → l.length = 32) → (hrow L).length = L.length * 32
  | [], _ => rfl
  | a :: r, h => by
    show (blist a ++ hrow r).length = _
    rw [List.length_append, blist_length, h a (by simp), hrow_len (L := r) (fun l hl => h l (by simp [hl])), List.length_cons]
    omega
theorem hrow_at : ∀ {L : List (List (BitVec 8))} (_ : ∀ l, l ∈ L → l.length = 32) (i j : Nat), i < L.length → j < 32 → (hrow L)[i * 32 + j]? = some (.int .u8 (nb8 (cb (L.getD i []) j)))
  | [], _, _, _, hi, _ => absurd hi (Nat.not_lt_zero _)
  | a :: r, h, i, j, hi, hj => by
    have ha := h a (by simp)
    show (blist a ++ hrow r)[i * 32 + j]? = _
    rcases i with _ | i
    · rw [List.getElem?_append_left (by rw [blist_length, ha]; omega), Nat.zero_mul, Nat.zero_add, blist_at a j (by omega)]
      rfl
    · rw [List.getElem?_append_right (by rw [blist_length, ha]; omega), blist_length, ha, show (i + 1) * 32 + j - 32 = i * 32 + j by omega]
      simp only [List.length_cons] at hi
      rw [hrow_at (L := r) (fun l hl => h l (by simp [hl])) i j (by omega) hj]
      rfl
theorem hrow_one (L : List (List (BitVec 8))) : ∀ v ∈ hrow L, v.oneCell' = true := by
  intro v hv
  obtain ⟨l, _, hl⟩ := List.mem_flatMap.1 hv
  exact blist_one l v hl
/-- v is the call's own slice of digests, made since block B; L: its elements -/
def OwnH (T : TypeId) (B : Nat) (w : World) (v : Value) (L : List (List (BitVec 8))) : Prop := (∀ l, l ∈ L → l.length = 32) ∧ w.ownsRow B T 32 v L.length (hrow L)
section
variable {T : TypeId} {B : Nat} {w w' : World} {v : Value} {L : List (List (BitVec 8))}
theorem OwnH.nil (T : TypeId) (B : Nat) (w : World) : OwnH T B w (.slice none 0 0) [] := ⟨(fun _ h => by cases h), World.ownsRow_nil _ _ _ _⟩
theorem OwnH.all {M : List (List (BitVec 8))} {k : Nat} (hL : ∀ l, l ∈ L → l.length = 32) (hM : ∀ l, l ∈ M → l.length = 32) (hk : M.length = k) (h : w'.ownsRow B T 32 v (L.length + k) (hrow L ++ hrow M)) : OwnH T B w' v (L ++ M) := by
  subst hk
  refine ⟨fun l hl => (List.mem_append.1 hl).elim (hL l) (hM l), ?_⟩
  rw [hrow_app]
  simpa using h
theorem OwnH.lt (h : OwnH T B w v L) : ∀ k, v.ownBlock = some k → B ≤ k := fun k hk => (World.ownsRow.lt h.2 k hk).1
theorem OwnH.below (h : OwnH T B w v L) (hb : Below w.heap.size w w') : OwnH T B w' v L := by
  refine ⟨h.1, h.2.1, ?_⟩
  rcases h.2.2 with hn | ⟨G, cap, cur, rfl, h1, h2, rest⟩
  · exact .inl hn
  · exact .inr ⟨G, cap, cur, rfl, h1, (hb.block _ (Array.getElem?_eq_some_iff.1 h2).1).trans h2, rest⟩
theorem OwnH.low {B' : Nat} (h : OwnH T B w v L) (hB : B' ≤ B) : OwnH T B' w v L := by
  refine ⟨h.1, h.2.1, ?_⟩
  rcases h.2.2 with hn | ⟨G, cap, cur, rfl, h1, h2⟩
  · exact .inl hn
  · exact .inr ⟨G, cap, cur, rfl, by omega, h2⟩
theorem rows_none (w : World) : Rows8 32 w none 0 [] := ⟨rfl, by unfold maxLen; omega, (fun _ h => by cases h), fun i hi => by omega⟩
/-- to read it -/
theorem OwnH.shape {K : Nat} (h : OwnH T B w v L) (hK : L.length = K) : ∃ a c, v = .slice a K c ∧ K ≤ c ∧ (a = none → c = 0) ∧ Rows8 32 w a K L := by
  subst hK
  obtain ⟨hall, hl, ⟨rfl, h0⟩ | ⟨g, cap, cur, rfl, hg, hh, hn, hm, hc, ht⟩⟩ := h
  · obtain rfl := List.length_eq_zero_iff.1 h0
    exact ⟨none, 0, rfl, Nat.le_refl _, fun _ => rfl, rows_none w⟩
  · refine ⟨_, cap, rfl, hn, (fun e => by cases e), rfl, by omega, hall, fun i hi => ⟨_, rfl, fun j hj => ?_⟩⟩
    rw [Addr.add_mid, Nat.zero_add, (show Has w g T cur from hh).cell (i * 32 + j), ← hrow_at hall i j hi hj, ← ht, List.getElem?_take, if_pos (by omega), Array.getElem?_toList]
end
theorem z32_size : (Value.agg z32).cells.size = 32 := by rfl
theorem info_hash : (Tryz.prog.info? 34).map (fun i => (i.zero, i.size, i.bytes)) = some (some (.agg z32), 32, 32) := by kernel_rfl
/-- append(own, h), its literal behind: as a step of a region that draws -/
theorem step_append_hash {w : World} {ops : Array Oper} {o : Oper} {a : Act} {K : Act → World → Prop} {Q : Exit → Act → World → Prop} {E : Prop} (hwt : Region.wanted o (yielded ops a.tmps) = true) (s x : Operand) (t : TypeId)
    (ho : o.op = .call { callee := .builtin .append, args := #[s, x], argTypes := #[t, t] })
    (T : TypeId) (ht : Tryz.prog.underlying t = some (.slice T)) (hinfo : (Tryz.prog.info? T).map (fun i => (i.zero, i.size, i.bytes)) = some (some (.agg z32), 32, 32))
    (B : Nat) (v : Value) (L : List (List (BitVec 8))) (hs : a.eval s = v) (hown : OwnH T B w v L) (l : List (BitVec 8)) (hl : l.length = 32) (W : World) (hW : W = w.alloc (.cells (blist l).toArray T)) (hx : a.eval x = .slice (some ⟨w.heap.size, 0, none⟩) 1 1)
    (h63 : L.length + 1 ≤ 1099511627776) (hbase : B ≤ w.heap.size)
    (h : ∀ v' w', OwnH T B w' v' (L ++ [l]) → (w.alloc (.cells (blist l).toArray T)).grownBy w' v.ownBlock → K (a.put o.dst v') w') : if Region.wanted o (yielded ops a.tmps) = true then Oper.wp Tryz.prog o a W K Q else E := by
  subst hW
  rw [if_pos hwt]
  obtain ⟨i0, hi, hz0, hz1, hz2⟩ := info_parts hinfo
  refine wp_append_own (w.alloc (.cells (blist l).toArray T)) s x t ho B T i0 (.agg z32) 32 32 ht hi hz0 hz1 hz2 z32_size (by decide) v _ _ hs (World.ownsRow.alloc hown.2 _) ⟨w.heap.size, 0, none⟩ 1 1 (hrow [l]) hx (by rw [hrow_len (by simpa using hl)]; rfl) (fun j u hj => ?_) (hrow_one _) (by unfold maxLen; omega) (by omega) (by rw [World.size_alloc]; omega) ?_
  · have e : hrow [l] = blist l := by simp [hrow]
    rw [e] at hj
    rw [Addr.add_mid, Nat.zero_add, (Has.fresh w T _).cell, ← Array.getElem?_toList]
    exact hj
  · intro v' w' h1 h2 _
    exact h v' w' (OwnH.all hown.1 (by simpa using hl) rfl h1) h2
/-! a slice literal of one digest -/
theorem zeros_hash : (Array.range (1 * 32)).map (z32[· % z32.size]!) = z32 := by kernel_rfl
theorem fill_hash (l : List (BitVec 8)) (hl : l.length = 32) : Instr.fill (fun i => some (i * 32, 32)) ((Array.range (1 * 32)).map (z32[· % z32.size]!)) [(0, .agg (blist l).toArray)] = some (blist l).toArray := by
  rw [zeros_hash]
  match l, hl with
  | [x0, x1, x2, x3, x4, x5, x6, x7, x8, x9, x10, x11, x12, x13, x14, x15, x16, x17, x18, x19, x20, x21, x22, x23, x24, x25, x26, x27, x28, x29, x30, x31], _ =>
    have hc : ∀ cs : Array Value, (Value.agg cs).cells = cs := fun _ => rfl
    simp [Instr.fill, hc, blist]
theorem run_build_hash {P : Program} {t T : TypeId} (ht : P.underlying t = some (.slice T)) (hi : (P.info? T).map (fun i => (i.zero, i.size, i.bytes)) = some (some (.agg z32), 32, 32)) (l : List (BitVec 8)) (hl : l.length = 32) (w : World) :
    (Instr.buildSlice t 1 #[(0, .agg (blist l).toArray)]).run P w = .ok (.slice (some ⟨w.heap.size, 0, none⟩) 1 1) (w.alloc (.cells (blist l).toArray T)) := by
  obtain ⟨i0, hi0, hz0, hz1, hz2⟩ := info_parts hi
  have hf := fill_hash l hl
  have hz : (Value.agg z32).cells = z32 := rfl
  simp at hf
  simp [Instr.buildSlice, Sem.run_bind, run_underlying ht, sizeOf, typeInfo, zeroValue, hi0, hz0, hz1, hz, newRow, hf]
theorem step_build_hash {P : Program} {w : World} {ops : Array Oper} {o : Oper} {a : Act} {K : Act → World → Prop} {Q : Exit → Act → World → Prop} {E : Prop} (hwt : Region.wanted o (yielded ops a.tmps) = true) (x : Operand) (t : TypeId)
    (ho : o.op = .buildSlice t 1 #[(0, x)]) (T : TypeId) (ht : P.underlying t = some (.slice T)) (hi : (P.info? T).map (fun i => (i.zero, i.size, i.bytes)) = some (some (.agg z32), 32, 32))
    (l : List (BitVec 8)) (hl : l.length = 32) (hx : a.eval x = .agg (blist l).toArray)
    (h : K (a.put o.dst (.slice (some ⟨w.heap.size, 0, none⟩) 1 1)) (w.alloc (.cells (blist l).toArray T))) : if Region.wanted o (yielded ops a.tmps) = true then Oper.wp P o a w K Q else E := by
  rw [if_pos hwt]
  have hr := run_build_hash (P := P) ht hi l hl w
  unfold Oper.wp execOp
  simp only [ho, List.map_toArray, List.map_cons, List.map_nil, hx, Sem.run_bind, Sem.run_pure, Result.andThen_ok, hr]
  exact h
/-- a load whose run is known, in a region that draws -/
theorem yieldsIf_load_run {P : Program} {ops : Array Oper} {S : World → Prop} {op : Oper} {a : Act} (hw : Region.wanted op (yielded ops a.tmps) = true) (ty : TypeId) (x : Operand) (ho : op.op = .load ty x)
    (p v : Value) (hx : a.eval x = p) (hS : ∀ w, S w → (Instr.loadAt ty p).run P w = .ok v w) : YieldsIf P ops S op v a :=
  .inl ⟨hw, fun w hw' => by
    unfold execOp
    simp only [ho, hx, Sem.run_bind, Sem.run_pure, Result.andThen_ok, hS w hw']⟩
end Go.Proofs.YtdfplenniamnoaaGreatDoor

/-! the reference's Double, Tree -/
namespace Go.Proofs.YtdfplenniamnoaaGreatDoor
open Go Go.RowKit Go.ChangeShapes Go.WideShapes
end Go.Proofs.YtdfplenniamnoaaGreatDoor

/-! ids: package tx's and the reference's (mktxi.py) -/
namespace Go.Proofs.YtdfplenniamnoaaGreatDoor
open Go Go.RowKit Go.ChangeShapes Go.WideShapes
/-- the ids -/
def Tx.idOf (all : Bool) (t : Tx.T) : List (BitVec 8) := Dg.double (Tx.enc all t)
theorem Tx.idOf_len (all : Bool) (t : Tx.T) : (Tx.idOf all t).length = 32 := Dg.double_len _
abbrev zPt : Array Value := #[.int .u8 0, .int .u8 0, .int .u8 0, .int .u8 0, .int .u8 0, .int .u8 0, .int .u8 0, .int .u8 0, .int .u8 0, .int .u8 0, .int .u8 0, .int .u8 0, .int .u8 0, .int .u8 0, .int .u8 0, .int .u8 0, .int .u8 0, .int .u8 0, .int .u8 0, .int .u8 0, .int .u8 0, .int .u8 0, .int .u8 0, .int .u8 0, .int .u8 0, .int .u8 0, .int .u8 0, .int .u8 0, .int .u8 0, .int .u8 0, .int .u8 0, .int .u8 0, .int .i64 0]
set_option maxRecDepth 100000 in
theorem built_pt32 (d0 d1 d2 d3 d4 d5 d6 d7 d8 d9 d10 d11 d12 d13 d14 d15 d16 d17 d18 d19 d20 d21 d22 d23 d24 d25 d26 d27 d28 d29 d30 d31 : BitVec 8) (z : Int) : Tryz.prog.built 36 [(0, .agg (blist [d0, d1, d2, d3, d4, d5, d6, d7, d8, d9, d10, d11, d12, d13, d14, d15, d16, d17, d18, d19, d20, d21, d22, d23, d24, d25, d26, d27, d28, d29, d30, d31]).toArray), (1, .int .i64 z)] = some (ptCells [d0, d1, d2, d3, d4, d5, d6, d7, d8, d9, d10, d11, d12, d13, d14, d15, d16, d17, d18, d19, d20, d21, d22, d23, d24, d25, d26, d27, d28, d29, d30, d31] z).toArray := by kernel_rfl
theorem built_pt : ∀ (D : List (BitVec 8)), D.length = 32 → ∀ z : Int, Tryz.prog.built 36 [(0, .agg (blist D).toArray), (1, .int .i64 z)] = some (ptCells D z).toArray
  | [d0, d1, d2, d3, d4, d5, d6, d7, d8, d9, d10, d11, d12, d13, d14, d15, d16, d17, d18, d19, d20, d21, d22, d23, d24, d25, d26, d27, d28, d29, d30, d31], _, z => built_pt32 d0 d1 d2 d3 d4 d5 d6 d7 d8 d9 d10 d11 d12 d13 d14 d15 d16 d17 d18 d19 d20 d21 d22 d23 d24 d25 d26 d27 d28 d29 d30 d31 z
theorem wpList_build_pt {ops : Array Oper} {rest : List Oper} {o : Oper} {a : Act} {w : World} {Q : Exit → Act → World → Prop} {PC : Array Value} (hgd : o.guard = none) (x y : Operand) (ho : o.op = .build 36 #[(0, x), (1, y)]) (D : List (BitVec 8)) (z : Int)
    (hx : a.eval x = .agg (blist D).toArray) (hy : a.eval y = .int .i64 z) (hPC : PC = (ptCells D z).toArray) (hD : D.length = 32) (h : wpList Tryz.prog ops Q rest (a.put o.dst (.agg PC)) w) : wpList Tryz.prog ops Q (o :: rest) a w :=
  wpList_plain hgd fun K hK => by
    have hr := run_build (P := Tryz.prog) w 36 #[(0, .agg (blist D).toArray), (1, .int .i64 z)] _ (built_pt D hD z)
    subst hPC
    unfold Oper.wp execOp
    simp only [ho, List.map_toArray, List.map_cons, List.map_nil, hx, hy, Sem.run_bind, Sem.run_pure, Result.andThen_ok, hr]
    exact hK _ _ h
set_option maxRecDepth 100000 in
set_option maxHeartbeats 8000000 in
theorem pid_any (a : Option Addr) (n q : Nat) (b : Option Addr) (m r : Nat) (t : Tx.T) (f : Bool) (hf : f = t.firm) (w : World) (ht : TxAt w a n q b m r t) (hs : Tx.Small t) (hK : KDg w) :
    Calls Tryz.prog 108 #[txv a n q b m r f] w fun e w' => e = .returned (.agg (blist (Tx.idOf false t)).toArray) ∧ Below w.heap.size w w' := by
  obtain ⟨W1, hW1⟩ : ∃ x, x = (w.alloc (.cells #[.slice a n q, .slice b m r, .bool f] 26)).alloc (.cells z32 34) := ⟨_, rfl⟩
  have hBw : Below w.heap.size w W1 := by
    rw [hW1]
    exact ((Below.refl _ w).alloc (Nat.le_refl _) _).alloc (by simp) _
  have hX : Has W1 w.heap.size 26 #[.slice a n q, .slice b m r, .bool f] := by rw [hW1]; exact (Has.fresh w _ _).past _
  have hR : Has W1 (w.heap.size + 1) 34 z32 := by rw [hW1]; exact Has.fresh_at _ _ _ (by simp)
  have lX := hX.load_agg (P := Tryz.prog) (t := 26) Tryz.underlying26 rfl (by kernel_rfl)
  have HW := Lib.hid hW1
  have HT := Lib.hid (ht.below hBw)
  have HS := Lib.hid hs
  have HK := Lib.hid hK
  have HF := Lib.hid hf
  clear hf
  obtain ⟨E, hE⟩ : ∃ E, E = Tx.enc false t := ⟨_, rfl⟩
  obtain ⟨K, hKl⟩ : ∃ K, K = E.length := ⟨_, rfl⟩
  have HL := Lib.hid (show E.length = K ∧ K ≤ 1000000 ∧ E = Tx.enc false t from ⟨hKl.symm, by have := Tx.enc_len false t hs (fun s hx => (ht.sp.2.2.1 s hx).1); rw [hKl, hE]; omega, hE⟩)
  obtain ⟨D, hDd⟩ : ∃ D, D = Dg.double E := ⟨_, rfl⟩
  have hDl : D.length = 32 := by rw [hDd]; exact Dg.double_len _
  have HD := Lib.hid (show D = Dg.double E ∧ D.length = 32 ∧ Tx.idOf false t = D from ⟨hDd, hDl, by rw [Tx.idOf, ← hE, hDd]⟩)
  have hsz := size_hash' hDl
  have HO := Lib.hid (And.intro hsz (one_hash D))
  obtain ⟨g1, hg1⟩ : ∃ g, g = w.heap.size := ⟨_, rfl⟩
  have HG := Lib.hid hg1
  rw [← hg1] at lX hR
  clear hW1 ht hs hX hK hE hKl hDd hDl hsz hg1
  rw [HD.out.2.2]
  go_enter Tryz.func108, Tryz.ntmps108
  go_upto_region 1 with fail
  rw [← HW.out, ← HG.out]
  go_wp2_with (first
    | (refine wpList_store_mid rfl 34 (.tmp 2) (.tmp 6) rfl (g1 + 1) 0 (blist D).toArray rfl rfl hth HO.out.1 HO.out.2 ?_)
    | (go_at_call 96; refine hS4.mono ?_; rintro e w5 ⟨rfl, hb5⟩; have hR5 := (hR2.past _).under hb5 (hR2.past _).lt; have hth := hR5.there 0 (blist D).toArray.size (by rw [List.size_toArray, blist_length, HD.out.2.1]; decide))
    | (go_at_call 147; refine (pbase_any a n q b m r t f HF.out W1 HT.out HS.out).mono ?_; rw [← HL.out.2.2]; rintro e w2 ⟨v2, rfl, ho2, hb2⟩; obtain ⟨x2, c2, rfl, hc2, h02, hby2⟩ := ho2.shape HL.out.1; have hR2 := hR.under hb2 hR.lt; have hB2 := hBw.trans (hb2.mono hBw.size); have hP := parts_one (c := c2) 163 hby2 hc2 h02; have hB4 := hB2.alloc hB2.size (.cells #[.slice x2 K c2] 163); have hS4 := ddouble_any _ 1 1 [E] _ (HK.out.below hB4) hP (by omega) (by rw [List.flatten_singleton, HL.out.1]; have := HL.out.2.1; omega); rw [List.flatten_singleton] at hS4; rw [← HD.out.1] at hS4)
    | (refine wpList_load_run rfl 26 (.tmp 1) rfl _ _ rfl lX ?_))
  have hE := hR5.whole (l := D) (by rw [HD.out.2.1]; rfl)
  have hS := size_hash HD.out.2.1
  exact bodyPost_ret (results_one_cell rfl _ _ (g1 + 1) rfl _ (run_loadVar_mid _ _ 0 34 _ _ hE.range Tryz.underlying34 rfl hS)) rfl ⟨rfl, below_setAll (by have := HG.out; omega) _ 0 (hB4.trans (hb5.mono hB4.size))⟩
set_option maxRecDepth 100000 in
set_option maxHeartbeats 8000000 in
theorem pwide_any (a : Option Addr) (n q : Nat) (b : Option Addr) (m r : Nat) (t : Tx.T) (f : Bool) (hf : f = t.firm) (w : World) (ht : TxAt w a n q b m r t) (hs : Tx.Small t) (hK : KDg w) :
    Calls Tryz.prog 137 #[txv a n q b m r f] w fun e w' => e = .returned (.agg (blist (Tx.idOf true t)).toArray) ∧ Below w.heap.size w w' := by
  obtain ⟨W1, hW1⟩ : ∃ x, x = (w.alloc (.cells #[.slice a n q, .slice b m r, .bool f] 26)).alloc (.cells z32 34) := ⟨_, rfl⟩
  have hBw : Below w.heap.size w W1 := by
    rw [hW1]
    exact ((Below.refl _ w).alloc (Nat.le_refl _) _).alloc (by simp) _
  have hX : Has W1 w.heap.size 26 #[.slice a n q, .slice b m r, .bool f] := by rw [hW1]; exact (Has.fresh w _ _).past _
  have hR : Has W1 (w.heap.size + 1) 34 z32 := by rw [hW1]; exact Has.fresh_at _ _ _ (by simp)
  have lX := hX.load_agg (P := Tryz.prog) (t := 26) Tryz.underlying26 rfl (by kernel_rfl)
  have HW := Lib.hid hW1
  have HT := Lib.hid (ht.below hBw)
  have HS := Lib.hid hs
  have HK := Lib.hid hK
  have HF := Lib.hid hf
  clear hf
  obtain ⟨E, hE⟩ : ∃ E, E = Tx.enc true t := ⟨_, rfl⟩
  obtain ⟨K, hKl⟩ : ∃ K, K = E.length := ⟨_, rfl⟩
  have HL := Lib.hid (show E.length = K ∧ K ≤ 1000000 ∧ E = Tx.enc true t from ⟨hKl.symm, by have := Tx.enc_len true t hs (fun s hx => (ht.sp.2.2.1 s hx).1); rw [hKl, hE]; omega, hE⟩)
  obtain ⟨D, hDd⟩ : ∃ D, D = Dg.double E := ⟨_, rfl⟩
  have hDl : D.length = 32 := by rw [hDd]; exact Dg.double_len _
  have HD := Lib.hid (show D = Dg.double E ∧ D.length = 32 ∧ Tx.idOf true t = D from ⟨hDd, hDl, by rw [Tx.idOf, ← hE, hDd]⟩)
  have hsz := size_hash' hDl
  have HO := Lib.hid (And.intro hsz (one_hash D))
  obtain ⟨g1, hg1⟩ : ∃ g, g = w.heap.size := ⟨_, rfl⟩
  have HG := Lib.hid hg1
  rw [← hg1] at lX hR
  clear hW1 ht hs hX hK hE hKl hDd hDl hsz hg1
  rw [HD.out.2.2]
  go_enter Tryz.func137, Tryz.ntmps137
  go_upto_region 1 with fail
  rw [← HW.out, ← HG.out]
  go_wp2_with (first
    | (refine wpList_store_mid rfl 34 (.tmp 2) (.tmp 6) rfl (g1 + 1) 0 (blist D).toArray rfl rfl hth HO.out.1 HO.out.2 ?_)
    | (go_at_call 96; refine hS4.mono ?_; rintro e w5 ⟨rfl, hb5⟩; have hR5 := (hR2.past _).under hb5 (hR2.past _).lt; have hth := hR5.there 0 (blist D).toArray.size (by rw [List.size_toArray, blist_length, HD.out.2.1]; decide))
    | (go_at_call 160; refine (pbytes_any a n q b m r t f HF.out W1 HT.out HS.out).mono ?_; rw [← HL.out.2.2]; rintro e w2 ⟨v2, rfl, ho2, hb2⟩; obtain ⟨x2, c2, rfl, hc2, h02, hby2⟩ := ho2.shape HL.out.1; have hR2 := hR.under hb2 hR.lt; have hB2 := hBw.trans (hb2.mono hBw.size); have hP := parts_one (c := c2) 163 hby2 hc2 h02; have hB4 := hB2.alloc hB2.size (.cells #[.slice x2 K c2] 163); have hS4 := ddouble_any _ 1 1 [E] _ (HK.out.below hB4) hP (by omega) (by rw [List.flatten_singleton, HL.out.1]; have := HL.out.2.1; omega); rw [List.flatten_singleton] at hS4; rw [← HD.out.1] at hS4)
    | (refine wpList_load_run rfl 26 (.tmp 1) rfl _ _ rfl lX ?_))
  have hE := hR5.whole (l := D) (by rw [HD.out.2.1]; rfl)
  have hS := size_hash HD.out.2.1
  exact bodyPost_ret (results_one_cell rfl _ _ (g1 + 1) rfl _ (run_loadVar_mid _ _ 0 34 _ _ hE.range Tryz.underlying34 rfl hS)) rfl ⟨rfl, below_setAll (by have := HG.out; omega) _ 0 (hB4.trans (hb5.mono hB4.size))⟩
end Go.Proofs.YtdfplenniamnoaaGreatDoor

/-! the reference's Check (mklkc.py) -/
namespace Go.Proofs.YtdfplenniamnoaaGreatDoor
open Go Go.RowKit Go.ChangeShapes Go.WideShapes
namespace Lk
/-- each spend opens the coin of its place -/
def All (t : Tx.T) (cl : List Tx.Co) : Prop := ∀ (j : Nat) (s : Tx.Sp) (c : Tx.Co), t.sp[j]? = some s → cl[j]? = some c → opens s c (Tx.idOf false t) = true
theorem all_iff (f : Tx.Sp → Tx.Co → Bool) : ∀ (l : List Tx.Sp) (k : List Tx.Co), ((l.zip k).all (fun p => f p.1 p.2) = true ↔ ∀ (j : Nat) (s : Tx.Sp) (c : Tx.Co), l[j]? = some s → k[j]? = some c → f s c = true)
  | [], k => ⟨(fun _ j s c h => by simp at h), fun _ => rfl⟩
  | s :: l, [] => ⟨(fun _ j u c _ h => by simp at h), fun _ => rfl⟩
  | s :: l, c :: k => by
    rw [List.zip_cons_cons, List.all_cons, Bool.and_eq_true, all_iff f l k]
    constructor
    · rintro ⟨h1, h2⟩ j u v hu hv
      cases j with
      | zero =>
        simp at hu hv
        rw [← hu, ← hv]
        exact h1
      | succ j => exact h2 j u v (by simpa using hu) (by simpa using hv)
    · intro h
      exact ⟨h 0 s c rfl rfl, fun j u v hu hv => h (j + 1) u v (by simpa using hu) (by simpa using hv)⟩
instance (t : Tx.T) (cl : List Tx.Co) : Decidable (All t cl) := decidable_of_iff _ (all_iff (fun s c => opens s c (Tx.idOf false t)) t.sp cl)
/-- why spends don't open their coins; 0: they do -/
def check (t : Tx.T) (cl : List Tx.Co) : Int := if cl.length = t.sp.length then (if All t cl then 0 else 10) else 1
end Lk
end Go.Proofs.YtdfplenniamnoaaGreatDoor
