/- package digest: joined, padding, Word, Compare · package digest: padding · package digest: the parts and the padding, one after the other -/
import Derived.Test.YtagjolbpmhbifaaGreatDoorDgE
import Derived.Laws.Externs
import Derived.Test.YtagjolbpmhbifaaGreatDoorLz
import Derived.Shelf.Abstract
import Derived.Shelf.RegionOpen
import Derived.WalkKit
import Derived.OwnWalkIn
import Derived.TacticsInMore
import Derived.LoopNIn
import Derived.LoopIn
/-! package digest: joined, padding, Word, Compare -/
namespace Go.Proofs.YtagjolbpmhbifaaGreatDoor
open Go Go.RowKit Go.ChangeShapes Go.WideShapes
set_option maxRecDepth 100000 in
set_option maxHeartbeats 4000000 in
theorem joined_any (v : Dg.V8) (w : World) :
    Calls Tryz.prog 88 #[.agg (wcells 8 v.at)] w fun e w' => e = .returned (.agg (blist (Dg.out v)).toArray) ∧ Below w.heap.size w w' := by
  go_enter Tryz.func88, Tryz.ntmps88
  go_upto_region 2 with fail
  obtain ⟨gO, hgO⟩ : ∃ g, g = w.heap.size + 1 + 1 := ⟨_, rfl⟩
  obtain ⟨wO, hwO⟩ : ∃ x, x = ((w.alloc (.cells (wcells 8 v.at) 144)).alloc (.cells z32 30)).alloc (.cells z32 30) := ⟨_, rfl⟩
  rw [← hwO]
  have hGO : Has wO w.heap.size 144 (wcells 8 v.at) := by rw [hwO]; exact ((Has.fresh _ _ _).past _).past _
  have hRO : Has wO (w.heap.size + 1) 30 z32 := by rw [hwO]; exact (Has.fresh_at _ _ _ (by simp)).past _
  have hO0 : Has wO gO 30 (bcells 32 (Dg.oF v 0)) := by rw [hwO, hgO, ← oF_zero v]; exact Has.fresh_at _ _ _ (by simp)
  have hBO : Below w.heap.size w wO := by rw [hwO]; exact (((Below.refl _ _).alloc (Nat.le_refl _) _).alloc (by simp) _).alloc (by simp; omega) _
  rw [← hgO]
  clear hwO
  go_wp2_with fail
  go_loopw [5] (fun iv wr => ∃ i : Nat, i ≤ 32 ∧ iv = .int .i64 i ∧ Has wr gO 30 (bcells 32 (Dg.oF v i)) ∧ wO.grownBy wr (some gO)) (fun iv _ => 32 - (intOf iv).toNat)
  case atStart => exact ⟨0, Nat.zero_le _, rfl, hO0, grown_refl7 _ _⟩
  case round =>
    clear hO0
    obtain ⟨i, hi, rfl, hO, hgr⟩ := hrel
    have HG := Lib.hid hgO
    clear hgO
    by_cases h32 : i < 32
    · have hi32 : (i : Int) < 32 := by omega
      have hi0 : (0 : Int) ≤ (i : Int) := by omega
      obtain ⟨d, hd⟩ : ∃ d, d = i / 4 := ⟨_, rfl⟩
      obtain ⟨r4, hr4⟩ : ∃ r, r = i % 4 := ⟨_, rfl⟩
      have hdi : (i : Int).tdiv 4 = (d : Int) := by rw [hd]; rfl
      have hdi2 : (i : Int) / 4 = (d : Int) := by omega
      have hri : (i : Int).tmod 4 = (r4 : Int) := by rw [hr4]; rfl
      have hri2 : (i : Int) % 4 = (r4 : Int) := by omega
      have hd8 : (d : Int) < 8 := by omega
      have hd0 : (0 : Int) ≤ (d : Int) := by omega
      have h8 : d < 8 := by omega
      obtain ⟨e8, he8⟩ : ∃ e, e = 8 * r4 := ⟨_, rfl⟩
      have he8i : (r4 : Int) * 8 = (e8 : Int) := by omega
      have he8w : IntKind.i64.wrap (e8 : Int) = (e8 : Int) := IntWalk.i64_in _ (by omega)
      obtain ⟨sh, hsh⟩ : ∃ e, e = 24 - e8 := ⟨_, rfl⟩
      have hshi : (24 : Int) - (e8 : Int) = (sh : Int) := by omega
      have hshw : IntKind.i64.wrap (sh : Int) = (sh : Int) := IntWalk.i64_in _ (by omega)
      have hsh0 : (0 : Int) ≤ (sh : Int) := by omega
      obtain ⟨y, hy⟩ : ∃ y, y = v.at d := ⟨_, rfl⟩
      have cH : wr.cell? ⟨w.heap.size, d, none⟩ = some (.int .u32 (nb32 y)) := by rw [hy]; exact (grown_has hgr hGO (by have := HG.out; omega)).cell_at (wcells_at _ h8)
      have cO := hO.cell_at (bcells_at (Dg.oF v i) h32)
      have fO := hO.loose i
      have HY := Lib.hid (show (y >>> sh).setWidth 8 = Dg.ob v i by
        unfold Dg.ob
        rw [hy, hd, hsh, he8, hr4])
      clear hd hr4 he8 hsh hy
      go_wp2_with fail
      have hO2 := hO.put i (.int .u8 (nb8 ((y >>> sh).setWidth 8)))
      rw [oF_step v i _ HY.out] at hO2
      go_roundw
      case rel => exact ⟨i + 1, by omega, by go_num, hO2, grown_put7 hgr _ _⟩
      case measure => (simp [intOf]; try omega)
    · have hie : i = 32 := by omega
      subst hie
      have hi32 : ¬ (32 : Int) < 32 := by omega
      rw [oF_end] at hO
      have hR2 := grown_has hgr hRO (by have := HG.out; omega)
      have hB2 := grown_low hBO hgr (by have := HG.out; omega) hBO.size
      have hx := Has.load_bytes (P := Tryz.prog) Tryz.underlying30 (by kernel_rfl) (Dg.out_len v) hO
      have hth := hR2.there 0 (blist (Dg.out v)).toArray.size (by rw [List.size_toArray, blist_length, Dg.out_len]; decide)
      have hsz := size_hash' (Dg.out_len v)
      have hone := one_hash (Dg.out v)
      have HT := Lib.hid (And.intro hth (And.intro hsz hone))
      clear hth hsz hone hgr hRO hGO hBO
      go_wp2_with (first
        | (refine wpList_store_mid rfl 30 (.tmp 2) (.tmp 21) rfl (w.heap.size + 1) 0 (blist (Dg.out v)).toArray rfl rfl HT.out.1 HT.out.2.1 HT.out.2.2 ?_)
        | (refine wpList_load_run rfl 30 (.tmp 3) rfl _ _ rfl hx ?_))
      have hE := hR2.whole (l := Dg.out v) (by rw [Dg.out_len]; rfl)
      have hS := size_hash (Dg.out_len v)
      exact bodyPost_ret (results_one_cell rfl _ _ (w.heap.size + 1) rfl _ (run_loadVar_mid _ _ 0 30 _ _ hE.range Tryz.underlying30 rfl hS)) rfl ⟨rfl, below_setAll (by omega) _ 0 hB2⟩
theorem Dg.shl_or64 (x : BitVec 64) (y : BitVec 8) : x <<< 8 ||| y.setWidth 64 = 256#64 * x + y.setWidth 64 := by
  have h : x <<< 8 &&& y.setWidth 64 = 0#64 := by
    ext i hi
    simp only [BitVec.getElem_and, BitVec.getElem_shiftLeft, BitVec.getElem_setWidth, BitVec.getElem_zero]
    by_cases h : i < 8
    · simp [h]
    · rw [BitVec.getLsbD_of_ge _ _ (by omega)]; simp
  rw [← BitVec.add_eq_or_of_and_eq_zero _ _ h]
  congr 1
  apply BitVec.eq_of_toNat_eq
  simp only [BitVec.toNat_shiftLeft, BitVec.toNat_mul, BitVec.toNat_ofNat, Nat.shiftLeft_eq]
  omega
set_option maxRecDepth 100000 in
set_option maxHeartbeats 4000000 in
theorem word_any (l : List (BitVec 8)) (hl : l.length = 32) (w : World) :
    Calls Tryz.prog 56 #[.agg (blist l).toArray] w fun e w' => e = .returned (.int .u64 (nb64 (Dg.top l 8))) ∧ Below w.heap.size w w' := by
  have HL := Lib.hid hl
  clear hl
  go_enter Tryz.func56, Tryz.ntmps56
  go_wp2
  have hG : Has (w.alloc (.cells (blist l).toArray 30)) w.heap.size 30 (blist l).toArray := Has.fresh _ _ _
  have hB : Below w.heap.size w (w.alloc (.cells (blist l).toArray 30)) := (Below.refl _ _).alloc (Nat.le_refl _) _
  generalize (w.alloc (.cells (blist l).toArray 30)) = w0 at hG hB ⊢
  go_loop [3, 8] (fun xv iv => ∃ i : Nat, i ≤ 8 ∧ iv = .int .i64 i ∧ xv = .int .u64 (nb64 (Dg.top l i))) (fun _ iv => 8 - (intOf iv).toNat)
  case atStart => exact ⟨0, Nat.zero_le _, rfl, rfl⟩
  case round =>
    obtain ⟨i, hi, rfl, rfl⟩ := hrel
    by_cases hlt : i < 8
    · have hc : w0.cell? ⟨w.heap.size, i, none⟩ = some (.int .u8 (nb8 (cb l i))) := hG.cell_at (by rw [List.getElem?_toArray]; exact blist_at l i (by rw [HL.out]; omega))
      obtain ⟨b, hbb⟩ : ∃ b, b = cb l i := ⟨_, rfl⟩
      rw [← hbb] at hc
      have HX := Lib.hid (show Dg.top l (i + 1) = Dg.top l i <<< 8 ||| b.setWidth 64 by rw [Dg.shl_or64, hbb]; rfl)
      have hi0 : (0 : Int) ≤ (i : Int) := by omega
      have hi8 : (i : Int) < 8 := by omega
      clear hbb
      go_wp2_with fail
      go_round
      case rel => exact ⟨i + 1, by omega, by go_num, by rw [HX.out]⟩
      case measure => (simp [intOf]; try omega)
    · have hin : i = 8 := by omega
      subst hin
      have hi8 : ¬ (8 : Int) < 8 := by omega
      go_wp2
      go_ret
      exact ⟨rfl, hB⟩
theorem bytes_has32 {w : World} {g : Nat} {T : TypeId} {l : List (BitVec 8)} (h : Has w g T (blist l).toArray) (hl : l.length = 32) : Bytes8 w (some ⟨g, 0, none⟩) 32 l :=
  ⟨hl, by unfold maxLen; omega, fun i hi => ⟨_, rfl, by
    rw [Addr.add_mid, Nat.zero_add]
    exact h.cell_at (by rw [List.getElem?_toArray]; exact blist_at l i (by omega))⟩⟩
/-! Compare -/
theorem strB_push (acc : List (BitVec 8)) (x : BitVec 8) : (strB acc).push (nb8 x).toNat.toUInt8 = strB (acc ++ [x]) := by
  unfold strB strOfNums
  apply ByteArray.ext
  simp [ByteArray.push]
theorem run_loadBytes8 {P : Program} (w : World) : ∀ (l : List (BitVec 8)) (a : Addr) (acc : List (BitVec 8)), (∀ j, j < l.length → w.cell? (a.add j) = some (.int .u8 (nb8 (cb l j)))) →
    (Extern.Bytes.loadBytes a l.length (strB acc)).run P w = .ok (strB (acc ++ l)) w
  | [], a, acc, _ => by rw [List.append_nil]; rfl
  | x :: l, a, acc, h => by
    have h0 := h 0 (by simp)
    rw [Addr.add_zero'] at h0
    replace h0 : w.cell? a = some (.int .u8 (nb8 x)) := h0
    have ih := run_loadBytes8 (P := P) w l (a.add 1) (acc ++ [x]) (fun j hj => by
      rw [Addr.add_add, Nat.add_comm]
      exact h (j + 1) (by simp; omega))
    rw [List.append_assoc] at ih
    simp only [List.length_cons, Extern.Bytes.loadBytes, Sem.run_bind]
    have hld : (load a).run P w = .ok (.int .u8 (nb8 x)) w := by simp [h0]
    rw [hld]
    show (Extern.Bytes.loadBytes (a.add 1) l.length ((strB acc).push (nb8 x).toNat.toUInt8)).run P w = _
    rw [strB_push]
    exact ih
theorem run_bytesOf8 {P : Program} {w : World} {a : Option Addr} {n c : Nat} {l : List (BitVec 8)} (h : Bytes8 w a n l) : (Extern.Bytes.bytesOf (.slice a n c)).run P w = .ok (strB l) w := by
  obtain ⟨hl, _, hc⟩ := h
  rcases a with _ | ad
  · have h0 : n = 0 := by
      rcases Nat.eq_zero_or_pos n with h0 | h0
      · exact h0
      · obtain ⟨_, e, _⟩ := hc 0 h0; cases e
    subst h0
    obtain rfl := List.length_eq_zero_iff.1 hl
    rfl
  · subst hl
    have := run_loadBytes8 (P := P) w l ad [] (fun j hj => by
      obtain ⟨_, e, hx⟩ := hc j hj
      injection e with e
      subst e
      exact hx)
    rw [List.nil_append] at this
    exact this
theorem strB_get (l : List (BitVec 8)) (i : Nat) (h : i < l.length) : (strB l)[i]!.toNat = (cb l i).toNat := by
  rw [getElem!_pos (strB l) i (by rw [strB_size]; exact h)]
  show ((strB l).data[i]'(by rw [show (strB l).data.size = (strB l).size from rfl, strB_size]; exact h)).toNat = _
  unfold strB strOfNums cb
  simp only [List.getElem_toArray, List.getElem_map, List.map_map]
  rw [List.getD_eq_getElem?_getD, List.getElem?_eq_getElem h]
  show (UInt8.ofNat (nb8 l[i]).toNat).toNat = (l[i]).toNat
  have := (l[i]).isLt
  rw [show (nb8 l[i]).toNat = (l[i]).toNat from rfl, UInt8.toNat_ofNat_of_lt' this]
theorem Dg.cmp_upto (a b : List (BitVec 8)) (hl : a.length = b.length) : ∀ i, i ≤ a.length → (∀ j, j < i → cb a j = cb b j) → Dg.cmp a b = Dg.cmp (a.drop i) (b.drop i)
  | 0, _, _ => rfl
  | i + 1, hi, h => by
    rw [Dg.cmp_upto a b hl i (by omega) (fun j hj => h j (by omega)), Dg.cmp_drop (by omega) (by omega), if_pos (h i (by omega))]
theorem cmp_str (a b : List (BitVec 8)) (hl : a.length = b.length) : Extern.BytealgCompare.cmp (strB a) (strB b) = Dg.cmp a b := by
  unfold Extern.BytealgCompare.cmp
  rw [strB_size, strB_size, hl, Nat.min_self]
  have hne : ∀ i, i < b.length → ((strB a)[i]! != (strB b)[i]!) = (cb a i != cb b i) := fun i hi => by
    have h1 := strB_get a i (by omega)
    have h2 := strB_get b i hi
    have h3 : ((strB a)[i]! = (strB b)[i]!) ↔ (cb a i = cb b i) := by rw [← UInt8.toNat_inj, h1, h2, BitVec.toNat_inj]
    rw [Bool.eq_iff_iff, bne_iff_ne, bne_iff_ne]
    exact not_congr h3
  cases hf : (List.range b.length).find? fun i => (strB a)[i]! != (strB b)[i]! with
  | none =>
    rw [List.find?_range_eq_none] at hf
    have := Dg.cmp_upto a b hl a.length (Nat.le_refl _) (fun j hj => by
      have h1 := hf j (by omega)
      rw [hne j (by omega)] at h1
      simpa using h1)
    rw [this, Dg.cmp_end (Nat.le_refl _)]
    simp
  | some i =>
    rw [List.find?_range_eq_some] at hf
    obtain ⟨h1, h2, h3⟩ := hf
    have hi : i < b.length := by simpa using h2
    have := Dg.cmp_upto a b hl i (by omega) (fun j hj => by
      have h4 := h3 j hj
      rw [hne j (by omega)] at h4
      simpa using h4)
    rw [hne i hi] at h1
    have hab : ¬ cb a i = cb b i := by simpa using h1
    rw [this, Dg.cmp_drop (by omega) hi, if_neg hab]
    have g1 := strB_get a i (by omega)
    have g2 := strB_get b i hi
    simp only [UInt8.lt_iff_toNat_lt, g1, g2, BitVec.lt_def]
theorem ext_compare (a b : Option Addr) (n c n2 c2 : Nat) (l l2 : List (BitVec 8)) (w : World) (h : Bytes8 w a n l) (h2 : Bytes8 w b n2 l2) (hl : l.length = l2.length) :
    (callFunc 119 #[.slice a n c, .slice b n2 c2]).run Tryz.prog w = .ok (.value (.int .i64 (Dg.cmp l l2))) w := by
  rw [run_callFunc_extern (e := Extern.BytealgCompare.compare) Tryz.func119 rfl rfl (by kernel_rfl) (by rfl)]
  have : (Extern.BytealgCompare.compare #[.slice a n c, .slice b n2 c2]).run Tryz.prog w = .ok (goInt (Dg.cmp l l2)) w := by
    show Sem.run _ (do pure (goInt (Extern.BytealgCompare.cmp (← Extern.Bytes.bytesOf (.slice a n c)) (← Extern.Bytes.bytesOf (.slice b n2 c2))))) w = _
    simp only [Sem.run_bind, run_bytesOf8 h, run_bytesOf8 h2, Result.andThen_ok, Sem.run_pure, cmp_str l l2 hl]
  rw [this]
  rfl
theorem bcompare_any (a b : Option Addr) (n c n2 c2 : Nat) (l l2 : List (BitVec 8)) (w : World) (h : Bytes8 w a n l) (h2 : Bytes8 w b n2 l2) (hl : l.length = l2.length) :
    Calls Tryz.prog 95 #[.slice a n c, .slice b n2 c2] w fun e w' => e = .returned (.int .i64 (Dg.cmp l l2)) ∧ w = w' := by
  have hext := ext_compare a b n c n2 c2 l l2 w h h2 hl
  clear hl h h2
  go_enter Tryz.func95, Tryz.ntmps95
  go_wp2
  go_ret
  exact ⟨rfl, rfl⟩
set_option maxRecDepth 100000 in
set_option maxHeartbeats 4000000 in
theorem compare_any (a b : List (BitVec 8)) (w : World) (ha : a.length = 32) (hb : b.length = 32) :
    Calls Tryz.prog 73 #[.agg (blist a).toArray, .agg (blist b).toArray] w fun e w' => e = .returned (.int .i64 (Dg.cmp a b)) ∧ Below w.heap.size w w' := by
  have HL := Lib.hid (And.intro ha hb)
  clear ha hb
  go_enter Tryz.func73, Tryz.ntmps73
  go_upto_region 1 with fail
  have hG : Has ((w.alloc (.cells (blist a).toArray 30)).alloc (.cells (blist b).toArray 30)) w.heap.size 30 (blist a).toArray := (Has.fresh _ _ _).past _
  have hH : Has ((w.alloc (.cells (blist a).toArray 30)).alloc (.cells (blist b).toArray 30)) (w.heap.size + 1) 30 (blist b).toArray := Has.fresh_at _ _ _ (by simp)
  have hB : Below w.heap.size w ((w.alloc (.cells (blist a).toArray 30)).alloc (.cells (blist b).toArray 30)) := ((Below.refl _ _).alloc (Nat.le_refl _) _).alloc (by simp) _
  generalize ((w.alloc (.cells (blist a).toArray 30)).alloc (.cells (blist b).toArray 30)) = w0 at hG hH hB ⊢
  have hP : Bytes8 w0.drew (some ⟨w.heap.size, 0, none⟩) 32 a := bytes_has32 hG.draw HL.out.1
  have hQ : Bytes8 w0.drew (some ⟨w.heap.size + 1, 0, none⟩) 32 b := bytes_has32 hH.draw HL.out.2
  have HP := Lib.hid (And.intro hP hQ)
  clear hP hQ
  refine still_all_drew8 rfl (by kernel_rfl) ?_
  repeat still_step
  still_call ((bcompare_any _ _ 32 32 32 32 a b _ HP.out.1 HP.out.2 (by rw [HL.out.1, HL.out.2])).mono fun e w' h => ⟨h.1, h.2.symm⟩)
  repeat still_step
  refine wpStill_nil ?_
  go_wp2
  go_ret
  exact ⟨rfl, hB.drew⟩
end Go.Proofs.YtagjolbpmhbifaaGreatDoor

/-! package digest: padding -/
namespace Go.Proofs.YtagjolbpmhbifaaGreatDoor
open Go Go.RowKit Go.ChangeShapes Go.WideShapes
theorem bytes_has {w : World} {g m : Nat} {T : TypeId} {l : List (BitVec 8)} (h : Has w g T (blist l).toArray) (hl : l.length = m) (hm : m ≤ 1000000) : Bytes8 w (some ⟨g, 0, none⟩) m l :=
  ⟨hl, by unfold maxLen; omega, fun i hi => ⟨_, rfl, by
    rw [Addr.add_mid, Nat.zero_add]
    exact h.cell_at (by rw [List.getElem?_toArray]; exact blist_at l i (by omega))⟩⟩
/-- what follows a message of n bytes -/
def Dg.pd (n : Nat) : List (BitVec 8) := [128#8] ++ List.replicate (Dg.zs n) 0#8 ++ (List.range 8).map (Dg.be (n * 8))
theorem Dg.pad_pd (l : List (BitVec 8)) : Dg.pad l = l ++ Dg.pd l.length := by unfold Dg.pad Dg.pd; simp
theorem Dg.pd_len (n : Nat) : (Dg.pd n).length = 1 + Dg.zs n + 8 := by simp [Dg.pd]; omega
/-- the padding on the way: e of the last bytes written -/
def Dg.pdF (Y : BitVec 64) (M e j : Nat) : BitVec 8 := if j = 0 then 128#8 else if M - e ≤ j then (Y >>> (8 * (M - 1 - j))).setWidth 8 else 0
theorem pdF_zero (Y : BitVec 64) (M : Nat) (hM : 0 < M) : (bcells M fun _ => 0).setIfInBounds 0 (.int .u8 128) = bcells M (Dg.pdF Y M 0) :=
  cellsOf_put _ _ 0 _ (by rfl) (fun j hj h0 => by
    unfold Dg.pdF
    rw [if_neg h0, if_neg (by omega)])
theorem pdF_step (Y : BitVec 64) (M e i : Nat) (he : e + 1 < M) (hi : i = M - 1 - e) (x : BitVec 64) (hx : x = Y >>> (8 * e)) : (bcells M (Dg.pdF Y M e)).setIfInBounds i (.int .u8 (nb8 (x.setWidth 8))) = bcells M (Dg.pdF Y M (e + 1)) :=
  cellsOf_put _ _ i _ (by
    unfold Dg.pdF
    rw [if_neg (by omega), if_pos (by omega), hx, show M - 1 - i = e by omega]) (fun j hj h0 => by
    unfold Dg.pdF
    by_cases h1 : j = 0
    · rw [if_pos h1, if_pos h1]
    · rw [if_neg h1, if_neg h1]
      by_cases h2 : M - e ≤ j
      · rw [if_pos h2, if_pos (by omega)]
      · rw [if_neg h2, if_neg (by omega)])
theorem shr_shr (Y : BitVec 64) (a b : Nat) : (Y >>> a) >>> b = Y >>> (a + b) := (BitVec.shiftRight_add Y a b).symm
theorem pdF_end (n e : Nat) (he : e ≤ 8) (h0 : BitVec.ofNat 64 (n * 8) >>> (8 * e) = 0#64) : bcells (1 + Dg.zs n + 8) (Dg.pdF (BitVec.ofNat 64 (n * 8)) (1 + Dg.zs n + 8) e) = (blist (Dg.pd n)).toArray := by
  obtain ⟨z, hz⟩ : ∃ z, z = Dg.zs n := ⟨_, rfl⟩
  apply Array.ext'
  apply List.ext_getElem?
  intro j
  rw [Array.getElem?_toList]
  by_cases h : j < 1 + Dg.zs n + 8
  · rw [bcells_at _ h, blist_at _ j (by rw [Dg.pd_len]; exact h)]
    congr 3
    unfold cb Dg.pd Dg.pdF
    rw [← hz] at h ⊢
    rw [List.getD_eq_getElem?_getD]
    by_cases h1 : j = 0
    · subst h1; rfl
    · rw [if_neg h1]
      by_cases h2 : j < 1 + z
      · rw [if_neg (by omega), List.getElem?_append_left (by simp; omega), List.getElem?_append_right (by simp; omega), List.getElem?_replicate, if_pos (by simp; omega)]
        rfl
      · rw [List.getElem?_append_right (by simp; omega)]
        obtain ⟨k, hk⟩ : ∃ k, k = j - (1 + z) := ⟨_, rfl⟩
        rw [show j - ([128#8] ++ List.replicate z 0#8).length = k by simp; omega, List.getElem?_map, List.getElem?_range (by omega)]
        show _ = Dg.be (n * 8) k
        unfold Dg.be
        rw [show 1 + z + 8 - 1 - j = 7 - k by omega, show 56 - 8 * k = 8 * (7 - k) by omega]
        by_cases h3 : 1 + z + 8 - e ≤ j
        · rw [if_pos h3]
        · rw [if_neg h3, show 8 * (7 - k) = 8 * e + (8 * (7 - k) - 8 * e) by omega, ← shr_shr, h0]
          simp
  · rw [Array.getElem?_eq_none (by simp [bcells, cellsOf_size]; omega), List.getElem?_eq_none (by rw [blist_length, Dg.pd_len]; omega)]
theorem make_bytes_u64 (n : Nat) (hn : n ≤ 1099511627776) (w : World) :
    (Instr.makeSlice 116 (.int .u64 (n : Int)) (.int .u64 (n : Int))).run Tryz.prog w = .ok (.slice (some ⟨w.heap.size, 0, none⟩) n n) (w.alloc (.cells (bcells n fun _ => 0) 5)) := by
  rw [run_make_row' 116 5 _ 1 Tryz.underlying116 info_byte rfl .u64 .u64 n (by omega) (by omega) w]
  have : madeCells #[.int .u8 0] n = bcells n fun _ => 0 := by
    apply Array.ext_getElem?
    intro j
    rw [← Array.getElem?_toList, toList_madeCells_one, List.getElem?_replicate]
    rcases Nat.lt_or_ge j n with h | h
    · rw [if_pos h, bcells_at _ h]; rfl
    · rw [if_neg (by omega), Array.getElem?_eq_none (by unfold bcells; rw [cellsOf_size]; exact h)]
  rw [this]
set_option maxRecDepth 100000 in
set_option maxHeartbeats 4000000 in
theorem padding_any (n : Nat) (hn : n ≤ 1000000) (x : BitVec 64) (hx : x = BitVec.ofNat 64 n) (w : World) :
    Calls Tryz.prog 128 #[.int .u64 (nb64 x)] w fun e w' =>
      e = .returned (.slice (some ⟨w.heap.size, 0, none⟩) (1 + Dg.zs n + 8) (1 + Dg.zs n + 8)) ∧ Has w' w.heap.size 5 (blist (Dg.pd n)).toArray ∧ Below w.heap.size w w' := by
  obtain ⟨z, hz⟩ : ∃ z, z = Dg.zs n := ⟨_, rfl⟩
  rw [← hz]
  have hz64 : z < 64 := by rw [hz]; exact Nat.mod_lt _ (by omega)
  have hxn : nb64 x = (n : Int) := by rw [hx]; simp only [nb64, BitVec.toNat_ofNat]; omega
  obtain ⟨Y, hY⟩ : ∃ Y, Y = BitVec.ofNat 64 (n * 8) := ⟨_, rfl⟩
  have h3 : (IntKind.u64.wrap (-IntKind.u64.wrap (IntKind.u64.wrap ((n : Int) + 1) + 8))).tmod 64 = (z : Int) := by
    obtain ⟨q, hq⟩ : ∃ q : Nat, q = 18446744073709551616 - (n + 9) := ⟨_, rfl⟩
    have e1 : IntKind.u64.wrap (-IntKind.u64.wrap (IntKind.u64.wrap ((n : Int) + 1) + 8)) = (q : Int) := by rw [IntKind.wrap_u64, IntKind.wrap_u64, IntKind.wrap_u64]; omega
    rw [e1, hz]; unfold Dg.zs
    rw [show (q : Int).tmod 64 = ((q % 64 : Nat) : Int) from rfl, hq]
    omega
  obtain ⟨p, hp⟩ : ∃ p : Nat, p = 1 + z := ⟨_, rfl⟩
  have h5 : IntKind.u64.wrap (1 + (z : Int)) = (p : Int) := by rw [IntKind.wrap_u64]; omega
  obtain ⟨M, hM⟩ : ∃ M : Nat, M = 1 + z + 8 := ⟨_, rfl⟩
  rw [← hM]
  have h6 : IntKind.u64.wrap ((p : Int) + 8) = (M : Int) := by rw [IntKind.wrap_u64]; omega
  have h7 : IntKind.u64.wrap ((n : Int) * 8) = nb64 Y := by rw [IntKind.wrap_u64, hY]; simp only [nb64, BitVec.toNat_ofNat]; omega
  have h8 : IntKind.i64.wrap ((M : Int) - 1) = ((M - 1 : Nat) : Int) := by rw [IntWalk.i64_in _ (by omega)]; omega
  have hmk := make_bytes_u64 M (by omega) w
  have hM0 : (0 : Int) < (M : Int) := by omega
  have HN := Lib.hid (And.intro hz (And.intro hY (And.intro hn (And.intro hM hz64))))
  rw [hxn]
  have H3 := Lib.hid h3
  clear hz hY hn hp hx hxn hz64 hM h3
  go_enter Tryz.func128, Tryz.ntmps128
  go_upto_region 2 with fail
  rw [H3.out]
  go_upto_region 3 with fail
  have hP0 := Has.fresh w 5 (bcells M fun _ => 0)
  have cP := hP0.cell_at (bcells_at (fun _ => (0 : BitVec 8)) (show 0 < M by have := HN.out; omega))
  have fP := hP0.loose 0
  have hB0 : Below w.heap.size w (w.alloc (.cells (bcells M fun _ => 0) 5)) := (Below.refl _ _).alloc (Nat.le_refl _) _
  generalize w.alloc (.cells (bcells M fun _ => 0) 5) = w0 at hP0 cP fP hB0 ⊢
  go_upto_region 4 with fail
  have hP := hP0.put 0 (.int .u8 128)
  rw [pdF_zero Y M (by have := HN.out; omega)] at hP
  have hB := hB0.setCell (p := ⟨w.heap.size, 0, none⟩) (Nat.le_refl _) (.int .u8 128)
  generalize w0.setCell ⟨w.heap.size, 0, none⟩ (.int .u8 128) = wB at hP hB ⊢
  clear hmk hP0 cP fP hB0 h5 h6
  go_wp2_with fail
  go_loopw [5, 6] (fun xv iv wr => ∃ e : Nat, e ≤ 8 ∧ iv = .int .i64 ((M : Int) - 1 - e) ∧ xv = .int .u64 (nb64 (Y >>> (8 * e))) ∧ Has wr w.heap.size 5 (bcells M (Dg.pdF Y M e)) ∧ Below w.heap.size w wr) (fun _ iv _ => (intOf iv).toNat)
  case atStart => exact ⟨0, Nat.zero_le _, by go_num, by simp, hP, hB⟩
  case round =>
    clear hP hB
    obtain ⟨e, he, rfl, rfl, hP, hB⟩ := hrel
    obtain ⟨X, hX⟩ : ∃ X, X = Y >>> (8 * e) := ⟨_, rfl⟩
    rw [← hX]
    obtain ⟨i, hi⟩ : ∃ i : Nat, i = M - 1 - e := ⟨_, rfl⟩
    have hMn : 9 ≤ M := by have := HN.out; omega
    have hii : (M : Int) - 1 - e = (i : Int) := by omega
    rw [hii]
    by_cases h0 : X = 0#64
    · have h0' : ¬ (X ≠ 0#64) := by simpa using h0
      have HE := Lib.hid (show bcells M (Dg.pdF Y M e) = (blist (Dg.pd n)).toArray by
        rw [HN.out.2.2.2.1, HN.out.1, HN.out.2.1]
        exact pdF_end n e he (by rw [← HN.out.2.1, ← hX]; exact h0))
      rw [HE.out] at hP
      clear hX hi hii h0
      go_wp2_with fail
      go_ret
      exact ⟨rfl, hP, hB⟩
    · have he8 : e < 8 := by
        rcases Nat.lt_or_ge e 8 with h | h
        · exact h
        · exfalso
          apply h0
          rw [hX, show e = 8 by omega]
          exact BitVec.ushiftRight_eq_zero (by omega)
      have hi0 : (0 : Int) ≤ (i : Int) := by omega
      have hiM : (i : Int) < (M : Int) := by omega
      have hiw : IntKind.i64.wrap ((i : Int) - 1) = (i : Int) - 1 := IntWalk.i64_in _ (by have := HN.out; omega)
      have cP := hP.cell_at (bcells_at (Dg.pdF Y M e) (show i < M by omega))
      have fP := hP.loose i
      have HX := Lib.hid (And.intro hX (And.intro hi (show X >>> 8 = Y >>> (8 * (e + 1)) by rw [hX, shr_shr]; rfl)))
      clear hX hi
      have h0n : X ≠ 0#64 := h0
      go_wp2_with fail
      have hP2 := hP.put i (.int .u8 (nb8 (X.setWidth 8)))
      rw [pdF_step Y M e i (by omega) HX.out.2.1 X HX.out.1] at hP2
      have hB2 := hB.setCell (p := ⟨w.heap.size, i, none⟩) (Nat.le_refl _) (.int .u8 (nb8 (X.setWidth 8)))
      go_roundw
      case rel => exact ⟨e + 1, by omega, by have := HX.out.2.1; go_num, by rw [HX.out.2.2], hP2, hB2⟩
      case measure => (simp [intOf]; try omega)
end Go.Proofs.YtagjolbpmhbifaaGreatDoor

/-! package digest: the parts and the padding, one after the other -/
namespace Go.Proofs.YtagjolbpmhbifaaGreatDoor
open Go Go.RowKit Go.Shelf Go.ChangeShapes Go.WideShapes
attribute [local go_sem] Oper.semAt_some
/-- bytes that lie in w0, or in a block from C on -/
def Src (C : Nat) (w0 W : World) (a : Option Addr) (n : Nat) (l : List (BitVec 8)) : Prop := Bytes8 w0 a n l ∨ ∃ g o, C ≤ g ∧ g < W.heap.size ∧ a = some ⟨g, o, none⟩ ∧ Bytes8 W a n l
theorem Src.bytes {C n : Nat} {w0 W : World} {a : Option Addr} {l : List (BitVec 8)} (h : Src C w0 W a n l) (hb : Below w0.heap.size w0 W) : Bytes8 W a n l := by
  rcases h with h | ⟨g, o, _, _, _, h⟩
  · exact h.below hb
  · exact h
theorem bytes_block {w w' : World} {g o n : Nat} {l : List (BitVec 8)} (h : Bytes8 w (some ⟨g, o, none⟩) n l) (hk : w'.heap[g]? = w.heap[g]?) : Bytes8 w' (some ⟨g, o, none⟩) n l := by
  refine ⟨h.1, h.2.1, fun i hi => ?_⟩
  obtain ⟨x, e, hx⟩ := h.2.2 i hi
  injection e with e
  subst e
  refine ⟨_, rfl, ?_⟩
  rw [Addr.add_mid] at hx ⊢
  rw [World.cell?_of_block (w := w) hk]
  exact hx
theorem Src.keeps {C n : Nat} {w0 W W' : World} {a : Option Addr} {l : List (BitVec 8)} (h : Src C w0 W a n l) (hk : Keeps C W W') : Src C w0 W' a n l := by
  rcases h with h | ⟨g, o, hC, hg, rfl, h⟩
  · exact Or.inl h
  · exact Or.inr ⟨g, o, hC, Nat.lt_of_lt_of_le hg hk.1, rfl, bytes_block h (hk.2 g hC hg)⟩
theorem Src.own {B C n : Nat} {w0 W W' : World} {row : Option Nat} {a : Option Addr} {l : List (BitVec 8)} (h : Src C w0 W a n l) (hg : W.grownBy W' row) (hr : ∀ r, row = some r → B ≤ r ∧ ∃ o : Obj, W.heap[r]? = some o ∧ o.isCells = false) : Src C w0 W' a n l := by
  rcases h with h | ⟨g, o, hC, hgs, rfl, h⟩
  · exact Or.inl h
  · refine Or.inr ⟨g, o, hC, Nat.lt_of_lt_of_le hgs hg.size, rfl, h.1, h.2.1, fun i hi => ?_⟩
    obtain ⟨x, e, hx⟩ := h.2.2 i hi
    exact ⟨x, e, cell_kept hx hg (fun r e => (hr r e).2)⟩
/-- a slice: where it lies, its length, its capacity -/
abbrev Sl3 := Option Addr × Nat × Nat
def encS (x : Sl3) : Array Value := #[.slice x.1 x.2.1 x.2.2]
/-- the parts and the padding -/
def Dg.parts (LL : List (List (BitVec 8))) : List (List (BitVec 8)) := LL ++ [Dg.pd LL.flatten.length]
def Dg.off (LL : List (List (BitVec 8))) (k : Nat) : Nat := ((Dg.parts LL).take k).flatten.length
theorem Dg.parts_flat (LL : List (List (BitVec 8))) : (Dg.parts LL).flatten = Dg.pad LL.flatten := by
  rw [Dg.pad_pd]; unfold Dg.parts; simp
theorem Dg.parts_at (LL : List (List (BitVec 8))) {k : Nat} (h : k < LL.length) : (Dg.parts LL).getD k [] = LL.getD k [] := by
  unfold Dg.parts
  rw [List.getD_eq_getElem?_getD, List.getD_eq_getElem?_getD, List.getElem?_append_left h]
theorem Dg.parts_last (LL : List (List (BitVec 8))) : (Dg.parts LL).getD LL.length [] = Dg.pd LL.flatten.length := by
  unfold Dg.parts
  rw [List.getD_eq_getElem?_getD, List.getElem?_append_right (Nat.le_refl _), Nat.sub_self]
  rfl
theorem take_snoc {α : Type} (L : List (List α)) {k : Nat} (h : k < L.length) : (L.take (k + 1)).flatten = (L.take k).flatten ++ L.getD k [] := by
  rw [List.take_succ_eq_append_getElem h, List.flatten_append, List.getD_eq_getElem?_getD, List.getElem?_eq_getElem h]
  simp
theorem Dg.off_step (LL : List (List (BitVec 8))) {k : Nat} (h : k ≤ LL.length) : Dg.off LL (k + 1) = Dg.off LL k + ((Dg.parts LL).getD k []).length := by
  unfold Dg.off
  rw [take_snoc _ (by simp [Dg.parts]; omega), List.length_append]
theorem Dg.off_le (LL : List (List (BitVec 8))) {k : Nat} (h : k ≤ LL.length) : Dg.off LL k ≤ LL.flatten.length := by
  unfold Dg.off Dg.parts
  rw [List.take_append_of_le_length h]
  conv => rhs; rw [← List.take_append_drop k LL, List.flatten_append, List.length_append]
  omega
theorem Dg.off_end (LL : List (List (BitVec 8))) : Dg.off LL LL.length = LL.flatten.length := by
  unfold Dg.off Dg.parts
  rw [List.take_append_of_le_length (Nat.le_refl _), List.take_length]
theorem Dg.off_all (LL : List (List (BitVec 8))) : Dg.off LL (LL.length + 1) = (Dg.pad LL.flatten).length := by
  unfold Dg.off
  rw [← Dg.parts_flat, show LL.length + 1 = (Dg.parts LL).length by simp [Dg.parts], List.take_length]
/-- what the iterator yields at place k -/
def RdP (w0 : World) (LL : List (List (BitVec 8))) (C k : Nat) (W : World) (x : Sl3) (k' : Nat) : Prop :=
  k' = k + 1 ∧ k ≤ LL.length ∧ x.2.1 ≤ x.2.2 ∧ Src C w0 W x.1 x.2.1 ((Dg.parts LL).getD k [])
/-- the iterator's box, and all that lay in w0 -/
def GdP (w0 : World) (Bx : Nat) (a : Option Addr) (n c : Nat) (W : World) : Prop := Below w0.heap.size w0 W ∧ Has W Bx 142 #[.slice a n c]
theorem padded_any (a : Option Addr) (n c : Nat) (w : World) :
    Calls Tryz.prog 104 #[.slice a n c] w fun e w' =>
      e = .returned (.func (.func 127) #[] #[.pointer (some ⟨w.heap.size, 0, none⟩)]) ∧ w' = w.alloc (.cells #[.slice a n c] 142) := by
  go_enter Tryz.func104, Tryz.ntmps104
  go_wp2
  go_ret
  exact ⟨rfl, rfl⟩
set_option maxRecDepth 100000 in
set_option maxHeartbeats 4000000 in
theorem padded_iter (m : Nat) (hm : 1 ≤ m) (Bx : Nat) (a : Option Addr) (n c : Nat) (LL : List (List (BitVec 8))) (w0 w : World) (hP : Parts w0 a n LL) (hfl : LL.flatten.length ≤ 1000000) (hnn : n ≤ 1000000) :
    IterK Fence.wide m Tryz.prog 127 #[.pointer (some ⟨Bx, 0, none⟩)] encS (GdP w0 Bx a n c) 0 (RdP w0 LL) (fun k => k = n + 1) w := by
  intro lp J W hW hJ hG hY h0
  have hb := (hG 0 W h0).2.cell_at (i := 0) rfl
  have HL := Lib.hid (And.intro hP.1 (And.intro hfl hnn))
  have hlenL : LL.length = n := hP.1
  refine callsIn_of_wp Tryz.func127 rfl trivial ?_ rfl
  simp only [Tryz.ntmps127, List.size_toArray, List.length_cons, List.length_nil, Nat.reduceAdd, Nat.reduceSub, Array.replicate_succ, Array.replicate_zero, List.push_toArray, List.append_toArray, List.nil_append, List.cons_append]
  gi_wp2
  gi_loopw [8, 3] (fun i s wr => ∃ k : Nat, k ≤ n ∧ i = .int .i64 (k : Int) ∧ s = .int .u64 (nb64 (BitVec.ofNat 64 (Dg.off LL k))) ∧ J k wr ∧ W.heap.size ≤ wr.heap.size) (fun i _ _ => n - (intOf i).toNat)
  case atStart => exact ⟨0, Nat.zero_le _, rfl, rfl, h0, Nat.le_refl _⟩
  case round =>
    clear hb h0
    obtain ⟨k, hk, rfl, rfl, hJs, hsz⟩ := hrel
    by_cases hlt : k < n
    · have hlti : (k : Int) < (n : Int) := by omega
      have hk0 : (0 : Int) ≤ (k : Int) := by omega
      obtain ⟨y, ad, pm, pc, rfl, hy, hby, hpc, _⟩ := hP.2.2 k hlt
      have hc : wr.cell? (y.add k) = some (.slice ad pm pc) := by
        rw [(hG k wr hJs).1.cell (isSome_lt (w := w0) (by rw [hy]; rfl))]; exact hy
      have hpml : ((Dg.parts LL).getD k []).length = pm := by rw [Dg.parts_at LL (by omega)]; exact hby.1
      obtain ⟨fn, tmps, assign, body, hy2, hR⟩ := hY k (ad, pm, pc) (k + 1) wr hJs hsz ⟨rfl, by omega, hpc, Or.inl (by rw [Dg.parts_at LL (by omega)]; exact hby)⟩
      dsimp only [encS] at hy2
      have hcv := nat_to_u64 pm
      have HO := Lib.hid (show BitVec.ofNat 64 (Dg.off LL k) + BitVec.ofNat 64 pm = BitVec.ofNat 64 (Dg.off LL (k + 1)) by rw [Dg.off_step LL (by omega), hpml, BitVec.ofNat_add])
      obtain ⟨O, hO⟩ : ∃ O, O = BitVec.ofNat 64 (Dg.off LL k) := ⟨_, rfl⟩
      rw [← hO] at HO ⊢
      obtain ⟨D, hD⟩ : ∃ O, O = BitVec.ofNat 64 pm := ⟨_, rfl⟩
      rw [← hD] at HO hcv
      clear hO hD hby hpml
      gi_wp2
      refine hR.mono ?_
      rintro e W3 ⟨rfl, hJ3, hk3⟩
      gi_wp2
      go_roundw
      case rel => exact ⟨k + 1, by omega, by go_num, by rw [HO.out], hJ3, Nat.le_trans hsz hk3.1⟩
      case measure => (simp [intOf]; try omega)
    · have hkn : k = n := by omega
      subst hkn
      have hlti : ¬ (k : Int) < (k : Int) := by omega
      have HO := Lib.hid (show BitVec.ofNat 64 (Dg.off LL k) = BitVec.ofNat 64 LL.flatten.length by rw [← hlenL, Dg.off_end])
      obtain ⟨O, hO⟩ : ∃ O, O = BitVec.ofNat 64 (Dg.off LL k) := ⟨_, rfl⟩
      rw [← hO] at HO ⊢
      have HLT := Lib.hid hlenL
      clear hO hlenL
      obtain ⟨M, hM⟩ : ∃ M, M = 1 + Dg.zs LL.flatten.length + 8 := ⟨_, rfl⟩
      have hpad := padding_any LL.flatten.length HL.out.2.1 O HO.out wr
      rw [← hM] at hpad
      have HPD := Lib.hid hpad
      have HM := Lib.hid (show (Dg.pd LL.flatten.length).length = M ∧ M ≤ 1000000 by
        rw [Dg.pd_len, hM]
        have : Dg.zs LL.flatten.length < 64 := Nat.mod_lt _ (by omega)
        exact ⟨rfl, by omega⟩)
      have HL2 := Lib.hid (show (Dg.parts LL).getD k [] = Dg.pd LL.flatten.length by rw [← HLT.out, Dg.parts_last])
      obtain ⟨pl, hpl⟩ : ∃ pl, pl = Dg.pd LL.flatten.length := ⟨_, rfl⟩
      rw [← hpl] at HPD HM HL2
      clear hM hpad hpl
      gi_wp2_with (refine ⟨trivial, ?_⟩; (gi_at_call 128; refine (callsIn_wide.2 HPD.out).mono ?_; rintro e wP ⟨rfl, hPd, hbP⟩; have hJP := hJ _ _ _ hJs (hbP.mono hsz); have hszP : W.heap.size ≤ wP.heap.size := Nat.le_trans hsz hbP.size; obtain ⟨fn, tmps, assign, body, hy2, hR⟩ := hY k (some ⟨wr.heap.size, 0, none⟩, M, M) (k + 1) wP hJP hszP ⟨rfl, by have := HLT.out; omega, Nat.le_refl _, Or.inr ⟨wr.heap.size, 0, hsz, hPd.lt, rfl, by rw [HL2.out]; exact bytes_has hPd HM.out.1 HM.out.2⟩⟩; dsimp only [encS] at hy2))
      refine hR.mono ?_
      rintro e W3 ⟨rfl, hJ3, hk3⟩
      gi_wp2
      go_end0
      exact ⟨⟨_, rfl⟩, k + 1, rfl, hJ3, Nat.le_trans hszP hk3.1⟩
end Go.Proofs.YtagjolbpmhbifaaGreatDoor
