/- package digest: joined, padding, Word, Compare -/
import Derived.Test.YtcedecljbgailaaDoorDgE
import Derived.Laws.Externs
namespace Go.Proofs.YtcedecljbgailaaDoor
open Go Go.RowKit Go.ChangeShapes Go.WideShapes
set_option maxRecDepth 100000 in
set_option maxHeartbeats 4000000 in
theorem joined_any (v : Dg.V8) (w : World) :
    Calls Tryd.prog 34 #[.agg (wcells 8 v.at)] w fun e w' => e = .returned (.agg (blist (Dg.out v)).toArray) ∧ Below w.heap.size w w' := by
  go_enter Tryd.func34, Tryd.ntmps34
  go_upto_region 2 with fail
  obtain ⟨gO, hgO⟩ : ∃ g, g = w.heap.size + 1 + 1 := ⟨_, rfl⟩
  obtain ⟨wO, hwO⟩ : ∃ x, x = ((w.alloc (.cells (wcells 8 v.at) 67)).alloc (.cells z32 23)).alloc (.cells z32 23) := ⟨_, rfl⟩
  rw [← hwO]
  have hGO : Has wO w.heap.size 67 (wcells 8 v.at) := by rw [hwO]; exact ((Has.fresh _ _ _).past _).past _
  have hRO : Has wO (w.heap.size + 1) 23 z32 := by rw [hwO]; exact (Has.fresh_at _ _ _ (by simp)).past _
  have hO0 : Has wO gO 23 (bcells 32 (Dg.oF v 0)) := by rw [hwO, hgO, ← oF_zero v]; exact Has.fresh_at _ _ _ (by simp)
  have hBO : Below w.heap.size w wO := by rw [hwO]; exact (((Below.refl _ _).alloc (Nat.le_refl _) _).alloc (by simp) _).alloc (by simp; omega) _
  rw [← hgO]
  clear hwO
  go_wp2_with fail
  go_loopw [5] (fun iv wr => ∃ i : Nat, i ≤ 32 ∧ iv = .int .i64 i ∧ Has wr gO 23 (bcells 32 (Dg.oF v i)) ∧ wO.grownBy wr (some gO)) (fun iv _ => 32 - (intOf iv).toNat)
  case atStart => exact ⟨0, Nat.zero_le _, rfl, hO0, grown_refl7 _ _⟩
  case round =>
    clear hO0
    obtain ⟨i, hi, rfl, hO, hgr⟩ := hrel
    have HG := Lib.hid hgO
    clear hgO
    by_cases h32 : i < 32
    · have hi32 : (i : Int) < 32 := by omega
      have hi0 : (0 : Int) ≤ (i : Int) := by omega
      obtain ⟨d, hd⟩ : ∃ d, d = i / 4 := ⟨_, rfl⟩
      obtain ⟨r4, hr4⟩ : ∃ r, r = i % 4 := ⟨_, rfl⟩
      have hdi : (i : Int).tdiv 4 = (d : Int) := by rw [hd]; rfl
      have hdi2 : (i : Int) / 4 = (d : Int) := by omega
      have hri : (i : Int).tmod 4 = (r4 : Int) := by rw [hr4]; rfl
      have hri2 : (i : Int) % 4 = (r4 : Int) := by omega
      have hd8 : (d : Int) < 8 := by omega
      have hd0 : (0 : Int) ≤ (d : Int) := by omega
      have h8 : d < 8 := by omega
      obtain ⟨e8, he8⟩ : ∃ e, e = 8 * r4 := ⟨_, rfl⟩
      have he8i : (r4 : Int) * 8 = (e8 : Int) := by omega
      have he8w : IntKind.i64.wrap (e8 : Int) = (e8 : Int) := IntWalk.i64_in _ (by omega)
      obtain ⟨sh, hsh⟩ : ∃ e, e = 24 - e8 := ⟨_, rfl⟩
      have hshi : (24 : Int) - (e8 : Int) = (sh : Int) := by omega
      have hshw : IntKind.i64.wrap (sh : Int) = (sh : Int) := IntWalk.i64_in _ (by omega)
      have hsh0 : (0 : Int) ≤ (sh : Int) := by omega
      obtain ⟨y, hy⟩ : ∃ y, y = v.at d := ⟨_, rfl⟩
      have cH : wr.cell? ⟨w.heap.size, d, none⟩ = some (.int .u32 (nb32 y)) := by rw [hy]; exact (grown_has hgr hGO (by have := HG.out; omega)).cell_at (wcells_at _ h8)
      have cO := hO.cell_at (bcells_at (Dg.oF v i) h32)
      have fO := hO.loose i
      have HY := Lib.hid (show (y >>> sh).setWidth 8 = Dg.ob v i by
        unfold Dg.ob
        rw [hy, hd, hsh, he8, hr4])
      clear hd hr4 he8 hsh hy
      go_wp2_with fail
      have hO2 := hO.put i (.int .u8 (nb8 ((y >>> sh).setWidth 8)))
      rw [oF_step v i _ HY.out] at hO2
      go_roundw
      case rel => exact ⟨i + 1, by omega, by go_num, hO2, grown_put7 hgr _ _⟩
      case measure => (simp [intOf]; try omega)
    · have hie : i = 32 := by omega
      subst hie
      have hi32 : ¬ (32 : Int) < 32 := by omega
      rw [oF_end] at hO
      have hR2 := grown_has hgr hRO (by have := HG.out; omega)
      have hB2 := grown_low hBO hgr (by have := HG.out; omega) hBO.size
      have hx := Has.load_bytes (P := Tryd.prog) Tryd.underlying23 (by kernel_rfl) (Dg.out_len v) hO
      have hth := hR2.there 0 (blist (Dg.out v)).toArray.size (by rw [List.size_toArray, blist_length, Dg.out_len]; decide)
      have hsz := size_hash' (Dg.out_len v)
      have hone := one_hash (Dg.out v)
      have HT := Lib.hid (And.intro hth (And.intro hsz hone))
      clear hth hsz hone hgr hRO hGO hBO
      go_wp2_with (first
        | (refine wpList_store_mid rfl 23 (.tmp 2) (.tmp 21) rfl (w.heap.size + 1) 0 (blist (Dg.out v)).toArray rfl rfl HT.out.1 HT.out.2.1 HT.out.2.2 ?_)
        | (refine wpList_load_run rfl 23 (.tmp 3) rfl _ _ rfl hx ?_))
      have hE := hR2.whole (l := Dg.out v) (by rw [Dg.out_len]; rfl)
      have hS := size_hash (Dg.out_len v)
      exact bodyPost_ret (results_one_cell rfl _ _ (w.heap.size + 1) rfl _ (run_loadVar_mid _ _ 0 23 _ _ hE.range Tryd.underlying23 rfl hS)) rfl ⟨rfl, below_setAll (by omega) _ 0 hB2⟩
theorem Dg.shl_or64 (x : BitVec 64) (y : BitVec 8) : x <<< 8 ||| y.setWidth 64 = 256#64 * x + y.setWidth 64 := by
  have h : x <<< 8 &&& y.setWidth 64 = 0#64 := by
    ext i hi
    simp only [BitVec.getElem_and, BitVec.getElem_shiftLeft, BitVec.getElem_setWidth, BitVec.getElem_zero]
    by_cases h : i < 8
    · simp [h]
    · rw [BitVec.getLsbD_of_ge _ _ (by omega)]; simp
  rw [← BitVec.add_eq_or_of_and_eq_zero _ _ h]
  congr 1
  apply BitVec.eq_of_toNat_eq
  simp only [BitVec.toNat_shiftLeft, BitVec.toNat_mul, BitVec.toNat_ofNat, Nat.shiftLeft_eq]
  omega
set_option maxRecDepth 100000 in
set_option maxHeartbeats 4000000 in
theorem word_any (l : List (BitVec 8)) (hl : l.length = 32) (w : World) :
    Calls Tryd.prog 23 #[.agg (blist l).toArray] w fun e w' => e = .returned (.int .u64 (nb64 (Dg.top l 8))) ∧ Below w.heap.size w w' := by
  have HL := Lib.hid hl
  clear hl
  go_enter Tryd.func23, Tryd.ntmps23
  go_wp2
  have hG : Has (w.alloc (.cells (blist l).toArray 23)) w.heap.size 23 (blist l).toArray := Has.fresh _ _ _
  have hB : Below w.heap.size w (w.alloc (.cells (blist l).toArray 23)) := (Below.refl _ _).alloc (Nat.le_refl _) _
  generalize (w.alloc (.cells (blist l).toArray 23)) = w0 at hG hB ⊢
  go_loop [3, 8] (fun xv iv => ∃ i : Nat, i ≤ 8 ∧ iv = .int .i64 i ∧ xv = .int .u64 (nb64 (Dg.top l i))) (fun _ iv => 8 - (intOf iv).toNat)
  case atStart => exact ⟨0, Nat.zero_le _, rfl, rfl⟩
  case round =>
    obtain ⟨i, hi, rfl, rfl⟩ := hrel
    by_cases hlt : i < 8
    · have hc : w0.cell? ⟨w.heap.size, i, none⟩ = some (.int .u8 (nb8 (cb l i))) := hG.cell_at (by rw [List.getElem?_toArray]; exact blist_at l i (by rw [HL.out]; omega))
      obtain ⟨b, hbb⟩ : ∃ b, b = cb l i := ⟨_, rfl⟩
      rw [← hbb] at hc
      have HX := Lib.hid (show Dg.top l (i + 1) = Dg.top l i <<< 8 ||| b.setWidth 64 by rw [Dg.shl_or64, hbb]; rfl)
      have hi0 : (0 : Int) ≤ (i : Int) := by omega
      have hi8 : (i : Int) < 8 := by omega
      clear hbb
      go_wp2_with fail
      go_round
      case rel => exact ⟨i + 1, by omega, by go_num, by rw [HX.out]⟩
      case measure => (simp [intOf]; try omega)
    · have hin : i = 8 := by omega
      subst hin
      have hi8 : ¬ (8 : Int) < 8 := by omega
      go_wp2
      go_ret
      exact ⟨rfl, hB⟩
theorem bytes_has32 {w : World} {g : Nat} {T : TypeId} {l : List (BitVec 8)} (h : Has w g T (blist l).toArray) (hl : l.length = 32) : Bytes8 w (some ⟨g, 0, none⟩) 32 l :=
  ⟨hl, by unfold maxLen; omega, fun i hi => ⟨_, rfl, by
    rw [Addr.add_mid, Nat.zero_add]
    exact h.cell_at (by rw [List.getElem?_toArray]; exact blist_at l i (by omega))⟩⟩
/-! Compare -/
theorem strB_push (acc : List (BitVec 8)) (x : BitVec 8) : (strB acc).push (nb8 x).toNat.toUInt8 = strB (acc ++ [x]) := by
  unfold strB strOfNums
  apply ByteArray.ext
  simp [ByteArray.push]
theorem run_loadBytes8 {P : Program} (w : World) : ∀ (l : List (BitVec 8)) (a : Addr) (acc : List (BitVec 8)), (∀ j, j < l.length → w.cell? (a.add j) = some (.int .u8 (nb8 (cb l j)))) →
    (Extern.Bytes.loadBytes a l.length (strB acc)).run P w = .ok (strB (acc ++ l)) w
  | [], a, acc, _ => by rw [List.append_nil]; rfl
  | x :: l, a, acc, h => by
    have h0 := h 0 (by simp)
    rw [Addr.add_zero'] at h0
    replace h0 : w.cell? a = some (.int .u8 (nb8 x)) := h0
    have ih := run_loadBytes8 (P := P) w l (a.add 1) (acc ++ [x]) (fun j hj => by
      rw [Addr.add_add, Nat.add_comm]
      exact h (j + 1) (by simp; omega))
    rw [List.append_assoc] at ih
    simp only [List.length_cons, Extern.Bytes.loadBytes, Sem.run_bind]
    have hld : (load a).run P w = .ok (.int .u8 (nb8 x)) w := by simp [h0]
    rw [hld]
    show (Extern.Bytes.loadBytes (a.add 1) l.length ((strB acc).push (nb8 x).toNat.toUInt8)).run P w = _
    rw [strB_push]
    exact ih
theorem run_bytesOf8 {P : Program} {w : World} {a : Option Addr} {n c : Nat} {l : List (BitVec 8)} (h : Bytes8 w a n l) : (Extern.Bytes.bytesOf (.slice a n c)).run P w = .ok (strB l) w := by
  obtain ⟨hl, _, hc⟩ := h
  rcases a with _ | ad
  · have h0 : n = 0 := by
      rcases Nat.eq_zero_or_pos n with h0 | h0
      · exact h0
      · obtain ⟨_, e, _⟩ := hc 0 h0; cases e
    subst h0
    obtain rfl := List.length_eq_zero_iff.1 hl
    rfl
  · subst hl
    have := run_loadBytes8 (P := P) w l ad [] (fun j hj => by
      obtain ⟨_, e, hx⟩ := hc j hj
      injection e with e
      subst e
      exact hx)
    rw [List.nil_append] at this
    exact this
theorem strB_get (l : List (BitVec 8)) (i : Nat) (h : i < l.length) : (strB l)[i]!.toNat = (cb l i).toNat := by
  rw [getElem!_pos (strB l) i (by rw [strB_size]; exact h)]
  show ((strB l).data[i]'(by rw [show (strB l).data.size = (strB l).size from rfl, strB_size]; exact h)).toNat = _
  unfold strB strOfNums cb
  simp only [List.getElem_toArray, List.getElem_map, List.map_map]
  rw [List.getD_eq_getElem?_getD, List.getElem?_eq_getElem h]
  show (UInt8.ofNat (nb8 l[i]).toNat).toNat = (l[i]).toNat
  have := (l[i]).isLt
  rw [show (nb8 l[i]).toNat = (l[i]).toNat from rfl, UInt8.toNat_ofNat_of_lt' this]
theorem Dg.cmp_upto (a b : List (BitVec 8)) (hl : a.length = b.length) : ∀ i, i ≤ a.length → (∀ j, j < i → cb a j = cb b j) → Dg.cmp a b = Dg.cmp (a.drop i) (b.drop i)
  | 0, _, _ => rfl
  | i + 1, hi, h => by
    rw [Dg.cmp_upto a b hl i (by omega) (fun j hj => h j (by omega)), Dg.cmp_drop (by omega) (by omega), if_pos (h i (by omega))]
theorem cmp_str (a b : List (BitVec 8)) (hl : a.length = b.length) : Extern.BytealgCompare.cmp (strB a) (strB b) = Dg.cmp a b := by
  unfold Extern.BytealgCompare.cmp
  rw [strB_size, strB_size, hl, Nat.min_self]
  have hne : ∀ i, i < b.length → ((strB a)[i]! != (strB b)[i]!) = (cb a i != cb b i) := fun i hi => by
    have h1 := strB_get a i (by omega)
    have h2 := strB_get b i hi
    have h3 : ((strB a)[i]! = (strB b)[i]!) ↔ (cb a i = cb b i) := by rw [← UInt8.toNat_inj, h1, h2, BitVec.toNat_inj]
    rw [Bool.eq_iff_iff, bne_iff_ne, bne_iff_ne]
    exact not_congr h3
  cases hf : (List.range b.length).find? fun i => (strB a)[i]! != (strB b)[i]! with
  | none =>
    rw [List.find?_range_eq_none] at hf
    have := Dg.cmp_upto a b hl a.length (Nat.le_refl _) (fun j hj => by
      have h1 := hf j (by omega)
      rw [hne j (by omega)] at h1
      simpa using h1)
    rw [this, Dg.cmp_end (Nat.le_refl _)]
    simp
  | some i =>
    rw [List.find?_range_eq_some] at hf
    obtain ⟨h1, h2, h3⟩ := hf
    have hi : i < b.length := by simpa using h2
    have := Dg.cmp_upto a b hl i (by omega) (fun j hj => by
      have h4 := h3 j hj
      rw [hne j (by omega)] at h4
      simpa using h4)
    rw [hne i hi] at h1
    have hab : ¬ cb a i = cb b i := by simpa using h1
    rw [this, Dg.cmp_drop (by omega) hi, if_neg hab]
    have g1 := strB_get a i (by omega)
    have g2 := strB_get b i hi
    simp only [UInt8.lt_iff_toNat_lt, g1, g2, BitVec.lt_def]
end Go.Proofs.YtcedecljbgailaaDoor
