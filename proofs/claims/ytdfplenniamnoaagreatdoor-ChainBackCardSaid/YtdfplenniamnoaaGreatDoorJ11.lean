/- package digest: joined, padding, Word, Compare · package digest: padding · Slices of slices of bytes. Nothing of the program but its types. · A range over a function whose body is told what the iterator has just read. Nothing of the program. · A region that draws its order, within a round of a range over a function: its head only reads, its tail is forced. Nothing of the program. -/
import Derived.Test.YtdfplenniamnoaaGreatDoorJ10
import Derived.Laws.Externs
import Derived.Test.YtdfplenniamnoaaGreatDoorJ01
import Derived.Test.YtdfplenniamnoaaGreatDoorJ04
import Derived.Test.YtdfplenniamnoaaGreatDoorRows
import Derived.Test.YtdfplenniamnoaaGreatDoorJ02
import Derived.Deep.Slices
import Derived.RangeFuncNested
import Derived.RangeFuncBound
import Derived.RangeFuncCalls
import Derived.RangeFuncLeaves
import Derived.StillTailTactics
import Derived.OrdersIn
import Derived.TacticsIn
/-! package digest: joined, padding, Word, Compare -/
namespace Go.Proofs.YtdfplenniamnoaaGreatDoor
open Go Go.RowKit Go.ChangeShapes Go.WideShapes
set_option maxRecDepth 100000 in
set_option maxHeartbeats 4000000 in
theorem joined_any (v : Dg.V8) (w : World) :
    Calls Tryz.prog 146 #[.agg (wcells 8 v.at)] w fun e w' => e = .returned (.agg (blist (Dg.out v)).toArray) ∧ Below w.heap.size w w' := by
  go_enter Tryz.func146, Tryz.ntmps146
  go_upto_region 2 with fail
  obtain ⟨gO, hgO⟩ : ∃ g, g = w.heap.size + 1 + 1 := ⟨_, rfl⟩
  obtain ⟨wO, hwO⟩ : ∃ x, x = ((w.alloc (.cells (wcells 8 v.at) 213)).alloc (.cells z32 34)).alloc (.cells z32 34) := ⟨_, rfl⟩
  rw [← hwO]
  have hGO : Has wO w.heap.size 213 (wcells 8 v.at) := by rw [hwO]; exact ((Has.fresh _ _ _).past _).past _
  have hRO : Has wO (w.heap.size + 1) 34 z32 := by rw [hwO]; exact (Has.fresh_at _ _ _ (by simp)).past _
  have hO0 : Has wO gO 34 (bcells 32 (Dg.oF v 0)) := by rw [hwO, hgO, ← oF_zero v]; exact Has.fresh_at _ _ _ (by simp)
  have hBO : Below w.heap.size w wO := by rw [hwO]; exact (((Below.refl _ _).alloc (Nat.le_refl _) _).alloc (by simp) _).alloc (by simp; omega) _
  rw [← hgO]
  clear hwO
  go_wp2_with fail
  go_loopw [5] (fun iv wr => ∃ i : Nat, i ≤ 32 ∧ iv = .int .i64 i ∧ Has wr gO 34 (bcells 32 (Dg.oF v i)) ∧ wO.grownBy wr (some gO)) (fun iv _ => 32 - (intOf iv).toNat)
  case atStart => exact ⟨0, Nat.zero_le _, rfl, hO0, grown_refl7 _ _⟩
  case round =>
    clear hO0
    obtain ⟨i, hi, rfl, hO, hgr⟩ := hrel
    have HG := Lib.hid hgO
    clear hgO
    by_cases h32 : i < 32
    · have hi32 : (i : Int) < 32 := by omega
      have hi0 : (0 : Int) ≤ (i : Int) := by omega
      obtain ⟨d, hd⟩ : ∃ d, d = i / 4 := ⟨_, rfl⟩
      obtain ⟨r4, hr4⟩ : ∃ r, r = i % 4 := ⟨_, rfl⟩
      have hdi : (i : Int).tdiv 4 = (d : Int) := by rw [hd]; rfl
      have hdi2 : (i : Int) / 4 = (d : Int) := by omega
      have hri : (i : Int).tmod 4 = (r4 : Int) := by rw [hr4]; rfl
      have hri2 : (i : Int) % 4 = (r4 : Int) := by omega
      have hd8 : (d : Int) < 8 := by omega
      have hd0 : (0 : Int) ≤ (d : Int) := by omega
      have h8 : d < 8 := by omega
      obtain ⟨e8, he8⟩ : ∃ e, e = 8 * r4 := ⟨_, rfl⟩
      have he8i : (r4 : Int) * 8 = (e8 : Int) := by omega
      have he8w : IntKind.i64.wrap (e8 : Int) = (e8 : Int) := IntWalk.i64_in _ (by omega)
      obtain ⟨sh, hsh⟩ : ∃ e, e = 24 - e8 := ⟨_, rfl⟩
      have hshi : (24 : Int) - (e8 : Int) = (sh : Int) := by omega
      have hshw : IntKind.i64.wrap (sh : Int) = (sh : Int) := IntWalk.i64_in _ (by omega)
      have hsh0 : (0 : Int) ≤ (sh : Int) := by omega
      obtain ⟨y, hy⟩ : ∃ y, y = v.at d := ⟨_, rfl⟩
      have cH : wr.cell? ⟨w.heap.size, d, none⟩ = some (.int .u32 (nb32 y)) := by rw [hy]; exact (grown_has hgr hGO (by have := HG.out; omega)).cell_at (wcells_at _ h8)
      have cO := hO.cell_at (bcells_at (Dg.oF v i) h32)
      have fO := hO.loose i
      have HY := Lib.hid (show (y >>> sh).setWidth 8 = Dg.ob v i by
        unfold Dg.ob
        rw [hy, hd, hsh, he8, hr4])
      clear hd hr4 he8 hsh hy
      go_wp2_with fail
      have hO2 := hO.put i (.int .u8 (nb8 ((y >>> sh).setWidth 8)))
      rw [oF_step v i _ HY.out] at hO2
      go_roundw
      case rel => exact ⟨i + 1, by omega, by go_num, hO2, grown_put7 hgr _ _⟩
      case measure => (simp [intOf]; try omega)
    · have hie : i = 32 := by omega
      subst hie
      have hi32 : ¬ (32 : Int) < 32 := by omega
      rw [oF_end] at hO
      have hR2 := grown_has hgr hRO (by have := HG.out; omega)
      have hB2 := grown_low hBO hgr (by have := HG.out; omega) hBO.size
      have hx := Has.load_bytes (P := Tryz.prog) Tryz.underlying34 (by kernel_rfl) (Dg.out_len v) hO
      have hth := hR2.there 0 (blist (Dg.out v)).toArray.size (by rw [List.size_toArray, blist_length, Dg.out_len]; decide)
      have hsz := size_hash' (Dg.out_len v)
      have hone := one_hash (Dg.out v)
      have HT := Lib.hid (And.intro hth (And.intro hsz hone))
      clear hth hsz hone hgr hRO hGO hBO
      go_wp2_with (first
        | (refine wpList_store_mid rfl 34 (.tmp 2) (.tmp 21) rfl (w.heap.size + 1) 0 (blist (Dg.out v)).toArray rfl rfl HT.out.1 HT.out.2.1 HT.out.2.2 ?_)
        | (refine wpList_load_run rfl 34 (.tmp 3) rfl _ _ rfl hx ?_))
      have hE := hR2.whole (l := Dg.out v) (by rw [Dg.out_len]; rfl)
      have hS := size_hash (Dg.out_len v)
      exact bodyPost_ret (results_one_cell rfl _ _ (w.heap.size + 1) rfl _ (run_loadVar_mid _ _ 0 34 _ _ hE.range Tryz.underlying34 rfl hS)) rfl ⟨rfl, below_setAll (by omega) _ 0 hB2⟩
theorem Dg.shl_or64 (x : BitVec 64) (y : BitVec 8) : x <<< 8 ||| y.setWidth 64 = 256#64 * x + y.setWidth 64 := by
  have h : x <<< 8 &&& y.setWidth 64 = 0#64 := by
    ext i hi
    simp only [BitVec.getElem_and, BitVec.getElem_shiftLeft, BitVec.getElem_setWidth, BitVec.getElem_zero]
    by_cases h : i < 8
    · simp [h]
    · rw [BitVec.getLsbD_of_ge _ _ (by omega)]; simp
  rw [← BitVec.add_eq_or_of_and_eq_zero _ _ h]
  congr 1
  apply BitVec.eq_of_toNat_eq
  simp only [BitVec.toNat_shiftLeft, BitVec.toNat_mul, BitVec.toNat_ofNat, Nat.shiftLeft_eq]
  omega
set_option maxRecDepth 100000 in
set_option maxHeartbeats 4000000 in
theorem word_any (l : List (BitVec 8)) (hl : l.length = 32) (w : World) :
    Calls Tryz.prog 106 #[.agg (blist l).toArray] w fun e w' => e = .returned (.int .u64 (nb64 (Dg.top l 8))) ∧ Below w.heap.size w w' := by
  have HL := Lib.hid hl
  clear hl
  go_enter Tryz.func106, Tryz.ntmps106
  go_wp2
  have hG : Has (w.alloc (.cells (blist l).toArray 34)) w.heap.size 34 (blist l).toArray := Has.fresh _ _ _
  have hB : Below w.heap.size w (w.alloc (.cells (blist l).toArray 34)) := (Below.refl _ _).alloc (Nat.le_refl _) _
  generalize (w.alloc (.cells (blist l).toArray 34)) = w0 at hG hB ⊢
  go_loop [3, 8] (fun xv iv => ∃ i : Nat, i ≤ 8 ∧ iv = .int .i64 i ∧ xv = .int .u64 (nb64 (Dg.top l i))) (fun _ iv => 8 - (intOf iv).toNat)
  case atStart => exact ⟨0, Nat.zero_le _, rfl, rfl⟩
  case round =>
    obtain ⟨i, hi, rfl, rfl⟩ := hrel
    by_cases hlt : i < 8
    · have hc : w0.cell? ⟨w.heap.size, i, none⟩ = some (.int .u8 (nb8 (cb l i))) := hG.cell_at (by rw [List.getElem?_toArray]; exact blist_at l i (by rw [HL.out]; omega))
      obtain ⟨b, hbb⟩ : ∃ b, b = cb l i := ⟨_, rfl⟩
      rw [← hbb] at hc
      have HX := Lib.hid (show Dg.top l (i + 1) = Dg.top l i <<< 8 ||| b.setWidth 64 by rw [Dg.shl_or64, hbb]; rfl)
      have hi0 : (0 : Int) ≤ (i : Int) := by omega
      have hi8 : (i : Int) < 8 := by omega
      clear hbb
      go_wp2_with fail
      go_round
      case rel => exact ⟨i + 1, by omega, by go_num, by rw [HX.out]⟩
      case measure => (simp [intOf]; try omega)
    · have hin : i = 8 := by omega
      subst hin
      have hi8 : ¬ (8 : Int) < 8 := by omega
      go_wp2
      go_ret
      exact ⟨rfl, hB⟩
theorem bytes_has32 {w : World} {g : Nat} {T : TypeId} {l : List (BitVec 8)} (h : Has w g T (blist l).toArray) (hl : l.length = 32) : Bytes8 w (some ⟨g, 0, none⟩) 32 l :=
  ⟨hl, by unfold maxLen; omega, fun i hi => ⟨_, rfl, by
    rw [Addr.add_mid, Nat.zero_add]
    exact h.cell_at (by rw [List.getElem?_toArray]; exact blist_at l i (by omega))⟩⟩
/-! Compare -/
theorem strB_push (acc : List (BitVec 8)) (x : BitVec 8) : (strB acc).push (nb8 x).toNat.toUInt8 = strB (acc ++ [x]) := by
  unfold strB strOfNums
  apply ByteArray.ext
  simp [ByteArray.push]
theorem run_loadBytes8 {P : Program} (w : World) : ∀ (l : List (BitVec 8)) (a : Addr) (acc : List (BitVec 8)), (∀ j, j < l.length → w.cell? (a.add j) = some (.int .u8 (nb8 (cb l j)))) →
    (Extern.Bytes.loadBytes a l.length (strB acc)).run P w = .ok (strB (acc ++ l)) w
  | [], a, acc, _ => by rw [List.append_nil]; rfl
  | x :: l, a, acc, h => by
    have h0 := h 0 (by simp)
    rw [Addr.add_zero'] at h0
    replace h0 : w.cell? a = some (.int .u8 (nb8 x)) := h0
    have ih := run_loadBytes8 (P := P) w l (a.add 1) (acc ++ [x]) (fun j hj => by
      rw [Addr.add_add, Nat.add_comm]
      exact h (j + 1) (by simp; omega))
    rw [List.append_assoc] at ih
    simp only [List.length_cons, Extern.Bytes.loadBytes, Sem.run_bind]
    have hld : (load a).run P w = .ok (.int .u8 (nb8 x)) w := by simp [h0]
    rw [hld]
    show (Extern.Bytes.loadBytes (a.add 1) l.length ((strB acc).push (nb8 x).toNat.toUInt8)).run P w = _
    rw [strB_push]
    exact ih
theorem run_bytesOf8 {P : Program} {w : World} {a : Option Addr} {n c : Nat} {l : List (BitVec 8)} (h : Bytes8 w a n l) : (Extern.Bytes.bytesOf (.slice a n c)).run P w = .ok (strB l) w := by
  obtain ⟨hl, _, hc⟩ := h
  rcases a with _ | ad
  · have h0 : n = 0 := by
      rcases Nat.eq_zero_or_pos n with h0 | h0
      · exact h0
      · obtain ⟨_, e, _⟩ := hc 0 h0; cases e
    subst h0
    obtain rfl := List.length_eq_zero_iff.1 hl
    rfl
  · subst hl
    have := run_loadBytes8 (P := P) w l ad [] (fun j hj => by
      obtain ⟨_, e, hx⟩ := hc j hj
      injection e with e
      subst e
      exact hx)
    rw [List.nil_append] at this
    exact this
theorem strB_get (l : List (BitVec 8)) (i : Nat) (h : i < l.length) : (strB l)[i]!.toNat = (cb l i).toNat := by
  rw [getElem!_pos (strB l) i (by rw [strB_size]; exact h)]
  show ((strB l).data[i]'(by rw [show (strB l).data.size = (strB l).size from rfl, strB_size]; exact h)).toNat = _
  unfold strB strOfNums cb
  simp only [List.getElem_toArray, List.getElem_map, List.map_map]
  rw [List.getD_eq_getElem?_getD, List.getElem?_eq_getElem h]
  show (UInt8.ofNat (nb8 l[i]).toNat).toNat = (l[i]).toNat
  have := (l[i]).isLt
  rw [show (nb8 l[i]).toNat = (l[i]).toNat from rfl, UInt8.toNat_ofNat_of_lt' this]
theorem Dg.cmp_upto (a b : List (BitVec 8)) (hl : a.length = b.length) : ∀ i, i ≤ a.length → (∀ j, j < i → cb a j = cb b j) → Dg.cmp a b = Dg.cmp (a.drop i) (b.drop i)
  | 0, _, _ => rfl
  | i + 1, hi, h => by
    rw [Dg.cmp_upto a b hl i (by omega) (fun j hj => h j (by omega)), Dg.cmp_drop (by omega) (by omega), if_pos (h i (by omega))]
theorem cmp_str (a b : List (BitVec 8)) (hl : a.length = b.length) : Extern.BytealgCompare.cmp (strB a) (strB b) = Dg.cmp a b := by
  unfold Extern.BytealgCompare.cmp
  rw [strB_size, strB_size, hl, Nat.min_self]
  have hne : ∀ i, i < b.length → ((strB a)[i]! != (strB b)[i]!) = (cb a i != cb b i) := fun i hi => by
    have h1 := strB_get a i (by omega)
    have h2 := strB_get b i hi
    have h3 : ((strB a)[i]! = (strB b)[i]!) ↔ (cb a i = cb b i) := by rw [← UInt8.toNat_inj, h1, h2, BitVec.toNat_inj]
    rw [Bool.eq_iff_iff, bne_iff_ne, bne_iff_ne]
    exact not_congr h3
  cases hf : (List.range b.length).find? fun i => (strB a)[i]! != (strB b)[i]! with
  | none =>
    rw [List.find?_range_eq_none] at hf
    have := Dg.cmp_upto a b hl a.length (Nat.le_refl _) (fun j hj => by
      have h1 := hf j (by omega)
      rw [hne j (by omega)] at h1
      simpa using h1)
    rw [this, Dg.cmp_end (Nat.le_refl _)]
    simp
  | some i =>
    rw [List.find?_range_eq_some] at hf
    obtain ⟨h1, h2, h3⟩ := hf
    have hi : i < b.length := by simpa using h2
    have := Dg.cmp_upto a b hl i (by omega) (fun j hj => by
      have h4 := h3 j hj
      rw [hne j (by omega)] at h4
      simpa using h4)
    rw [hne i hi] at h1
    have hab : ¬ cb a i = cb b i := by simpa using h1
    rw [this, Dg.cmp_drop (by omega) hi, if_neg hab]
    have g1 := strB_get a i (by omega)
    have g2 := strB_get b i hi
    simp only [UInt8.lt_iff_toNat_lt, g1, g2, BitVec.lt_def]
theorem ext_compare (a b : Option Addr) (n c n2 c2 : Nat) (l l2 : List (BitVec 8)) (w : World) (h : Bytes8 w a n l) (h2 : Bytes8 w b n2 l2) (hl : l.length = l2.length) :
    (callFunc 183 #[.slice a n c, .slice b n2 c2]).run Tryz.prog w = .ok (.value (.int .i64 (Dg.cmp l l2))) w := by
  rw [run_callFunc_extern (e := Extern.BytealgCompare.compare) Tryz.func183 rfl rfl (by kernel_rfl) (by rfl)]
  have : (Extern.BytealgCompare.compare #[.slice a n c, .slice b n2 c2]).run Tryz.prog w = .ok (goInt (Dg.cmp l l2)) w := by
    show Sem.run _ (do pure (goInt (Extern.BytealgCompare.cmp (← Extern.Bytes.bytesOf (.slice a n c)) (← Extern.Bytes.bytesOf (.slice b n2 c2))))) w = _
    simp only [Sem.run_bind, run_bytesOf8 h, run_bytesOf8 h2, Result.andThen_ok, Sem.run_pure, cmp_str l l2 hl]
  rw [this]
  rfl
theorem bcompare_any (a b : Option Addr) (n c n2 c2 : Nat) (l l2 : List (BitVec 8)) (w : World) (h : Bytes8 w a n l) (h2 : Bytes8 w b n2 l2) (hl : l.length = l2.length) :
    Calls Tryz.prog 156 #[.slice a n c, .slice b n2 c2] w fun e w' => e = .returned (.int .i64 (Dg.cmp l l2)) ∧ w = w' := by
  have hext := ext_compare a b n c n2 c2 l l2 w h h2 hl
  clear hl h h2
  go_enter Tryz.func156, Tryz.ntmps156
  go_wp2
  go_ret
  exact ⟨rfl, rfl⟩
end Go.Proofs.YtdfplenniamnoaaGreatDoor

/-! package digest: padding -/
namespace Go.Proofs.YtdfplenniamnoaaGreatDoor
open Go Go.RowKit Go.ChangeShapes Go.WideShapes
theorem bytes_has {w : World} {g m : Nat} {T : TypeId} {l : List (BitVec 8)} (h : Has w g T (blist l).toArray) (hl : l.length = m) (hm : m ≤ 1000000) : Bytes8 w (some ⟨g, 0, none⟩) m l :=
  ⟨hl, by unfold maxLen; omega, fun i hi => ⟨_, rfl, by
    rw [Addr.add_mid, Nat.zero_add]
    exact h.cell_at (by rw [List.getElem?_toArray]; exact blist_at l i (by omega))⟩⟩
/-- what follows a message of n bytes -/
def Dg.pd (n : Nat) : List (BitVec 8) := [128#8] ++ List.replicate (Dg.zs n) 0#8 ++ (List.range 8).map (Dg.be (n * 8))
theorem Dg.pad_pd (l : List (BitVec 8)) : Dg.pad l = l ++ Dg.pd l.length := by unfold Dg.pad Dg.pd; simp
theorem Dg.pd_len (n : Nat) : (Dg.pd n).length = 1 + Dg.zs n + 8 := by simp [Dg.pd]; omega
/-- the padding on the way: e of the last bytes written -/
def Dg.pdF (Y : BitVec 64) (M e j : Nat) : BitVec 8 := if j = 0 then 128#8 else if M - e ≤ j then (Y >>> (8 * (M - 1 - j))).setWidth 8 else 0
theorem pdF_zero (Y : BitVec 64) (M : Nat) (hM : 0 < M) : (bcells M fun _ => 0).setIfInBounds 0 (.int .u8 128) = bcells M (Dg.pdF Y M 0) :=
  cellsOf_put _ _ 0 _ (by rfl) (fun j hj h0 => by
    unfold Dg.pdF
    rw [if_neg h0, if_neg (by omega)])
theorem pdF_step (Y : BitVec 64) (M e i : Nat) (he : e + 1 < M) (hi : i = M - 1 - e) (x : BitVec 64) (hx : x = Y >>> (8 * e)) : (bcells M (Dg.pdF Y M e)).setIfInBounds i (.int .u8 (nb8 (x.setWidth 8))) = bcells M (Dg.pdF Y M (e + 1)) :=
  cellsOf_put _ _ i _ (by
    unfold Dg.pdF
    rw [if_neg (by omega), if_pos (by omega), hx, show M - 1 - i = e by omega]) (fun j hj h0 => by
    unfold Dg.pdF
    by_cases h1 : j = 0
    · rw [if_pos h1, if_pos h1]
    · rw [if_neg h1, if_neg h1]
      by_cases h2 : M - e ≤ j
      · rw [if_pos h2, if_pos (by omega)]
      · rw [if_neg h2, if_neg (by omega)])
theorem shr_shr (Y : BitVec 64) (a b : Nat) : (Y >>> a) >>> b = Y >>> (a + b) := (BitVec.shiftRight_add Y a b).symm
theorem pdF_end (n e : Nat) (he : e ≤ 8) (h0 : BitVec.ofNat 64 (n * 8) >>> (8 * e) = 0#64) : bcells (1 + Dg.zs n + 8) (Dg.pdF (BitVec.ofNat 64 (n * 8)) (1 + Dg.zs n + 8) e) = (blist (Dg.pd n)).toArray := by
  obtain ⟨z, hz⟩ : ∃ z, z = Dg.zs n := ⟨_, rfl⟩
  apply Array.ext'
  apply List.ext_getElem?
  intro j
  rw [Array.getElem?_toList]
  by_cases h : j < 1 + Dg.zs n + 8
  · rw [bcells_at _ h, blist_at _ j (by rw [Dg.pd_len]; exact h)]
    congr 3
    unfold cb Dg.pd Dg.pdF
    rw [← hz] at h ⊢
    rw [List.getD_eq_getElem?_getD]
    by_cases h1 : j = 0
    · subst h1; rfl
    · rw [if_neg h1]
      by_cases h2 : j < 1 + z
      · rw [if_neg (by omega), List.getElem?_append_left (by simp; omega), List.getElem?_append_right (by simp; omega), List.getElem?_replicate, if_pos (by simp; omega)]
        rfl
      · rw [List.getElem?_append_right (by simp; omega)]
        obtain ⟨k, hk⟩ : ∃ k, k = j - (1 + z) := ⟨_, rfl⟩
        rw [show j - ([128#8] ++ List.replicate z 0#8).length = k by simp; omega, List.getElem?_map, List.getElem?_range (by omega)]
        show _ = Dg.be (n * 8) k
        unfold Dg.be
        rw [show 1 + z + 8 - 1 - j = 7 - k by omega, show 56 - 8 * k = 8 * (7 - k) by omega]
        by_cases h3 : 1 + z + 8 - e ≤ j
        · rw [if_pos h3]
        · rw [if_neg h3, show 8 * (7 - k) = 8 * e + (8 * (7 - k) - 8 * e) by omega, ← shr_shr, h0]
          simp
  · rw [Array.getElem?_eq_none (by simp [bcells, cellsOf_size]; omega), List.getElem?_eq_none (by rw [blist_length, Dg.pd_len]; omega)]
theorem make_bytes_u64 (n : Nat) (hn : n ≤ 1099511627776) (w : World) :
    (Instr.makeSlice 163 (.int .u64 (n : Int)) (.int .u64 (n : Int))).run Tryz.prog w = .ok (.slice (some ⟨w.heap.size, 0, none⟩) n n) (w.alloc (.cells (bcells n fun _ => 0) 5)) := by
  rw [run_make_row' 163 5 _ 1 Tryz.underlying163 info_byte rfl .u64 .u64 n (by omega) (by omega) w]
  have : madeCells #[.int .u8 0] n = bcells n fun _ => 0 := by
    apply Array.ext_getElem?
    intro j
    rw [← Array.getElem?_toList, toList_madeCells_one, List.getElem?_replicate]
    rcases Nat.lt_or_ge j n with h | h
    · rw [if_pos h, bcells_at _ h]; rfl
    · rw [if_neg (by omega), Array.getElem?_eq_none (by unfold bcells; rw [cellsOf_size]; exact h)]
  rw [this]
set_option maxRecDepth 100000 in
set_option maxHeartbeats 4000000 in
theorem padding_any (n : Nat) (hn : n ≤ 1000000) (x : BitVec 64) (hx : x = BitVec.ofNat 64 n) (w : World) :
    Calls Tryz.prog 188 #[.int .u64 (nb64 x)] w fun e w' =>
      e = .returned (.slice (some ⟨w.heap.size, 0, none⟩) (1 + Dg.zs n + 8) (1 + Dg.zs n + 8)) ∧ Has w' w.heap.size 5 (blist (Dg.pd n)).toArray ∧ Below w.heap.size w w' := by
  obtain ⟨z, hz⟩ : ∃ z, z = Dg.zs n := ⟨_, rfl⟩
  rw [← hz]
  have hz64 : z < 64 := by rw [hz]; exact Nat.mod_lt _ (by omega)
  have hxn : nb64 x = (n : Int) := by rw [hx]; simp only [nb64, BitVec.toNat_ofNat]; omega
  obtain ⟨Y, hY⟩ : ∃ Y, Y = BitVec.ofNat 64 (n * 8) := ⟨_, rfl⟩
  have h3 : (IntKind.u64.wrap (-IntKind.u64.wrap (IntKind.u64.wrap ((n : Int) + 1) + 8))).tmod 64 = (z : Int) := by
    obtain ⟨q, hq⟩ : ∃ q : Nat, q = 18446744073709551616 - (n + 9) := ⟨_, rfl⟩
    have e1 : IntKind.u64.wrap (-IntKind.u64.wrap (IntKind.u64.wrap ((n : Int) + 1) + 8)) = (q : Int) := by rw [IntKind.wrap_u64, IntKind.wrap_u64, IntKind.wrap_u64]; omega
    rw [e1, hz]; unfold Dg.zs
    rw [show (q : Int).tmod 64 = ((q % 64 : Nat) : Int) from rfl, hq]
    omega
  obtain ⟨p, hp⟩ : ∃ p : Nat, p = 1 + z := ⟨_, rfl⟩
  have h5 : IntKind.u64.wrap (1 + (z : Int)) = (p : Int) := by rw [IntKind.wrap_u64]; omega
  obtain ⟨M, hM⟩ : ∃ M : Nat, M = 1 + z + 8 := ⟨_, rfl⟩
  rw [← hM]
  have h6 : IntKind.u64.wrap ((p : Int) + 8) = (M : Int) := by rw [IntKind.wrap_u64]; omega
  have h7 : IntKind.u64.wrap ((n : Int) * 8) = nb64 Y := by rw [IntKind.wrap_u64, hY]; simp only [nb64, BitVec.toNat_ofNat]; omega
  have h8 : IntKind.i64.wrap ((M : Int) - 1) = ((M - 1 : Nat) : Int) := by rw [IntWalk.i64_in _ (by omega)]; omega
  have hmk := make_bytes_u64 M (by omega) w
  have hM0 : (0 : Int) < (M : Int) := by omega
  have HN := Lib.hid (And.intro hz (And.intro hY (And.intro hn (And.intro hM hz64))))
  rw [hxn]
  have H3 := Lib.hid h3
  clear hz hY hn hp hx hxn hz64 hM h3
  go_enter Tryz.func188, Tryz.ntmps188
  go_upto_region 2 with fail
  rw [H3.out]
  go_upto_region 3 with fail
  have hP0 := Has.fresh w 5 (bcells M fun _ => 0)
  have cP := hP0.cell_at (bcells_at (fun _ => (0 : BitVec 8)) (show 0 < M by have := HN.out; omega))
  have fP := hP0.loose 0
  have hB0 : Below w.heap.size w (w.alloc (.cells (bcells M fun _ => 0) 5)) := (Below.refl _ _).alloc (Nat.le_refl _) _
  generalize w.alloc (.cells (bcells M fun _ => 0) 5) = w0 at hP0 cP fP hB0 ⊢
  go_upto_region 4 with fail
  have hP := hP0.put 0 (.int .u8 128)
  rw [pdF_zero Y M (by have := HN.out; omega)] at hP
  have hB := hB0.setCell (p := ⟨w.heap.size, 0, none⟩) (Nat.le_refl _) (.int .u8 128)
  generalize w0.setCell ⟨w.heap.size, 0, none⟩ (.int .u8 128) = wB at hP hB ⊢
  clear hmk hP0 cP fP hB0 h5 h6
  go_wp2_with fail
  go_loopw [5, 6] (fun xv iv wr => ∃ e : Nat, e ≤ 8 ∧ iv = .int .i64 ((M : Int) - 1 - e) ∧ xv = .int .u64 (nb64 (Y >>> (8 * e))) ∧ Has wr w.heap.size 5 (bcells M (Dg.pdF Y M e)) ∧ Below w.heap.size w wr) (fun _ iv _ => (intOf iv).toNat)
  case atStart => exact ⟨0, Nat.zero_le _, by go_num, by simp, hP, hB⟩
  case round =>
    clear hP hB
    obtain ⟨e, he, rfl, rfl, hP, hB⟩ := hrel
    obtain ⟨X, hX⟩ : ∃ X, X = Y >>> (8 * e) := ⟨_, rfl⟩
    rw [← hX]
    obtain ⟨i, hi⟩ : ∃ i : Nat, i = M - 1 - e := ⟨_, rfl⟩
    have hMn : 9 ≤ M := by have := HN.out; omega
    have hii : (M : Int) - 1 - e = (i : Int) := by omega
    rw [hii]
    by_cases h0 : X = 0#64
    · have h0' : ¬ (X ≠ 0#64) := by simpa using h0
      have HE := Lib.hid (show bcells M (Dg.pdF Y M e) = (blist (Dg.pd n)).toArray by
        rw [HN.out.2.2.2.1, HN.out.1, HN.out.2.1]
        exact pdF_end n e he (by rw [← HN.out.2.1, ← hX]; exact h0))
      rw [HE.out] at hP
      clear hX hi hii h0
      go_wp2_with fail
      go_ret
      exact ⟨rfl, hP, hB⟩
    · have he8 : e < 8 := by
        rcases Nat.lt_or_ge e 8 with h | h
        · exact h
        · exfalso
          apply h0
          rw [hX, show e = 8 by omega]
          exact BitVec.ushiftRight_eq_zero (by omega)
      have hi0 : (0 : Int) ≤ (i : Int) := by omega
      have hiM : (i : Int) < (M : Int) := by omega
      have hiw : IntKind.i64.wrap ((i : Int) - 1) = (i : Int) - 1 := IntWalk.i64_in _ (by have := HN.out; omega)
      have cP := hP.cell_at (bcells_at (Dg.pdF Y M e) (show i < M by omega))
      have fP := hP.loose i
      have HX := Lib.hid (And.intro hX (And.intro hi (show X >>> 8 = Y >>> (8 * (e + 1)) by rw [hX, shr_shr]; rfl)))
      clear hX hi
      have h0n : X ≠ 0#64 := h0
      go_wp2_with fail
      have hP2 := hP.put i (.int .u8 (nb8 (X.setWidth 8)))
      rw [pdF_step Y M e i (by omega) HX.out.2.1 X HX.out.1] at hP2
      have hB2 := hB.setCell (p := ⟨w.heap.size, i, none⟩) (Nat.le_refl _) (.int .u8 (nb8 (X.setWidth 8)))
      go_roundw
      case rel => exact ⟨e + 1, by omega, by have := HX.out.2.1; go_num, by rw [HX.out.2.2], hP2, hB2⟩
      case measure => (simp [intOf]; try omega)
end Go.Proofs.YtdfplenniamnoaaGreatDoor

/-! Slices of slices of bytes. Nothing of the program but its types. -/
namespace Go.Proofs.YtdfplenniamnoaaGreatDoor
open Go Go.RowKit Go.ChangeShapes Go.WideShapes
/-- a slice of slices of bytes: readable where there are any -/
def Parts (w : World) (a : Option Addr) (n : Nat) (LL : List (List (BitVec 8))) : Prop :=
  LL.length = n ∧ n ≤ maxLen ∧ ∀ i, i < n → ∃ x ad m c, a = some x ∧ w.cell? (x.add i) = some (.slice ad m c) ∧ Bytes8 w ad m (LL.getD i []) ∧ m ≤ c ∧ (ad = none → c = 0)
theorem Parts.keep {w w' : World} {a : Option Addr} {n : Nat} {LL : List (List (BitVec 8))} (h : Parts w a n LL) (hk : ∀ p : Addr, (w.cell? p).isSome = true → w'.cell? p = w.cell? p) : Parts w' a n LL := by
  refine ⟨h.1, h.2.1, fun i hi => ?_⟩
  obtain ⟨x, ad, m, c, rfl, hx, hb, h1, h2⟩ := h.2.2 i hi
  exact ⟨x, ad, m, c, rfl, by rw [hk _ (by rw [hx]; rfl)]; exact hx, hb.keep hk, h1, h2⟩
theorem Parts.below {w w' : World} {a : Option Addr} {n : Nat} {LL : List (List (BitVec 8))} (h : Parts w a n LL) (hb : Below w.heap.size w w') : Parts w' a n LL := h.keep fun _ hp => hb.cell (isSome_lt hp)
theorem parts_one {w : World} {ad : Option Addr} {m c : Nat} {l : List (BitVec 8)} (T : TypeId) (h : Bytes8 w ad m l) (hc : m ≤ c) (h0 : ad = none → c = 0) : Parts (w.alloc (.cells #[.slice ad m c] T)) (some ⟨w.heap.size, 0, none⟩) 1 [l] :=
  ⟨rfl, by unfold maxLen; omega, fun i hi => by
    obtain rfl : i = 0 := by omega
    exact ⟨_, ad, m, c, rfl, by rw [Addr.add_mid, Nat.zero_add, (Has.fresh w T _).cell]; rfl, h.past _, hc, h0⟩⟩
theorem parts_two {w : World} {ad ad2 : Option Addr} {m c m2 c2 : Nat} {l l2 : List (BitVec 8)} (T : TypeId) (h : Bytes8 w ad m l) (hc : m ≤ c) (h0 : ad = none → c = 0) (h' : Bytes8 w ad2 m2 l2) (hc' : m2 ≤ c2) (h0' : ad2 = none → c2 = 0) :
    Parts (w.alloc (.cells #[.slice ad m c, .slice ad2 m2 c2] T)) (some ⟨w.heap.size, 0, none⟩) 2 [l, l2] :=
  ⟨rfl, by unfold maxLen; omega, fun i hi => by
    rcases i with _ | _ | i
    · exact ⟨_, ad, m, c, rfl, by rw [Addr.add_mid, Nat.zero_add, (Has.fresh w T _).cell]; rfl, h.past _, hc, h0⟩
    · exact ⟨_, ad2, m2, c2, rfl, by rw [Addr.add_mid, Nat.zero_add, (Has.fresh w T _).cell]; rfl, h'.past _, hc', h0'⟩
    · omega⟩
section
variable {H : Type} {enc : TypeId × Value → H} {P : Program} {W : World} {base : Nat} {v : Value} {d : DataW H} {p : List MemPlace}
end
end Go.Proofs.YtdfplenniamnoaaGreatDoor

/-! A range over a function whose body is told what the iterator has just read. Nothing of the program. -/
namespace Go.Proofs.YtdfplenniamnoaaGreatDoor
open Go Go.RowKit

/-- the iterator's contract: at state s it reads x in the world and, the round done, is at s' -/
def Iterates {σ α : Type} (F : Fence) (n : Nat) (P : Program) (g : Nat) (lb : Array Value) (encs : α → Array Value) (Kp : World → World → Prop) (s0 : σ) (Rd : σ → World → α → σ → Prop) (fin : σ → Prop) (w : World) : Prop :=
  ∀ (l : Nat) (J Jx : σ → World → Prop) (W : World), Below w.heap.size w W → AbidesFrom W.heap.size J → AbidesFrom W.heap.size Jx →
    (∀ s x s' W1, J s W1 → Rd s W1 x s' → YieldAt F (n - 1) P l (encs x) W1 fun e W2 =>
      (e = .returned (.bool true) ∧ J s' W2 ∧ Kp W1 W2) ∨ (e = .returned (.bool false) ∧ Jx s' W2)) →
    J s0 W → CallsIn F n P g (#[.func (.yield l) #[] #[]] ++ lb) W fun e W2 => (∃ v, e = .returned v) ∧ ((∃ s, fin s ∧ J s W2) ∨ ∃ s, Jx s W2)

/-- how a round's body may be left -/
def toldPost {σ : Type} (B : Nat) (Kp : World → World → Prop) (I : σ → World → Prop) (Ix : Code → σ → World → Prop) (s : σ) (W : World) : Exit → Act → World → Prop
  | .normal, _, W' => KeepsFrom B W W' ∧ Kp W W' ∧ I s W'
  | .ret, _, W' => KeepsFrom B W W' ∧ Ix .ret s W'
  | .exit id, _, W' => KeepsFrom B W W' ∧ Ix (.exit id) s W'
  | .goto t, _, W' => KeepsFrom B W W' ∧ Ix (.goto t) s W'
  | .panic _, _, _ => False
  | .outgrown, _, _ => False

section
variable {F : Fence} {n : Nat} {P : Program}

theorem wpIn_range_told {σ α : Type} {g : Operand} {ps : Array Tmp} {assign body : Code} {Q : Exit → Act → World → Prop} {a : Act} {w : World}
    (hro : F.round = none) (h1 : 1 ≤ n) {gf : Nat} {lb : Array Value} (hg : a.eval g = .func (.func gf) #[] lb) (hFg : F.fn gf) (eg : ∀ args w, (callFunc gf args).run P w = .ok (.enter gf args) w)
    {encs : α → Array Value} {Kp : World → World → Prop} {s0 : σ} {Rd : σ → World → α → σ → Prop} {fin : σ → Prop} {w0 : World}
    (hseq : Iterates F (n - 1) P gf lb encs Kp s0 Rd fin w0) (hb0 : Below w0.heap.size w0 w) (hps : ∀ x, (encs x).size = ps.size)
    (hKt : ∀ {A B C : World}, Kp A B → Kp B C → Kp A C)
    (hKb : ∀ (W : World) (l : Nat) (o o' : Obj), w.heap.size ≤ l → W.heap[l]? = some o → o.isCells = false → Kp W (W.putObj l o'))
    (hRd : ∀ x s', OwnFrom w.heap.size (fun s W => Rd s W x s'))
    (I : σ → World → Prop) (Ix : Code → σ → World → Prop) (hI : OwnFrom w.heap.size I) (hIx : ∀ c, OwnFrom w.heap.size (Ix c)) (h0 : I s0 w) (a₁ : α → Act)
    (hassign : ∀ (l : Nat) (x : α) (W : World) (K : Act → World → Prop), K (a₁ x) W →
      assign.wpIn (F.inRound l) (n - 1 - 1) P (Exit.then K (fun _ _ _ => False)) { tmps := (ps.zip (encs x)).foldl (fun t (p, v) => t.setIfInBounds p v) a.tmps, defers := [] } W)
    (hbody : ∀ (l : Nat) (s : σ) (x : α) (s' : σ) (W : World), I s W → Rd s W x s' → w.heap.size ≤ W.heap.size → body.wpIn (F.inRound l) (n - 1 - 1) P (toldPost w.heap.size Kp I Ix s' W) (a₁ x) W)
    (hdone : ∀ (D : Nat) (s : σ) (W : World), w.heap.size ≤ D → fin s → I s W → W.heap[D]? = some (.deferred (some [])) → Q .normal { a with defers := { target := .collected D, args := #[] } :: a.defers } W)
    (hstop : ∀ (D : Nat) (c : Code) (s : σ) (W : World), w.heap.size ≤ D → Ix c s W → W.heap[D]? = some (.deferred (some [])) → c.wpIn F n P Q { a with defers := { target := .collected D, args := #[] } :: a.defers } W) :
    (Code.rangeFunc g ps assign body).wpIn F n P Q a w := by
  refine wpIn_rangeFunc fun fn hfn => ?_
  rw [hro]
  generalize hD : w.heap.size = D at *
  -- the loop's record, by its state and its pending jump
  let rec_ : LoopState → Option Code → Loop := fun st pe => { state := st, pending := pe, fn, tmps := a.tmps, params := ps, assign, body, defers := D }
  have hout := run_enterLoop_outer (P := P) (w := w) fn a.tmps ps assign body
  rw [hD] at hout
  generalize hW1 : (w.alloc (.deferred (some []))).alloc (.loop (rec_ .ready none)) = W1
  have hs1 : W1.heap.size = D + 2 := by rw [← hW1]; simp [hD]
  have hm1 : W1.heap[D]? = some (.deferred (some [])) := by
    rw [← hW1, Below.heap_alloc _ _ _ (by simp [hD])]
    have := World.alloc_heap_new w (.deferred (some []))
    rwa [hD] at this
  have hl1 : W1.heap[D + 1]? = some (.loop (rec_ .ready none)) := by
    rw [← hW1]
    have := World.alloc_heap_new (w.alloc (.deferred (some []))) (.loop (rec_ .ready none))
    rwa [World.size_alloc, hD] at this
  have hI1 : I s0 W1 := by rw [← hW1]; exact hI.alloc _ (hI.alloc _ h0)
  have hbw : Below w0.heap.size w0 W1 := by
    rw [← hW1]
    exact (hb0.alloc hb0.size _).alloc (by rw [World.size_alloc]; have := hb0.size; omega) _
  refine ⟨D + 1, [{ target := .collected D, args := #[] }], W1, { target := .fn (.func gf) lb, args := #[.func (.yield (D + 1)) #[] #[]] }, W1, gf,
    #[.func (.yield (D + 1)) #[] #[]] ++ lb, W1, by rw [← hW1]; exact hout, ?_, ?_, ?_, fun _ => h1, ?_⟩
  · simp only [resolve, hg]
    simp [go_sem]
  · intro f' hf'
    simp [Target.leads] at hf'
    subst hf'
    exact hFg
  · simp [invoke, go_sem, eg]
  -- what the iterator keeps of the two blocks
  have hkeep : ∀ {A B : World} {row : Option Nat} {k : Nat} {o : Obj}, A.grownBy B row → (∀ r, row = some r → W1.heap.size ≤ r ∧ ∃ o : Obj, A.heap[r]? = some o ∧ o.isWalk = true) → A.heap[k]? = some o → o.isWalk = false → B.heap[k]? = some o :=
    fun hgr hr hk ho => (grownBy_keeps hgr (fun r e => (hr r e).2) hk ho).trans hk
  have hrow : ∀ {A : World} {row : Option Nat}, (∀ r, row = some r → W1.heap.size ≤ r ∧ ∃ o : Obj, A.heap[r]? = some o ∧ o.isWalk = true) → (∀ r, row = some r → D ≤ r ∧ ∃ o : Obj, A.heap[r]? = some o ∧ o.isCells = false) :=
    fun hr r e => by
      obtain ⟨h1, o, ho, hw⟩ := hr r e
      exact ⟨by omega, o, ho, Obj.not_cells_of_walk hw⟩
  refine (hseq (D + 1) (fun s W => I s W ∧ W.heap[D + 1]? = some (.loop (rec_ .ready none)) ∧ W.heap[D]? = some (.deferred (some [])))
    (fun s W => ∃ c, Ix c s W ∧ W.heap[D + 1]? = some (.loop (rec_ .done (some c))) ∧ W.heap[D]? = some (.deferred (some []))) W1 hbw
    (fun s A B row hs hgr hr => ⟨hI s A B row hs.1 hgr (hrow hr), hkeep hgr hr hs.2.1 rfl, hkeep hgr hr hs.2.2 rfl⟩)
    (fun s A B row ⟨c, hc, hl, hm⟩ hgr hr => ⟨c, hIx c s A B row hc hgr (hrow hr), hkeep hgr hr hl rfl, hkeep hgr hr hm rfl⟩)
    ?_ ⟨hI1, hl1, hm1⟩).mono ?_
  · rintro s x s' W ⟨hi, hl, hm⟩ hrd
    have hlt : D + 1 < W.heap.size := (Array.getElem?_eq_some_iff.1 hl).1
    refine ⟨fn, _, assign, body, run_yield (P := P) hl (hps x), roundIn_of_wpIn hfn (hassign _ x W _ ⟨_, run_beginRound hl rfl, ?_⟩)⟩
    have hlb := World.putObj_heap_same (w := W) (o := .loop { rec_ .ready none with state := .busy }) hlt
    have hmb := (World.putObj_heap_other (w := W) (r := D + 1) (o := .loop { rec_ .ready none with state := .busy }) (show D ≠ D + 1 by omega)).trans hm
    have hkb := hKb W (D + 1) _ (.loop { rec_ .ready none with state := .busy }) (by omega) hl rfl
    have hib := hI.putObj (.loop { rec_ .ready none with state := .busy }) hi (by omega) hl rfl
    have hrb := (hRd x s').putObj (.loop { rec_ .ready none with state := .busy }) hrd (by omega) hl rfl
    refine wpIn_mono (hbody _ s x s' _ hib hrb (by rw [World.putObj_size]; omega)) ?_
    -- what 'endRound' leaves
    have fin_ : ∀ (jump : Option Code) (W3 : World), KeepsFrom D (W.putObj (D + 1) (.loop { rec_ .ready none with state := .busy })) W3 →
        ∃ W4, W4 = W3.putObj (D + 1) (.loop (rec_ (if jump.isNone then .ready else .done) jump)) ∧ (Instr.endRound (D + 1) jump).run P W3 = .ok (.bool jump.isNone) W4 ∧
          W3.heap[D + 1]? = some (.loop { rec_ .ready none with state := .busy }) ∧ W4.heap[D + 1]? = some (.loop (rec_ (if jump.isNone then .ready else .done) jump)) ∧ W4.heap[D]? = some (.deferred (some [])) := fun jump W3 hk3 => by
      have hl3 := hk3.same _ _ (by omega) hlb rfl
      exact ⟨_, rfl, run_endRound (P := P) jump hl3, hl3, World.putObj_heap_same (Array.getElem?_eq_some_iff.1 hl3).1, (World.putObj_heap_other (by omega)).trans (hk3.same _ _ (Nat.le_refl _) hmb rfl)⟩
    rintro e a3 W3 hp
    rcases e with _ | id | t | _ | _ | _
    · obtain ⟨hk3, hkp, hi3⟩ := hp
      obtain ⟨W4, rfl, hr, hl3, hl4, hm4⟩ := fin_ none W3 hk3
      exact ⟨_, _, hr, .inl ⟨rfl, ⟨hI.putObj _ hi3 (by omega) hl3 rfl, hl4, hm4⟩, hKt hkb (hKt hkp (hKb _ _ _ _ (by omega) hl3 rfl))⟩⟩
    all_goals first
      | exact hp.elim
      | (obtain ⟨hk3, hi3⟩ := hp
         obtain ⟨W4, rfl, hr, hl3, hl4, hm4⟩ := fin_ (some _) W3 hk3
         exact ⟨_, _, hr, .inr ⟨rfl, _, (hIx _).putObj _ hi3 (by omega) hl3 rfl, hl4, hm4⟩⟩)
  · rintro e W2 ⟨⟨v, rfl⟩, ⟨s, hf, hi, hl, hm⟩ | ⟨s, c, hi, hl, hm⟩⟩
    · exact ⟨none, _, run_endLoop (P := P) hl (by simp [rec_]), hdone D s _ (Nat.le_refl _) hf (hI.putObj _ hi (by omega) hl rfl) ((World.putObj_heap_other (by omega)).trans hm)⟩
    · exact ⟨some c, _, run_endLoop (P := P) hl (by simp [rec_]), hstop D c s _ (Nat.le_refl _) ((hIx c).putObj _ hi (by omega) hl rfl) ((World.putObj_heap_other (by omega)).trans hm)⟩
end

/-! what speaks of cells abides the loop's book-keeping -/
theorem Has.kept {W W' : World} {row : Option Nat} {g : Nat} {t : TypeId} {cs : Array Value} (h : Has W g t cs) (hg : W.grownBy W' row) (hr : ∀ r, row = some r → ∃ o : Obj, W.heap[r]? = some o ∧ o.isCells = false) : Has W' g t cs :=
  (grownBy_keeps_cells hg hr h rfl).trans h
theorem Has.putObj {W : World} {g l : Nat} {t : TypeId} {cs : Array Value} {o : Obj} (h : Has W g t cs) (o' : Obj) (hl : W.heap[l]? = some o) (ho : o.isCells = false) : Has (W.putObj l o') g t cs :=
  h.kept (grownBy_putObj' W l o') (fun r e => by cases e; exact ⟨o, hl, ho⟩)
theorem below_putObj {B l : Nat} {a w : World} (hb : Below B a w) (hB : B ≤ w.heap.size) (hl : B ≤ l) (o : Obj) : Below B a (w.putObj l o) :=
  hb.grown (grownBy_putObj' w l o) hB (fun k e => by cases e; exact hl)

/-! the way out -/
theorem leaves_tmp {P : Program} {fn : Func} {n : Nat} {p : Tmp} (h : fn.results = #[.tmp p]) {tmps : Array Value} {D : Nat} {w : World} {v : Value} {R : Ending → World → Prop}
    (hp : tmps.getD p undef = v) (hK : w.heap[D]? = some (.deferred (some []))) (hR : R (.returned v) (w.putObj D (.deferred none))) :
    bodyPostM Fence.wide n P fn R .ret { tmps := tmps, defers := [{ target := .collected D, args := #[] }] } w := by
  refine ⟨by simp, .inl ⟨_, _, rfl, run_takeDeferred hK, ⟨v, ?_, hR⟩⟩⟩
  rw [← hp]
  exact results_tmp h _ _ _
end Go.Proofs.YtdfplenniamnoaaGreatDoor

/-! A region that draws its order, within a round of a range over a function: its head only reads, its tail is forced. Nothing of the program. -/
namespace Go.Proofs.YtdfplenniamnoaaGreatDoor
open Go Go.RowKit
section
variable {P : Program} {lp n : Nat} {ops : Array Oper} {Q : Exit → Act → World → Prop} {a : Act} {w : World}
theorem operIn_round {o : Oper} {K K' : Act → World → Prop} (hnd : ∀ c, o.op ≠ .defer c) (hK : ∀ a w, K a w → K' a w) (h : o.wp P a w K Q) : o.wpIn (Fence.wide.inRound lp) n P a w K' Q := by
  refine ⟨fun _ _ => trivial, ?_⟩
  rw [Fence.inRound_round, Oper.semAt_some _ _ _ hnd]
  unfold Oper.wp at h
  generalize (execOp a.eval o).run P w = r at h ⊢
  unfold Oper.upon at h
  unfold Oper.uponIn
  split at h
  · exact hK _ _ h
  · exact hK _ _ h
  · exact hK _ _ h
  · refine ⟨fun hd => by simp [Fence.inRound, Fence.wide] at hd, CallsIn.inRound lp (callsIn_wide.2 (h.mono fun e w2 h2 => ?_))⟩
    cases e
    · exact hK _ _ h2
    · exact h2
    · exact h2
  · refine ⟨fun hd => by simp [Fence.inRound, Fence.wide] at hd, fun c cs _ => ?_⟩
    obtain ⟨v, w2, h1, h2⟩ := h c cs
    exact ⟨v, w2, hK _ _ h1, stepsIn_wide.2 h2⟩
  · exact h
  · exact h.elim
theorem opIn_round (hlo : ¬ LetsOut Q) {i : Nat} {K K' : Act → World → Prop} (hnd : ∀ o, ops[i]? = some o → ∀ c, o.op ≠ .defer c) (hK : ∀ a w, K a w → K' a w) (h : wpOp P ops Q i K a w) : wpOpIn (Fence.wide.inRound lp) n P ops Q i K' a w := by
  unfold wpOp at h
  unfold wpOpIn
  cases ho : ops[i]? with
  | none => rw [ho] at h; exact hK _ _ h
  | some o =>
    rw [ho] at h
    by_cases hw : Region.wanted o (yielded ops a.tmps) = true
    · simp only [hw, if_true] at h ⊢
      exact operIn_round (hnd o ho) hK (h.resolve_right fun h2 => hlo h2.2)
    · simp only [hw] at h ⊢
      exact ⟨fun _ _ => trivial, hK _ _ h⟩
theorem anyIn_round (hlo : ¬ LetsOut Q) {md : Region.Mode} (hnd : ∀ (i : Nat) (o : Oper), ops[i]? = some o → ∀ c, o.op ≠ .defer c) : ∀ (fuel : Nat) (listed : Array Bool) (a : Act) (w : World), wpAny P md ops Q fuel listed a w → wpAnyIn (Fence.wide.inRound lp) n P md ops Q fuel listed a w
  | 0, _, _, _, h => h
  | fuel + 1, _, _, _, h => ⟨h.1, fun i hi => opIn_round hlo (hnd i) (fun a w => anyIn_round hlo hnd fuel _ a w) (h.2 i hi)⟩
end
theorem wpIn_round_still_tail {P : Program} {lp n id : Nat} {Q : Exit → Act → World → Prop} {a : Act} {w : World} {l : List Oper} (m : Nat) (hm : P.follows .mixedOrders = true) (hB : Region.lexTailB .any l.toArray m = true)
    (hnd : ∀ o ∈ l, ∀ c, o.op ≠ .defer c) (hlo : ¬ LetsOut Q)
    (h : wpStill P l.toArray { w with drawn := w.drawn + 1 } (fun a' => wpList P l.toArray Q (l.drop m) a' { w with drawn := w.drawn + 1 }) (l.take m) a) : (Code.region id l.toArray true).wpIn (Fence.wide.inRound lp) n P Q a w := by
  simp only [Region.lexTailB, Bool.and_eq_true, decide_eq_true_eq] at hB
  obtain ⟨⟨⟨⟨hsel, hn⟩, hs⟩, hc⟩, hlex⟩ := hB
  have hn' : m < l.length := by simpa using hn
  have htl : (l.take m).length = m := by simp; omega
  have hdl : (l.drop m).length = l.toArray.size - m := by simp
  have inv0 : HeadInv .any l.toArray m (Array.replicate l.toArray.size false) :=
    ⟨by simp, fun j oj _ hl => (by rw [getD_replicate_false] at hl; cases hl), fun t _ ht => getD_in (by simpa using ht) (getD_replicate_false _ _)⟩
  have H := wpAnyL_lex (md := .any) (g := l.toArray.size - m) hsel hs hc hn (l.take m) 0 _ a (fun j hj => by
    have hj' : j < m := by rw [htl] at hj; exact hj
    simp [hj']) (by simpa using htl) inv0 (by rw [htl]; exact hlex) h
  refine wpIn_region_any hm (anyIn_round hlo (fun i o ho => hnd o (by
    rw [List.getElem?_toArray] at ho
    exact List.mem_of_getElem? ho)) _ _ _ _ ?_)
  have h2 := wpAny_of_head (Q' := Q) (g := l.toArray.size - m) (fun listed a' hL => by
    have := wpAny_of_seq (md := .any) (Q' := Q) (l.drop m) m listed a' { w with drawn := w.drawn + 1 } (fun j => by simp [List.getElem?_drop]) (by rw [hdl]; exact hL.1) hL.2
    rwa [hdl] at this) _ _ _ H
  rw [htl, show m + (l.toArray.size - m) = l.toArray.size by omega] at h2
  exact h2
end Go.Proofs.YtdfplenniamnoaaGreatDoor
