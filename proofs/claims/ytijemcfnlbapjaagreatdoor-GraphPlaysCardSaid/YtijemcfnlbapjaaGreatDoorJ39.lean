/- GraphPlays (by hand; in work) · what the rows list of package-level tables (as digest's DgL, over fewer texts) · GraphPlays: the walk -/
import Derived.Test.YtijemcfnlbapjaaGreatDoorJ38
import Derived.Test.YtijemcfnlbapjaaGreatDoorRows
import Derived.Test.YtijemcfnlbapjaaGreatDoorJ15
namespace Go.Proofs.YtijemcfnlbapjaaGreatDoor
open Go Go.RowKit Go.ChangeShapes Go.WideShapes
theorem Gr.recs_at {α : Type} {R : Rec α} {w : World} {y : Addr} {n i : Nat} {L : List α} {t : α} (h : Recs R w (some y) n L) (hi : L[i]? = some t) : Recs R w (some (y.add (i * R.k))) 1 [t] := by
  obtain ⟨z, e, hx⟩ := h.2.2.2 i t hi
  injection e with e
  subst e
  refine ⟨rfl, by unfold maxLen; omega, fun u hu => by rw [List.mem_singleton.1 hu]; exact h.okay hi, fun j u hj => ?_⟩
  have hj0 : j = 0 := by
    have := (List.getElem?_eq_some_iff.1 hj).1
    simp at this
    exact this
  subst hj0
  have hu : t = u := Option.some.inj hj
  subst hu
  refine ⟨_, rfl, fun c v hv => ?_⟩
  have e2 : (y.add (i * R.k)).add (0 * R.k + c) = y.add (i * R.k + c) := by rw [Nat.zero_mul, Nat.zero_add, Addr.add_add]
  rw [e2]
  exact hx c v hv
set_option maxRecDepth 100000 in
set_option maxHeartbeats 16000000 in
theorem gplaysMain (a : Option Addr) (n q : Nat) (K : List Gr.Ac) (W : World) (ha : Recs (Gr.acIn14 W) W a n K) (hnq : n ≤ q) (hK : KDg W) (hT : Tab32 W 1 Dg.kL) :
    Calls Tryz.prog 3 #[.slice a n q] W fun e w' => e = .returned (.bool true) ∧ Below W.heap.size W w' := by
  have HLA := Lib.hid ha
  have HKD := Lib.hid (And.intro hK hT)
  have HNQ := Lib.hid hnq
  have hnmx : n ≤ 9223372036854775807 := ha.2.1
  have HAL := Lib.hid (alive14 W hK)
  clear ha hK hT
  go_enter Tryz.func3, Tryz.ntmps3
  go_upto_region 5 with (first
    | (go_at_call 8; refine (glong_any a n q K w2 (HLA.out.below hb2) hb2).mono ?_; rintro e w3 ⟨z1, rfl, hz1, hb3⟩; have HZ1 := Lib.hid hz1; clear hz1; have hT3 := hb2.trans (hb3.mono hb2.size))
    | (go_at_call 7; refine HAL.out.mono ?_; rintro e w2 ⟨rfl, hb2⟩))
  all_goals try (go_ret; exact ⟨rfl, hT3⟩)
  have hz1f : z1 = false := by first | rfl | assumption | simp_all
  have HF := Lib.hid (HZ1.out hz1f)
  have HT5 := Lib.hid hT3
  have hn31 : n ≤ 31 := by rw [← HLA.out.1]; exact HF.out.1
  clear hz1f HZ1 hb2 hb3 hT3
  have HNW := Lib.hid (gnew_any w3)
  go_upto_region 6 with (go_at_call 9; refine HNW.out.mono ?_; rintro e w6 ⟨rfl, hA6, hb6⟩)
  obtain ⟨g, hg⟩ : ∃ u, u = w3.heap.size + 2 := ⟨_, rfl⟩
  obtain ⟨bn, hbn⟩ : ∃ u, u = w3.heap.size := ⟨_, rfl⟩
  obtain ⟨bs, hbs⟩ : ∃ u, u = w3.heap.size + 1 := ⟨_, rfl⟩
  rw [← hg, ← hbs, ← hbn] at hA6
  rw [← hg]
  have h67 : Below w6.heap.size w6 (w6.alloc (.cells #[] 50)) := (Below.refl _ _).alloc (Nat.le_refl _) _
  have hE := (OwnR.empty (R := Gr.rnRec) (T := 50) (B := w6.heap.size) (w1 := w6.alloc (.cells #[] 50)) (g := w6.heap.size) (Nat.le_refl _) (Has.fresh _ _ _)).recs
  have hl3 := hA6.lt3
  have hW5 := HT5.out.size
  have HB7 := Lib.hid (show Below W.heap.size W (w6.alloc (.cells #[] 50)) from (HT5.out.trans (hb6.mono HT5.out.size)).trans (h67.mono (Nat.le_trans HT5.out.size hb6.size)))
  have HP0 := Lib.hid (show Gr.Pl W (w6.alloc (.cells #[] 50)) g bn bs [] 0 (some ⟨w6.heap.size, 0, none⟩) 0 0 [] from
    ⟨hA6.below h67, hE.1, hE.2, fun x e => by (injection e with e; subst e; exact ⟨by show w6.heap.size ≠ g; omega, by show w6.heap.size ≠ bn; omega, by show w6.heap.size ≠ bs; omega, by show w6.heap.size < _; simp⟩), rfl, (fun _ h => by cases h), (fun _ h => by cases h), ⟨by omega, by omega, by omega⟩⟩)
  have hS0 : RowKit.Hid (Gr.Pl W (w6.alloc (.cells #[] 50)) g bn bs [] 0 (some ⟨w6.heap.size, 0, none⟩) 0 0 [] ∧ Below W.heap.size W (w6.alloc (.cells #[] 50)) ∧ 0 ≤ 0) := Lib.hid ⟨HP0.out, HB7.out, Nat.le_refl _⟩
  clear hA6 hb6 hg hbn hbs h67 hE hl3 HP0 HB7
  go_wp2
  go_loopw [4, 14] (fun mv iv wr => ∃ (i : Nat) (y : Addr) (yn yq : Nat) (M : List Gr.Nd) (nx : Nat) (L : List Gr.Rn), i ≤ n ∧ iv = .int .i64 i ∧ mv = .slice (some y) yn yq ∧ RowKit.Hid (Gr.Pl W wr g bn bs M nx (some y) yn yq L ∧ Below W.heap.size W wr ∧ nx ≤ i)) (fun _ iv _ => n - (intOf iv).toNat)
  case atStart => exact ⟨0, _, 0, 0, [], 0, [], Nat.zero_le _, rfl, rfl, hS0⟩
  case round =>
    clear hS0
    obtain ⟨i, y, yn, yq, M, nx, L, hi, rfl, rfl, HS⟩ := hrel
    by_cases hlt : i < n
    · have hii : (i : Int) < (n : Int) := by omega
      have hi0 : (0 : Int) ≤ (i : Int) := by omega
      obtain ⟨x, hx⟩ := HLA.out.get hlt
      obtain ⟨ad, rfl, _⟩ := HLA.out.2.2.2 i x hx
      have HPL := Lib.hid (gplay_any HS.out.1 HS.out.2.1 (by simp) (some (ad.add (i * 5))) 1 (q - i) [x] (Gr.recs_at HLA.out hx) (fun u hu => by rw [List.mem_singleton.1 hu]; exact HF.out.2 x (List.mem_of_getElem? hx)) (by have := HS.out.2.2; omega) HKD.out.1 HKD.out.2)
      clear hx
      go_upto_region 11 with (go_at_call 10; refine HPL.out.mono ?_; rintro e w8 ⟨ya, yn2, yq2, M2, nx2, L2, rfl, hP8, hm8, hnx8, hne8, _⟩; obtain ⟨y2, rfl⟩ := Option.ne_none_iff_exists'.1 hne8; clear hne8; have hnil := Gr.eql_nil y2 yn2 yq2)
      have HN := Lib.hid (show Gr.Pl W w8 g bn bs M2 nx2 (some y2) yn2 yq2 L2 ∧ Below W.heap.size W w8 ∧ nx2 ≤ i + 1 from ⟨hP8, HS.out.2.1.trans (hm8.below (Gr.f3_low HS.out.1) HS.out.2.1.size), by have := HS.out.2.2; omega⟩)
      clear hP8 hm8 hnx8
      go_wp2
      go_roundw
      case rel => exact ⟨i + 1, y2, yn2, yq2, M2, nx2, L2, by omega, by go_num, rfl, HN⟩
      case measure => (simp [intOf]; try omega)
    · have hii : ¬ (i : Int) < (n : Int) := by omega
      have HST := Lib.hid (gstands_any HS.out.1 HS.out.2.1)
      go_wp2_with (go_at_call 11; refine HST.out.mono ?_; rintro e w9 ⟨rfl, hb9⟩)
      go_ret
      exact ⟨rfl, HS.out.2.1.trans (hb9.mono HS.out.2.1.size)⟩
end Go.Proofs.YtijemcfnlbapjaaGreatDoor
namespace Go.Proofs.YtijemcfnlbapjaaGreatDoor
open Go Go.RowKit Go.ChangeShapes Go.WideShapes
theorem tlaid_dg {W : World} {ps : List MemPlace} (h : DataW.LaidVars Tryz.prog W [("gossamer/digest.start", Rows.laid_gossamer_digest_start), ("gossamer/digest.constants", Rows.laid_gossamer_digest_constants)] ps) : KDg W := by
  obtain ⟨h1, q, h2⟩ := laid_tab (g := 0) (t := 159) (e := 158) (k := 8) (l := Dg.startL) h (by kernel_rfl) (by kernel_rfl) Tryz.underlying159 Tryz.underlying158 (by kernel_rfl) rfl
  obtain ⟨h3, _⟩ := laid_tab (g := 2) (t := 175) (e := 158) (k := 64) (l := Dg.kL) h2 (by kernel_rfl) (by kernel_rfl) Tryz.underlying175 Tryz.underlying158 (by kernel_rfl) rfl
  exact ⟨h3, h1⟩
theorem tlaid_dg3 {W : World} (h : laidMetH Tryz.prog [("gossamer/gossamerref07.k", Rows.laid_gossamer_gossamerref07_k), ("gossamer/digest.start", Rows.laid_gossamer_digest_start), ("gossamer/digest.constants", Rows.laid_gossamer_digest_constants)] W) : KDg W ∧ Tab32 W 1 Dg.kL := by
  rw [MakeChecks.laidMetH_plain _ _ _ (by kernel_rfl)] at h
  obtain ⟨ps, h, _⟩ := h
  obtain ⟨h1, q, h2⟩ := laid_tab (g := 1) (t := 175) (e := 158) (k := 64) (l := Dg.kL) h (by kernel_rfl) (by kernel_rfl) Tryz.underlying175 Tryz.underlying158 (by kernel_rfl) rfl
  exact ⟨tlaid_dg h2, h1⟩
end Go.Proofs.YtijemcfnlbapjaaGreatDoor
namespace Go.Proofs.YtijemcfnlbapjaaGreatDoor
open Go Go.RowKit Go.ChangeShapes Go.WideShapes
set_option maxRecDepth 100000 in
theorem graphPlaysWalk {H : Type} {enc : TypeId × Value → H} (W : World) (base : Nat) (v0 : Value) (d0 : DataW H) (p0 : List MemPlace)
    (o0 : Value.okWide Tryz.prog W .any base 22 v0) (h0 : DataW.Trod enc Tryz.prog W 0 (fun _ => true) true 22 v0 d0 p0) (hL : laidMetH Tryz.prog Rows.graphPlaysRow.laid W) :
    Calls Tryz.prog 3 #[v0] W fun e w' => e = .returned (.bool true) ∧ Below W.heap.size W w' := by
  obtain ⟨a, n, q, K, rfl, ha, hnq, _⟩ := Gr.arg_acts14 o0 h0
  have hl := tlaid_dg3 hL
  exact gplaysMain a n q K W ha hnq hl.1 hl.2
end Go.Proofs.YtijemcfnlbapjaaGreatDoor
