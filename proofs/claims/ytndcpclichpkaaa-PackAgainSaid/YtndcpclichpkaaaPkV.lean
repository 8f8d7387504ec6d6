/- the reference's ReadText, ReadHash -/
import Derived.Test.YtndcpclichpkaaaPkQ
namespace Go.Proofs.Ytndcpclichpkaaa
open Go Go.RowKit Go.ChangeShapes Go.WideShapes
def TextPost (w0 : World) (p : Pk.Rd × List (BitVec 8)) (e : Ending) (w' : World) : Prop :=
  (∃ v, e = .returned (.tuple #[v, .string (strB p.2)]) ∧ InV w' p.1 v) ∧ Below w0.heap.size w0 w'
theorem InV.slice {W : World} {B : List (BitVec 8)} {a : Option Addr} {n c : Nat} {b : Bool} (h : InV W (some B) (.agg #[.slice a n c, .bool b])) : b = false ∧ Bytes8 W a n B ∧ n ≤ c ∧ (a = none → c = 0) := by
  obtain ⟨a1, n1, c1, h1, h2, h3, h4⟩ := h
  simp at h1
  obtain ⟨⟨rfl, rfl, rfl⟩, rfl⟩ := h1
  exact ⟨rfl, h2, h3, h4⟩
theorem InV.bad {W : World} {a : Option Addr} {n c : Nat} {b : Bool} (h : InV W none (.agg #[.slice a n c, .bool b])) : b = true ∧ a = none ∧ n = 0 ∧ c = 0 := by
  have h' : Value.agg #[.slice a n c, .bool b] = .agg #[.slice none 0 0, .bool true] := h
  simp at h'
  obtain ⟨⟨rfl, rfl, rfl⟩, rfl⟩ := h'
  exact ⟨rfl, rfl, rfl, rfl⟩
theorem bytes_take {w : World} {a : Option Addr} {n k : Nat} {l : List (BitVec 8)} (h : Bytes8 w a n l) (hk : k ≤ n) : Bytes8 w a k (l.take k) := by
  refine ⟨by rw [List.length_take, h.1]; omega, by have := h.2.1; omega, fun i hi => ?_⟩
  obtain ⟨y, hy, hc⟩ := h.2.2 i (by omega)
  refine ⟨y, hy, hc.trans ?_⟩
  congr 3
  unfold cb
  rw [List.getD_eq_getElem?_getD, List.getD_eq_getElem?_getD, List.getElem?_take, if_pos hi]
set_option maxRecDepth 100000 in
set_option maxHeartbeats 8000000 in
theorem rreadText_any (s : Pk.Rd) (v : Value) (most : Int) (hm0 : -9223372036854775808 ≤ most) (hm : most < 9223372036854775808) (hsz : (Pk.left s).length ≤ 1000000) (w : World) (hv : InV w s v) :
    Calls Try.prog 23 #[v, .int .i64 most] w (TextPost w (Pk.rdText s most)) := by
  obtain ⟨a, n, c, b, rfl, hB, hb⟩ := hv.cells
  obtain ⟨w0, hw0⟩ : ∃ x, x = (w.alloc (.cells #[.slice a n c, .bool b] 46)).alloc (.cells #[.slice none 0 0, .bool false] 46) := ⟨_, rfl⟩
  have hb0 : Below w.heap.size w w0 := by rw [hw0]; exact ((Below.refl _ _).alloc (Nat.le_refl _) _).alloc (by simp) _
  have hA0 : Has w0 w.heap.size 46 #[.slice a n c, .bool b] := by rw [hw0]; exact (Has.fresh _ _ _).past _
  have hR0 : Has w0 (w.heap.size + 1) 46 #[.slice none 0 0, .bool false] := by rw [hw0]; exact Has.fresh_at _ _ _ (by simp)
  have hv0 : InV w0 s (.agg #[.slice a n c, .bool b]) := hv.below hb0
  have HW0 := Lib.hid hw0
  obtain ⟨gi, hgi⟩ : ∃ x, x = w.heap.size := ⟨_, rfl⟩
  obtain ⟨gr, hgr⟩ : ∃ x, x = gi + 1 := ⟨_, rfl⟩
  rw [← hgi] at hA0 hR0
  rw [← hgr] at hR0
  have HGR := Lib.hid (And.intro hgi hgr)
  obtain ⟨p, hp⟩ : ∃ p, p = Pk.rdCount s most := ⟨_, rfl⟩
  obtain ⟨R, hR⟩ : ∃ R, R = Pk.rdText s most := ⟨_, rfl⟩
  have HR := Lib.hid (show R = (match p.1 with | none => ((none, []) : Pk.Rd × List (BitVec 8)) | some B => if p.2 ≤ B.length then (some (B.drop p.2.toNat), B.take p.2.toNat) else (none, [])) by rw [hR, hp]; rfl)
  have HC := Lib.hid (fun w1 h => rreadCount_any s (.agg #[.slice a n c, .bool b]) most hm0 hm hsz w1 h)
  rw [← hp] at HC
  have hp0 : 0 ≤ p.2 := by
    rw [hp]
    unfold Pk.rdCount
    dsimp only
    split
    · exact Int.le_refl 0
    · split
      · exact Int.natCast_nonneg _
      · exact Int.le_refl 0
  obtain ⟨s1, z1⟩ := p
  obtain ⟨n1, rfl⟩ : ∃ n1 : Nat, z1 = n1 := ⟨z1.toNat, by dsimp only at hp0; omega⟩
  rw [← hR]
  clear hw0 hgi hgr hB hb hv hp hR hm0 hm hsz hp0
  have hA0l := hA0.load_agg (P := Try.prog) (t := 46) Try.underlying46 rfl size_in
  go_enter Try.func23, Try.ntmps23
  go_upto_region 1 with fail
  rw [← HW0.out, ← HGR.out.1, ← HGR.out.2]
  go_upto_region 2 with (first
    | (refine wpList_store_mid rfl 46 (.tmp 2) (.tmp 11) rfl gi 0 #[.slice az kz cz, .bool bz] rfl rfl HS1.out.2.2 (in_size _ _) (in_one _ _ rfl rfl) ?_)
    | (refine wpList_load_run rfl 46 (.tmp 2) rfl _ _ rfl hA0l ?_)
    | (go_at_call 21; refine (HC.out _ hv0).mono ?_; rintro e w1 ⟨⟨v1, rfl, hv1⟩, hb1⟩; have hv1' := hv1; obtain ⟨az, kz, cz, bz, rfl, HB1⟩ := hv1'.cellsH; have HS1 := Lib.hid (And.intro hv1 (And.intro hb1 ((hA0.under hb1 hA0.lt).there 0 2 (Nat.le_refl _)))); clear hv1 hb1 hv1'))
  have hv1 := HS1.out.1
  obtain ⟨wz, hwz⟩ : ∃ x, x = w1.setCells gi 0 (#[.slice az kz cz, .bool bz] : Array Value).toList := ⟨_, rfl⟩
  have hAz : Has wz gi 46 #[.slice az kz cz, .bool bz] := by rw [hwz]; exact (hA0.under HS1.out.2.1 hA0.lt).whole_cs rfl
  have hg0 : w.heap.size ≤ gi := by have := HGR.out.1; omega
  have hmz : Moved (fun k => k = gi) w1 wz := by rw [hwz]; exact Moved.putAll (F := fun k => k = gi) (.inl rfl) _ 0 (Moved.refl _ _)
  have hvz : InV wz s1 (.agg #[.slice az kz cz, .bool bz]) := hv1.aside (hA0.under HS1.out.2.1 hA0.lt) hmz (fun _ e => e)
  have hb1 : Below w.heap.size w w1 := hb0.trans (HS1.out.2.1.mono hb0.size)
  have hbz : Below w.heap.size w wz := hb1.trans (hmz.below (B := w.heap.size) (fun k e => by have e' : k = gi := e; omega) hb1.size)
  have hRz : Has wz gr 46 #[.slice none 0 0, .bool false] := (hR0.under HS1.out.2.1 hR0.lt).moved hmz (fun e => by have := HGR.out.2; have e' : gr = gi := e; omega)
  rw [← hwz]
  clear hwz hmz hv1 hA0 hR0 hb1 hb0 hv0 hA0l HS1 HC HW0 HB1
  have c0 : wz.cell? ⟨gi, 0, none⟩ = some (.slice az kz cz) := hAz.cell_at rfl
  have c1 : wz.cell? ⟨gi, 1, none⟩ = some (.bool bz) := hAz.cell_at rfl
  have HAZ := Lib.hid hAz
  have HRZ := Lib.hid hRz
  have HVZ := Lib.hid hvz
  have HBZ := Lib.hid hbz
  clear hAz hRz hvz hbz
  by_cases hbad : s1 = none ∨ kz < n1
  · obtain rfl : R = (none, []) := by
      rw [HR.out]
      cases s1 with
      | none => rfl
      | some B =>
        have hk : kz = B.length := HVZ.out.slice.2.1.1.symm
        dsimp only
        rw [if_neg (by
          rcases hbad with h | h
          · cases h
          · omega)]
    have HX := Lib.hid (show bz = true ∨ bz = false ∧ (kz : Int) < (n1 : Int) by
      cases s1 with
      | none => exact .inl HVZ.out.bad.1
      | some B =>
        right
        refine ⟨HVZ.out.slice.1, ?_⟩
        rcases hbad with h | h
        · cases h
        · omega)
    clear hbad
    rcases HX.out with rfl | ⟨rfl, hd⟩
    all_goals
      go_wp2_with (first
        | (refine wpList_store_mid rfl 46 (.tmp 4) (.tmp 22) rfl gr 0 #[.slice none 0 0, .bool true] rfl rfl hth4 (in_size _ _) (in_one _ _ rfl rfl) ?_)
        | (go_at_call 33; refine (rwrong_any _).mono ?_; rintro e w4 ⟨rfl, hb4⟩; have hR4 := HRZ.out.under hb4 HRZ.out.lt; have hth4 := hR4.there 0 2 (Nat.le_refl _)))
      have hE := hR4.whole_cs (cs2 := #[.slice none 0 0, .bool true]) rfl
      exact bodyPost_ret (results_cell_tmp rfl _ _ gr rfl _ _ rfl (in_load hE)) rfl ⟨⟨_, rfl, rfl⟩, below_setAll (by have := HGR.out; omega) _ 0 (HBZ.out.trans (hb4.mono HBZ.out.size))⟩
  · obtain ⟨B, rfl⟩ : ∃ B, s1 = some B := by
      cases s1 with
      | none => exact absurd (.inl rfl) hbad
      | some B => exact ⟨B, rfl⟩
    obtain ⟨hbf, hBz, hkc, hac⟩ := HVZ.out.slice
    subst hbf
    have hnk : n1 ≤ kz := by omega
    obtain rfl : R = (some (B.drop n1), B.take n1) := by
      rw [HR.out]
      dsimp only
      rw [if_pos (by have := hBz.1; omega)]
      rfl
    have hnki : ¬ (kz : Int) < (n1 : Int) := by omega
    have hBt := bytes_take hBz hnk
    have hth := HRZ.out.there 0 2 (Nat.le_refl _)
    have r0 : wz.cell? ⟨gr, 0, none⟩ = some (.slice none 0 0) := HRZ.out.cell_at rfl
    have r1 : wz.cell? ⟨gr, 1, none⟩ = some (.bool false) := HRZ.out.cell_at rfl
    have f0 : wz.frozen? ⟨gr, 0, none⟩ = false := HRZ.out.loose 0
    have f1 : wz.frozen? ⟨gr, 1, none⟩ = false := HRZ.out.loose 1
    have hst := run_string (P := Try.prog) 26 9 5 Try.underlying26 Try.underlying5 Try.underlying9 (w := wz.drew) (c := cz) hBt.draw
    have hnki2 : (n1 : Int) ≤ (kz : Int) := by omega
    have hnci : (n1 : Int) ≤ (cz : Int) := by omega
    have hkci : (kz : Int) ≤ (cz : Int) := by omega
    clear hbad
    have HP := Lib.hid (show ∀ u0 u1 : Value, Moved (fun k => k = gr) wz ((wz.setCell ⟨gr, 0, none⟩ u0).setCell ⟨gr, 1, none⟩ u1) from fun u0 u1 => ((Moved.refl (fun k => k = gr) wz).put (.inl rfl) 0 u0).put (.inl rfl) 1 u1)
    have HW := Lib.hid (show ∀ u0 u1 : Value, InV ((wz.setCell ⟨gr, 0, none⟩ u0).setCell ⟨gr, 1, none⟩ u1) (some B) (.agg #[.slice az kz cz, .bool false]) from fun u0 u1 => HVZ.out.aside HRZ.out (HP.out u0 u1) (fun _ e => e))
    have hst2 : ∀ u0 u1 : Value, (convert 26 9 (.slice az n1 cz)).run Try.prog ((wz.setCell ⟨gr, 0, none⟩ u0).setCell ⟨gr, 1, none⟩ u1).drew = .ok (.string (strB (B.take n1))) ((wz.setCell ⟨gr, 0, none⟩ u0).setCell ⟨gr, 1, none⟩ u1).drew := fun u0 u1 =>
      run_string (P := Try.prog) 26 9 5 Try.underlying26 Try.underlying5 Try.underlying9 (c := cz) (bytes_take (HW.out u0 u1).slice.2.1 hnk).draw
    have HG2 := Lib.hid (show ∀ u0 u1 : Value, Has ((wz.setCell ⟨gr, 0, none⟩ u0).setCell ⟨gr, 1, none⟩ u1) gr 46 #[u0, u1] from fun u0 u1 => (HRZ.out.put 0 u0).put 1 u1)
    have HACX := Lib.hid (And.intro hkc (And.intro hac hnk))
    have c02 : ∀ u0 : Value, (wz.setCell ⟨gr, 0, none⟩ u0).cell? ⟨gi, 0, none⟩ = some (.slice az kz cz) := fun u0 => (HAZ.out.aside (p := ⟨gr, 0, none⟩) (by have := HGR.out.2; show gi ≠ gr; omega) u0).cell_at rfl
    clear hBz hBt hth hac
    have HF := Lib.hid (show ∀ u0 u1 : Value, Below w.heap.size w ((wz.setCell ⟨gr, 0, none⟩ u0).setCell ⟨gr, 1, none⟩ u1).drew from fun u0 u1 => ((HBZ.out.trans ((HP.out u0 u1).below (B := w.heap.size) (fun k e => by have e' : k = gr := e; have := HGR.out; omega) HBZ.out.size))).drew)
    by_cases hcn : cz = n1
    · obtain rfl := hcn
      obtain rfl : kz = cz := by omega
      go_upto_region 4 with fail
      go_region
      all_goals
        go_wp2
        refine bodyPost_ret (results_cell_tmp rfl _ _ gr rfl _ _ rfl (in_load (HG2.out _ _).draw)) rfl ⟨⟨_, rfl, ?_⟩, HF.out _ _⟩
        have hBB := (HW.out (.bool false) (.bool false)).slice.2.1
        exact ⟨_, _, _, rfl, ⟨by rw [List.length_drop, hBB.1, Nat.sub_self], by unfold maxLen; omega, fun i hi => by omega⟩, by omega, fun _ => by rfl⟩
    · cases az with
      | none => exact absurd (HACX.out.2.1 rfl) (by have := HACX.out.2.1 rfl; omega)
      | some x =>
        have hcni : ¬ ((cz : Int) = (n1 : Int)) := by omega
        go_upto_region 4 with fail
        go_region
        all_goals
          go_wp2
          refine bodyPost_ret (results_cell_tmp rfl _ _ gr rfl _ _ rfl (in_load (HG2.out _ _).draw)) rfl ⟨⟨_, rfl, ?_⟩, HF.out _ _⟩
          have hBB := ((HW.out (.slice (some (x.add n1)) (kz - n1) (cz - n1)) (.bool false)).below (Below.refl _ _).drew).slice.2.1
          exact ⟨some (x.add n1), kz - n1, cz - n1, rfl, bytes_from hBB n1, by omega, fun e => by cases e⟩
end Go.Proofs.Ytndcpclichpkaaa
