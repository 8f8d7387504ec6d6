/- PackPuts: the walk (mkpku.py) -/
import Derived.Test.YtndcpclichpkaaaPkY
namespace Go.Proofs.Ytndcpclichpkaaa
open Go Go.RowKit Go.ChangeShapes Go.WideShapes
theorem Both.sz {B g : Nat} {w : World} {v wv : Value} {l m : List (BitVec 8)} (h : Both B w g v wv l m) (hB : B ≤ g) : B ≤ w.heap.size := Nat.le_of_lt (Nat.lt_of_le_of_lt hB h.1.1.lt)
set_option maxRecDepth 100000 in
set_option maxHeartbeats 64000000 in
theorem packPutsWalk {H : Type} {enc : TypeId × Value → H} (W : World) (base : Nat) (v0 : Value) (d0 : DataW H) (p0 : List MemPlace)
    (o0 : Value.okWide Try.prog W .any base 22 v0) (h0 : DataW.Trod enc Try.prog W 0 (fun _ => true) true 22 v0 d0 p0) :
    Calls Try.prog 3 #[v0] W fun e w' => e = .returned (.bool true) ∧ Below W.heap.size W w' := by
  obtain ⟨a, n, c, L, rfl, hT, hnc, hc0⟩ := arg_things o0 h0
  clear o0 h0
  have hmx : n ≤ 9223372036854775807 := hT.2.1
  have HT := Lib.hid hT
  clear hT hc0
  go_enter Try.func3, Try.ntmps3
  go_upto_region 3 with (first | (go_at_call 7; refine (alive08 W).mono ?_; rintro e w1 ⟨rfl, hb1⟩))
  go_upto_if 12 with (go_at_call 8; refine (long_any a n c L w1 (HT.out.below hb1)).mono ?_; rintro e w2 ⟨bl, rfl, hsh, hb2⟩)
  have hW2 := hb1.trans (hb2.mono hb1.size)
  cases bl with
  | true =>
    clear hsh
    go_wp2
    go_ret
    exact ⟨rfl, hW2⟩
  | false =>
    have HSH := Lib.hid (hsh rfl)
    clear hsh hb1 hb2
    have hn41 : n ≤ 41 := by rw [← HT.out.1]; exact HSH.out.1
    go_upto_region 7 with fail
    obtain ⟨w3, hw3⟩ : ∃ x, x = (w2.alloc (.cells #[.slice none 0 0] 28)).alloc (.cells #[] 5) := ⟨_, rfl⟩
    have hb3 : Below w2.heap.size w2 w3 := by rw [hw3]; exact ((Below.refl _ _).alloc (Nat.le_refl _) _).alloc (by simp) _
    have hB3 : Both W.heap.size w3 w2.heap.size (.slice none 0 0) (.slice (some ⟨w2.heap.size + 1, 0, none⟩) 0 0) [] [] := by
      rw [hw3]
      exact ⟨⟨(Has.fresh _ _ _).past _, OwnB.nil _ _ _⟩, OwnB.empty (by have := hW2.size; omega) (Has.fresh_at _ _ _ (by simp)), (fun k e => by cases e)⟩
    have hW3 := hW2.trans (hb3.mono hW2.size)
    rw [← hw3]
    clear hw3 hb3
    obtain ⟨g, hg⟩ : ∃ x, x = w2.heap.size := ⟨_, rfl⟩
    have HG := Lib.hid (show W.heap.size ≤ g by rw [hg]; exact hW2.size)
    rw [← hg] at hB3 ⊢
    clear hg hW2
    go_wp2_with fail
    go_loopw [4, 18] (fun sv iv wr => ∃ (i : Nat) (v wv : Value) (l : List (BitVec 8)), i ≤ n ∧ i ≤ 41 ∧ iv = .int .i64 i ∧ wv = sv ∧ Both W.heap.size wr g v wv l l ∧ l.length ≤ 4000 * i ∧ Below W.heap.size W wr) (fun _ iv _ => n - (intOf iv).toNat)
    case atStart => exact ⟨0, _, _, [], Nat.zero_le _, by omega, rfl, rfl, hB3, by simp, hW3⟩
    case round =>
      obtain ⟨i, v, wv, l, hi, hi41, rfl, rfl, hB, hLl, hbW⟩ := hrel
      by_cases hlt : i < n
      · have hii : (i : Int) < (n : Int) := by omega
        obtain ⟨t, ht⟩ : ∃ t, L[i]? = some t := ⟨_, List.getElem?_eq_getElem (by have := HT.out.1; omega)⟩
        have hok := HT.out.2.2.1 t (List.mem_of_getElem? ht)
        have hts := HSH.out.2 t (List.mem_of_getElem? ht)
        obtain ⟨x, rfl, hx⟩ := (HT.out.below hbW).load ht
        have HOK := Lib.hid hok
        have HTS := Lib.hid (show t.s.length ≤ 1000000 by omega)
        have HPL := Lib.hid (putT_len hts hok.2.2.2)
        clear ht hok hts
        go_upto_region 10 with (first
          | (refine wpList_store_mid rfl 33 (.tmp 6) (.tmp 21) rfl wr.heap.size 0 (thCells t).toArray rfl rfl (there_thing _ _ HOK.out.2.2.2) (size_thing HOK.out.2.2.2) (thCells_one t) ?_)
          | (refine wpList_load_run rfl 33 (.tmp 20) rfl _ _ rfl hx ?_))
        obtain ⟨w5, hw5⟩ : ∃ x, x = (wr.alloc (.cells zTh 33)).setCells wr.heap.size 0 (thCells t) := ⟨_, rfl⟩
        obtain ⟨hth, hb5⟩ := thing_new HOK.out.2.2.2 hw5
        rw [← hw5]
        clear hw5 hx
        obtain ⟨gt, hgt⟩ : ∃ x, x = wr.heap.size := ⟨_, rfl⟩
        rw [← hgt] at hth ⊢
        have HNG := Lib.hid (show ¬ outF g v gt from fun hf => hf.elim (fun e => by have := hB.1.1.lt; omega) (fun e => by have := (hB.1.2.lt_size _ e).2; omega))
        have HFB := Lib.hid (show ∀ k, outF g v k → W.heap.size ≤ k from fun k hf => hf.elim (fun e => by have := HG.out; omega) (fun e => (hB.1.2.lt_size _ e).1))
        have HB5 := Lib.hid (hB.below hb5)
        have HW5 := Lib.hid (hbW.trans (hb5.mono hbW.size))
        clear hgt hB hbW hb5
        have ck := hth.kind
        have c1 := hth.asize
        have c2 := hth.num
        have c3 := hth.str
        have hdig5 := hth.dig HOK.out.2.2.2
        have hkind : t.kind = 0 ∨ t.kind = 1 ∨ t.kind = 2 ∨ (t.kind == 0) = false ∧ (t.kind == 1) = false ∧ (t.kind == 2) = false := by
          simp only [beq_eq_false_iff_ne]
          omega
        rcases hkind with hk | hk | hk | ⟨hk0, hk1, hk2⟩
        case' inl =>
          have HPT := Lib.hid (show Pk.putT t = Pk.num t.n t.size by unfold Pk.putT; rw [if_pos hk])
          have HX := Lib.hid (show (Pk.num t.n t.size).length ≤ 4000 by rw [← HPT.out]; exact HPL.out)
          rw [hk] at ck
          clear hk
          obtain ⟨M, hM⟩ : ∃ M, (Pk.num t.n t.size).length = M := ⟨_, rfl⟩
          have hMl : M ≤ 4000 := by rw [← hM]; exact HX.out
          have HM := Lib.hid hM
          have HO := Lib.hid (outNum_any W.heap.size g v l t.n t.size (by omega) w5 HB5.out.1 (HB5.out.sz HG.out))
          clear hM
          go_upto_region 22 with (first
            | (at_builtin; refine wpList_append_bytes_at rfl (.tmp 41) (.tmp 46) 26 rfl 5 Try.underlying26 info_byte W.heap.size wv l rfl HB7.out.2.1 a7 M c7 _ rfl hB7' hc7 (by omega) (HB7.out.sz HG.out) ?_; intro wv8 w8 ho8 hg8 hl8)
            | (go_at_call 10; refine (rnum8_any t.n t.size w6).mono ?_; rintro e w7 ⟨v7, rfl, hv7, hb7⟩; obtain ⟨a7, c7, rfl, _, hc7, hB7'⟩ := hv7.shape HM.out; have HB7 := Lib.hid (HB6.out.below hb7))
            | (go_at_call 9; refine HO.out.mono ?_; rintro e w6 ⟨⟨u6, rfl⟩, v6, hs6, hm6, hl6⟩; have hth6 := hth.moved hm6 HNG.out; have HB6 := Lib.hid (HB5.out.put hs6 hm6 hl6); have HM6 := Lib.hid (And.intro hm6 hl6); have c1 := hth6.asize; have c2 := hth6.num; clear hs6 hm6 hl6))
          have hB8 := HB7.out.add hg8 ho8 hl8
          have hb8 : Below W.heap.size W w8 := ((HW5.out.trans (HM6.out.1.below (B := W.heap.size) HFB.out HW5.out.size)).trans (hb7.mono (Nat.le_trans HW5.out.size HM6.out.1.size))).grown hg8 (Nat.le_trans (Nat.le_trans HW5.out.size HM6.out.1.size) hb7.size) HB7.out.2.1.lt
          have HY := Lib.hid (show l ++ Pk.num t.n t.size = l ++ Pk.putT t by rw [HPT.out])
          rw [HY.out] at hB8
          have hLy : (l ++ Pk.putT t).length ≤ 4000 * (i + 1) := by rw [List.length_append, HPT.out, HM.out]; omega
        case' inr.inl =>
          have HPT := Lib.hid (show Pk.putT t = Pk.count t.size by unfold Pk.putT; rw [if_neg (by omega), if_pos hk])
          have HX := Lib.hid (show (Pk.count t.size).length ≤ 4000 by rw [← HPT.out]; exact HPL.out)
          rw [hk] at ck
          clear hk
          obtain ⟨M, hM⟩ : ∃ M, (Pk.count t.size).length = M := ⟨_, rfl⟩
          have hMl : M ≤ 4000 := by rw [← hM]; exact HX.out
          have HM := Lib.hid hM
          have HO := Lib.hid (outCount_any W.heap.size g v l t.size (by omega) w5 HB5.out.1 (HB5.out.sz HG.out))
          clear hM
          go_upto_region 22 with (first
            | (at_builtin; refine wpList_append_bytes_at rfl (.tmp 54) (.tmp 57) 26 rfl 5 Try.underlying26 info_byte W.heap.size wv l rfl HB7.out.2.1 a7 M c7 _ rfl hB7' hc7 (by omega) (HB7.out.sz HG.out) ?_; intro wv8 w8 ho8 hg8 hl8)
            | (go_at_call 12; refine (rcount_any t.size w6).mono ?_; rintro e w7 ⟨v7, rfl, hv7, hb7⟩; obtain ⟨a7, c7, rfl, _, hc7, hB7'⟩ := hv7.shape HM.out; have HB7 := Lib.hid (HB6.out.below hb7))
            | (go_at_call 11; refine HO.out.mono ?_; rintro e w6 ⟨⟨u6, rfl⟩, v6, hs6, hm6, hl6⟩; have hth6 := hth.moved hm6 HNG.out; have HB6 := Lib.hid (HB5.out.put hs6 hm6 hl6); have HM6 := Lib.hid (And.intro hm6 hl6); have c1 := hth6.asize; clear hs6 hm6 hl6))
          have hB8 := HB7.out.add hg8 ho8 hl8
          have hb8 : Below W.heap.size W w8 := ((HW5.out.trans (HM6.out.1.below (B := W.heap.size) HFB.out HW5.out.size)).trans (hb7.mono (Nat.le_trans HW5.out.size HM6.out.1.size))).grown hg8 (Nat.le_trans (Nat.le_trans HW5.out.size HM6.out.1.size) hb7.size) HB7.out.2.1.lt
          have HY := Lib.hid (show l ++ Pk.count t.size = l ++ Pk.putT t by rw [HPT.out])
          rw [HY.out] at hB8
          have hLy : (l ++ Pk.putT t).length ≤ 4000 * (i + 1) := by rw [List.length_append, HPT.out, HM.out]; omega
        case' inr.inr.inl =>
          have HPT := Lib.hid (show Pk.putT t = Pk.text t.s by unfold Pk.putT; rw [if_neg (by omega), if_neg (by omega), if_pos hk])
          have HX := Lib.hid (show (Pk.text t.s).length ≤ 4000 by rw [← HPT.out]; exact HPL.out)
          rw [hk] at ck
          clear hk
          obtain ⟨M, hM⟩ : ∃ M, (Pk.text t.s).length = M := ⟨_, rfl⟩
          have hMl : M ≤ 4000 := by rw [← hM]; exact HX.out
          have HM := Lib.hid hM
          have HO := Lib.hid (outText_any W.heap.size g v l t.s (by omega) HTS.out w5 HB5.out.1 (HB5.out.sz HG.out))
          clear hM
          go_upto_region 22 with (first
            | (at_builtin; refine wpList_append_bytes_at rfl (.tmp 65) (.tmp 68) 26 rfl 5 Try.underlying26 info_byte W.heap.size wv l rfl HB7.out.2.1 a7 M c7 _ rfl hB7' hc7 (by omega) (HB7.out.sz HG.out) ?_; intro wv8 w8 ho8 hg8 hl8)
            | (go_at_call 14; refine (rtext_any t.s HTS.out w6).mono ?_; rintro e w7 ⟨v7, rfl, hv7, hb7⟩; obtain ⟨a7, c7, rfl, _, hc7, hB7'⟩ := hv7.shape HM.out; have HB7 := Lib.hid (HB6.out.below hb7))
            | (go_at_call 13; refine HO.out.mono ?_; rintro e w6 ⟨⟨u6, rfl⟩, v6, hs6, hm6, hl6⟩; have hth6 := hth.moved hm6 HNG.out; have HB6 := Lib.hid (HB5.out.put hs6 hm6 hl6); have HM6 := Lib.hid (And.intro hm6 hl6); have c3 := hth6.str; clear hs6 hm6 hl6))
          have hB8 := HB7.out.add hg8 ho8 hl8
          have hb8 : Below W.heap.size W w8 := ((HW5.out.trans (HM6.out.1.below (B := W.heap.size) HFB.out HW5.out.size)).trans (hb7.mono (Nat.le_trans HW5.out.size HM6.out.1.size))).grown hg8 (Nat.le_trans (Nat.le_trans HW5.out.size HM6.out.1.size) hb7.size) HB7.out.2.1.lt
          have HY := Lib.hid (show l ++ Pk.text t.s = l ++ Pk.putT t by rw [HPT.out])
          rw [HY.out] at hB8
          have hLy : (l ++ Pk.putT t).length ≤ 4000 * (i + 1) := by rw [List.length_append, HPT.out, HM.out]; omega
        case' inr.inr.inr =>
          have HPT := Lib.hid (show Pk.putT t = t.h by unfold Pk.putT; rw [if_neg (by simpa using hk0), if_neg (by simpa using hk1), if_neg (by simpa using hk2)])
          have HX := Lib.hid (show (t.h).length ≤ 4000 by rw [← HPT.out]; exact HPL.out)
          obtain ⟨M, hM⟩ : ∃ M, (t.h).length = M := ⟨_, rfl⟩
          have hMl : M ≤ 4000 := by rw [← hM]; exact HX.out
          have HM := Lib.hid hM
          have HO := Lib.hid (outHash_any W.heap.size g v l t.h (by omega) HOK.out.2.2.2 w5 HB5.out.1 (HB5.out.sz HG.out))
          clear hM
          go_upto_region 22 with (first
            | (at_builtin; refine wpList_append_bytes_at rfl (.tmp 28) (.tmp 31) 26 rfl 5 Try.underlying26 info_byte W.heap.size wv l rfl HB7.out.2.1 a7 M c7 _ rfl hB7' hc7 (by omega) (HB7.out.sz HG.out) ?_; intro wv8 w8 ho8 hg8 hl8)
            | (go_at_call 16; refine (rhash_any t.h HOK.out.2.2.2 w6).mono ?_; rintro e w7 ⟨v7, rfl, hv7, hb7⟩; obtain ⟨a7, c7, rfl, _, hc7, hB7'⟩ := hv7.shape HM.out; have HB7 := Lib.hid (HB6.out.below hb7))
            | (go_at_call 15; refine HO.out.mono ?_; rintro e w6 ⟨⟨u6, rfl⟩, v6, hs6, hm6, hl6⟩; have hth6 := hth.moved hm6 HNG.out; have HB6 := Lib.hid (HB5.out.put hs6 hm6 hl6); have HM6 := Lib.hid (And.intro hm6 hl6); have hdig6 := hth6.dig HOK.out.2.2.2; clear hs6 hm6 hl6)
            | (refine wpList_load_run rfl 31 (.tmp 29) rfl _ _ rfl hdig6 ?_)
            | (refine wpList_load_run rfl 31 (.tmp 25) rfl _ _ rfl hdig5 ?_))
          have hB8 := HB7.out.add hg8 ho8 hl8
          have hb8 : Below W.heap.size W w8 := ((HW5.out.trans (HM6.out.1.below (B := W.heap.size) HFB.out HW5.out.size)).trans (hb7.mono (Nat.le_trans HW5.out.size HM6.out.1.size))).grown hg8 (Nat.le_trans (Nat.le_trans HW5.out.size HM6.out.1.size) hb7.size) HB7.out.2.1.lt
          have HY := Lib.hid (show l ++ t.h = l ++ Pk.putT t by rw [HPT.out])
          rw [HY.out] at hB8
          have hLy : (l ++ Pk.putT t).length ≤ 4000 * (i + 1) := by rw [List.length_append, HPT.out, HM.out]; omega
        all_goals
          have HB8 := Lib.hid hB8
          have HW8 := Lib.hid hb8
          obtain ⟨K, hK⟩ : ∃ K, (l ++ Pk.putT t).length = K := ⟨_, rfl⟩
          have HK := Lib.hid hK
          have HLL := Lib.hid (show (l ++ Pk.putT t).length ≤ 1000000 by omega)
          have HLY := Lib.hid hLy
          clear hB8 hb8 hK hLy
          obtain ⟨wd, hwd⟩ : ∃ x, x = w8.drew := ⟨_, rfl⟩
          have hmd : Below w8.heap.size w8 wd := by rw [hwd]; exact (Below.refl _ _).drew
          have hBd := HB8.out.below hmd
          refine wp_region_held_drew (S := Held wd) (by kernel_rfl) (by rw [hwd]; exact Held.refl _) (fun hHeld => ?_)
          rw [← hwd] at hHeld ⊢
          clear hwd
          obtain ⟨ax, cx, hwx, _, _, hBx⟩ := hBd.2.1.shape HK.out
          subst hwx
          have HBX := Lib.hid (And.intro hBx hBd)
          clear hBx hBd
          refine take_at (v := ?_) 0 70 rfl rfl (by kernel_rfl) (by kernel_rfl) (by kernel_rfl) (fun _ _ _ h => h) hHeld (Or.inl ⟨by rfl, ?_⟩) rfl ?_
          rotate_left
          · intro wq hSw
            go_simp
            try with_reducible rfl
          simp only [List.set_cons_zero, List.set_cons_succ]
          refine take_at (v := ?_) 3 73 rfl rfl (by kernel_rfl) (by kernel_rfl) (by kernel_rfl) (fun _ _ _ h => h) hHeld (Or.inl ⟨by rfl, ?_⟩) rfl ?_
          rotate_left
          · intro wq hSw
            go_simp
            try with_reducible rfl
          simp only [List.set_cons_zero, List.set_cons_succ]
          refine take_at (v := ?_) 4 74 rfl rfl (by kernel_rfl) (by kernel_rfl) (by kernel_rfl) (fun _ _ _ h => h) hHeld (Or.inl ⟨by rfl, ?_⟩) rfl ?_
          rotate_left
          · intro wq hSw
            have hst := run_string (P := Try.prog) 26 9 5 Try.underlying26 Try.underlying5 Try.underlying9 (c := cx) (HBX.out.1.below hSw)
            go_simp
            try with_reducible rfl
          simp only [List.set_cons_zero, List.set_cons_succ]
          refine wpAnyH_ready (rs := [1]) (by kernel_rfl) (by simp) ?_
          refine AllReadyH.cons rfl (fun K hK => ?_) AllReadyH.nil
          go_simp
          go_at_call 17; refine (outBytes_any _ _ _ _ HLL.out wd HBX.out.2.1).mono ?_; rintro e wy ⟨vy, rfl, hvy, hby⟩; obtain ⟨ay, cy, rfl, _, _, hBy⟩ := hvy.shape HK.out
          refine hK.out _ _ (Held.of hby) (fun _ => ?_)
          clear hK K
          try simp only [Act.put, List.setIfInBounds_toArray, List.set_cons_zero, List.set_cons_succ]
          refine held_grow (w1 := wy) (Held.of hby) ?_
          clear hHeld
          have hHeld : Held wy wy := Held.refl _
          refine take_at (v := ?_) 2 72 rfl rfl (by kernel_rfl) (by kernel_rfl) (by kernel_rfl) (fun _ _ _ h => h) hHeld (Or.inl ⟨by rfl, ?_⟩) rfl ?_
          rotate_left
          · intro wq hSw
            have hst := run_string (P := Try.prog) 26 9 5 Try.underlying26 Try.underlying5 Try.underlying9 (c := cy) (hBy.below hSw)
            go_simp
            try with_reducible rfl
          simp only [List.set_cons_zero, List.set_cons_succ]
          refine take_at (v := ?_) 5 75 rfl rfl (by kernel_rfl) (by kernel_rfl) (by kernel_rfl) (fun _ _ _ h => h) hHeld (Or.inl ⟨by rfl, ?_⟩) rfl ?_
          rotate_left
          · intro wq hSw
            go_simp
            try with_reducible rfl
          simp only [List.set_cons_zero, List.set_cons_succ]
          refine wpAnyH_done (by kernel_rfl) ?_ _
          have hb9 := hmd.trans (hby.mono hmd.size)
          go_wp2
          go_roundw
          case rel => exact ⟨i + 1, _, _, l ++ Pk.putT t, by omega, by omega, by go_num, rfl, HBX.out.2.below hby, HLY.out, HW8.out.trans (hb9.mono HW8.out.size)⟩
          case measure => (simp [intOf]; try omega)
      · have hin : i = n := by omega
        subst hin
        have hii : ¬ (i : Int) < (i : Int) := by omega
        have HB := Lib.hid hB
        have HW := Lib.hid hbW
        have HLL := Lib.hid (show l.length ≤ 1000000 by omega)
        obtain ⟨K, hK⟩ : ∃ K, l.length = K := ⟨_, rfl⟩
        have HK := Lib.hid hK
        have hKm : K ≤ 1000000 := by rw [← hK]; exact HLL.out
        clear hB hbW hK hLl
        go_upto_region 26 with (go_at_call 17; refine (outBytes_any _ _ _ _ HLL.out wr HB.out.1).mono ?_; rintro e wb ⟨vb, rfl, hvb, hbb⟩)
        have HBb := Lib.hid (HB.out.below hbb)
        have hWb := HW.out.trans (hbb.mono HW.out.size)
        obtain ⟨zo, hzo⟩ : ∃ z, z = wr.heap.size := ⟨_, rfl⟩
        rw [← hzo] at hvb
        have hap : ∀ k, vb.ownBlock = some k → zo ≤ k := fun k e => (hvb.lt_size k e).1
        have hvb' := hvb
        obtain ⟨ab, cb', rfl, _, _, _⟩ := hvb.shape HK.out
        have HVB := Lib.hid hvb'
        have HAP := Lib.hid hap
        have HZO := Lib.hid (show W.heap.size ≤ zo by rw [hzo]; exact HW.out.size)
        have HHS := Lib.hid (show ∀ k, k = g ∨ v.ownBlock = some k ∨ wv.ownBlock = some k → k < zo from fun k hk => by
          rw [hzo]
          rcases hk with e | e | e
          · rw [e]; exact HB.out.1.1.lt
          · exact (HB.out.1.2.lt_size k e).2
          · exact (HB.out.2.1.lt_size k e).2)
        clear hvb hvb' hap hzo HB HW
        go_wp2_with fail
        go_loopw [81] (fun iv wx => ∃ (j : Nat) (m : List (BitVec 8)), j ≤ K ∧ iv = .int .i64 j ∧ m.length = K ∧ OwnB 5 zo wx (.slice ab K cb') m ∧ Moved (fun k => (Value.slice ab K cb').ownBlock = some k) wb wx) (fun iv _ => K - (intOf iv).toNat)
        case atStart => exact ⟨0, l, Nat.zero_le _, rfl, HK.out, HVB.out, Moved.refl _ _⟩
        case round =>
          obtain ⟨j, m, hj, rfl, hml, hom, hmm⟩ := hrel
          by_cases hjlt : j < K
          · have hjj : (j : Int) < (K : Int) := by omega
            obtain ⟨gb, cb2, hsl, _, hBm⟩ := hom.some hml (fun e => by injection e with e1 e2 e3; omega)
            injection hsl with hs1 hs2 hs3
            subst hs1 hs3
            have hff : wr.frozen? ⟨gb, j, none⟩ = false := by
              rcases hom.2 with ⟨e, _⟩ | ⟨q, cap, cur, e, _, hh, _⟩
              · cases e
              · injection e with e1 _ _
                injection e1 with e1
                injection e1 with e1
                subst e1
                exact (show Has wr gb 5 cur from hh).loose j
            obtain ⟨y, hy, hcy⟩ := hBm.2.2 j hjlt
            injection hy with hy
            subst hy
            rw [Addr.add_mid, Nat.zero_add] at hcy
            obtain ⟨q, hq⟩ : ∃ q, q = cb m j := ⟨_, rfl⟩
            rw [← hq] at hcy
            have HOM := Lib.hid (And.intro hom (And.intro hmm hml))
            clear hom hBm hmm hml hq
            go_wp2
            go_roundw
            case rel => exact ⟨j + 1, m.set j (q ^^^ 1#8), by omega, by go_num, by rw [List.length_set]; exact HOM.out.2.2, ownB_put HOM.out.1, HOM.out.2.1.put (.inl rfl) j _⟩
            case measure => (simp [intOf]; try omega)
          · have hjK : j = K := by omega
            have hjj : ¬ (j : Int) < (K : Int) := by omega
            have hmx2 := Lib.hid hmm
            have hBx : Both W.heap.size wr g v wv l l := ⟨HBb.out.1.moved hmm (fun e => by have := HAP.out _ e; have := HHS.out g (.inl rfl); omega) (fun k e e' => by have := HAP.out _ e'; have := HHS.out k (.inr (.inl e)); omega), HBb.out.2.1.moved hmm (fun k e e' => by have := HAP.out _ e'; have := HHS.out k (.inr (.inr e)); omega), HBb.out.2.2⟩
            have hWx : Below W.heap.size W wr := hWb.trans (hmm.below (B := W.heap.size) (fun k e => Nat.le_trans HZO.out (HAP.out k e)) hWb.size)
            have HB8 := Lib.hid hBx
            have HW8 := Lib.hid hWx
            clear hmm hBx hWx hom hml hjlt
            go_upto_region 31 with fail
            obtain ⟨wd, hwd⟩ : ∃ x, x = wr.drew := ⟨_, rfl⟩
            have hmd : Below wr.heap.size wr wd := by rw [hwd]; exact (Below.refl _ _).drew
            have hBd := HB8.out.below hmd
            refine wp_region_held_drew (S := Held wd) (by kernel_rfl) (by rw [hwd]; exact Held.refl _) (fun hHeld => ?_)
            rw [← hwd] at hHeld ⊢
            clear hwd
            obtain ⟨ax, cx, hwx, _, _, hBx⟩ := hBd.2.1.shape HK.out
            subst hwx
            have HBX := Lib.hid (And.intro hBx hBd)
            clear hBx hBd
            refine take_at (v := ?_) 0 91 rfl rfl (by kernel_rfl) (by kernel_rfl) (by kernel_rfl) (fun _ _ _ h => h) hHeld (Or.inl ⟨by rfl, ?_⟩) rfl ?_
            rotate_left
            · intro wq hSw
              go_simp
              try with_reducible rfl
            simp only [List.set_cons_zero, List.set_cons_succ]
            refine take_at (v := ?_) 3 94 rfl rfl (by kernel_rfl) (by kernel_rfl) (by kernel_rfl) (fun _ _ _ h => h) hHeld (Or.inl ⟨by rfl, ?_⟩) rfl ?_
            rotate_left
            · intro wq hSw
              go_simp
              try with_reducible rfl
            simp only [List.set_cons_zero, List.set_cons_succ]
            refine take_at (v := ?_) 4 95 rfl rfl (by kernel_rfl) (by kernel_rfl) (by kernel_rfl) (fun _ _ _ h => h) hHeld (Or.inl ⟨by rfl, ?_⟩) rfl ?_
            rotate_left
            · intro wq hSw
              have hst := run_string (P := Try.prog) 26 9 5 Try.underlying26 Try.underlying5 Try.underlying9 (c := cx) (HBX.out.1.below hSw)
              go_simp
              try with_reducible rfl
            simp only [List.set_cons_zero, List.set_cons_succ]
            refine wpAnyH_ready (rs := [1]) (by kernel_rfl) (by simp) ?_
            refine AllReadyH.cons rfl (fun K hK => ?_) AllReadyH.nil
            go_simp
            go_at_call 17; refine (outBytes_any _ _ _ _ HLL.out wd HBX.out.2.1).mono ?_; rintro e wy ⟨vy, rfl, hvy, hby⟩; obtain ⟨ay, cy, rfl, _, _, hBy⟩ := hvy.shape HK.out
            refine hK.out _ _ (Held.of hby) (fun _ => ?_)
            clear hK K
            try simp only [Act.put, List.setIfInBounds_toArray, List.set_cons_zero, List.set_cons_succ]
            refine held_grow (w1 := wy) (Held.of hby) ?_
            clear hHeld
            have hHeld : Held wy wy := Held.refl _
            refine take_at (v := ?_) 2 93 rfl rfl (by kernel_rfl) (by kernel_rfl) (by kernel_rfl) (fun _ _ _ h => h) hHeld (Or.inl ⟨by rfl, ?_⟩) rfl ?_
            rotate_left
            · intro wq hSw
              have hst := run_string (P := Try.prog) 26 9 5 Try.underlying26 Try.underlying5 Try.underlying9 (c := cy) (hBy.below hSw)
              go_simp
              try with_reducible rfl
            simp only [List.set_cons_zero, List.set_cons_succ]
            refine take_at (v := ?_) 5 96 rfl rfl (by kernel_rfl) (by kernel_rfl) (by kernel_rfl) (fun _ _ _ h => h) hHeld (Or.inl ⟨by rfl, ?_⟩) rfl ?_
            rotate_left
            · intro wq hSw
              go_simp
              try with_reducible rfl
            simp only [List.set_cons_zero, List.set_cons_succ]
            refine take_at (v := ?_) 6 2 rfl rfl (by kernel_rfl) (by kernel_rfl) (by kernel_rfl) (fun _ _ _ h => h) hHeld (Or.inl ⟨by rfl, ?_⟩) rfl ?_
            rotate_left
            · intro wq hSw
              go_simp
              try with_reducible rfl
            simp only [List.set_cons_zero, List.set_cons_succ]
            refine wpAnyH_done (by kernel_rfl) ?_ _
            go_wp2
            go_ret
            exact ⟨rfl, HW8.out.trans ((hmd.trans (hby.mono hmd.size)).mono HW8.out.size)⟩
end Go.Proofs.Ytndcpclichpkaaa
