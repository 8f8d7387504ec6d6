/- PackBack: the walk (mkpkb.py) -/
import Derived.Test.YtndcpclichpkaaaPkB2
import Derived.Test.YtndcpclichpkaaaHr
import Derived.Test.YtndcpclichpkaaaEq
namespace Go.Proofs.Ytndcpclichpkaaa
open Go Go.RowKit Go.ChangeShapes Go.WideShapes
set_option maxRecDepth 100000 in
set_option maxHeartbeats 64000000 in
theorem packBackWalk {H : Type} {enc : TypeId × Value → H} (W : World) (base : Nat) (v0 : Value) (d0 : DataW H) (p0 : List MemPlace)
    (o0 : Value.okWide Try.prog W .any base 22 v0) (h0 : DataW.Trod enc Try.prog W 0 (fun _ => true) true 22 v0 d0 p0) :
    Calls Try.prog 5 #[v0] W fun e w' => e = .returned (.bool true) ∧ Below W.heap.size W w' := by
  obtain ⟨a, n, c, L, rfl, hT, hnc, hc0⟩ := arg_things o0 h0
  clear o0 h0
  have hmx : n ≤ 9223372036854775807 := hT.2.1
  have HT := Lib.hid hT
  clear hT hc0
  go_enter Try.func5, Try.ntmps5
  go_upto_region 3 with (first | (go_at_call 7; refine (alive08 W).mono ?_; rintro e w1 ⟨rfl, hb1⟩))
  go_upto_if 14 with (go_at_call 8; refine (long_any a n c L w1 (HT.out.below hb1)).mono ?_; rintro e w2 ⟨bl, rfl, hsh, hb2⟩)
  have hW2 := hb1.trans (hb2.mono hb1.size)
  cases bl with
  | true =>
    clear hsh
    go_wp2
    go_ret
    exact ⟨rfl, hW2⟩
  | false =>
    have HSH := Lib.hid (hsh rfl)
    clear hsh hb1 hb2
    have hn41 : n ≤ 41 := by rw [← HT.out.1]; exact HSH.out.1
    go_upto_region 6 with fail
    obtain ⟨w3, hw3⟩ : ∃ x, x = w2.alloc (.cells #[.slice none 0 0] 28) := ⟨_, rfl⟩
    have hb3 : Below w2.heap.size w2 w3 := by rw [hw3]; exact (Below.refl _ _).alloc (Nat.le_refl _) _
    have hS3 : OutS W.heap.size w3 w2.heap.size (.slice none 0 0) [] := by rw [hw3]; exact ⟨Has.fresh _ _ _, OwnB.nil _ _ _⟩
    have hW3 := hW2.trans (hb3.mono hW2.size)
    rw [← hw3]
    clear hw3 hb3
    obtain ⟨g, hg⟩ : ∃ x, x = w2.heap.size := ⟨_, rfl⟩
    have HG := Lib.hid (show W.heap.size ≤ g by rw [hg]; exact hW2.size)
    rw [← hg] at hS3 ⊢
    clear hg hW2
    go_wp2_with fail
    go_loopw [19] (fun iv wr => ∃ (i : Nat) (v : Value) (l : List (BitVec 8)), i ≤ n ∧ iv = .int .i64 i ∧ OutS W.heap.size wr g v l ∧ RowKit.Hid (l = ((L.take i).map Pk.putB).flatten) ∧ l.length ≤ 4000 * i ∧ Below W.heap.size W wr) (fun iv _ => n - (intOf iv).toNat)
    case atStart => exact ⟨0, _, [], Nat.zero_le _, rfl, hS3, Lib.hid (by simp), by simp, hW3⟩
    case round =>
      clear hS3 hW3
      obtain ⟨i, v, l, hi, rfl, hS, HLi, hLl, hbW⟩ := hrel
      by_cases hlt : i < n
      · have hii : (i : Int) < (n : Int) := by omega
        obtain ⟨t, ht⟩ : ∃ t, L[i]? = some t := ⟨_, List.getElem?_eq_getElem (by have := HT.out.1; omega)⟩
        have hok := HT.out.2.2.1 t (List.mem_of_getElem? ht)
        have hts := HSH.out.2 t (List.mem_of_getElem? ht)
        obtain ⟨x, rfl, hx⟩ := (HT.out.below hbW).load ht
        have HOK := Lib.hid hok
        have HTS := Lib.hid (show t.s.length ≤ 1000000 by omega)
        have HPL := Lib.hid (putB_len hts hok.2.2.2)
        have HPT0 := Lib.hid (put_take ht)
        clear ht hok hts
        go_upto_region 9 with (first
          | (refine wpList_store_mid rfl 33 (.tmp 5) (.tmp 22) rfl wr.heap.size 0 (thCells t).toArray rfl rfl (there_thing _ _ HOK.out.2.2.2) (size_thing HOK.out.2.2.2) (thCells_one t) ?_)
          | (refine wpList_load_run rfl 33 (.tmp 21) rfl _ _ rfl hx ?_))
        obtain ⟨w5, hw5⟩ : ∃ x, x = (wr.alloc (.cells zTh 33)).setCells wr.heap.size 0 (thCells t) := ⟨_, rfl⟩
        obtain ⟨hth, hb5⟩ := thing_new HOK.out.2.2.2 hw5
        rw [← hw5]
        clear hw5 hx
        obtain ⟨gt, hgt⟩ : ∃ x, x = wr.heap.size := ⟨_, rfl⟩
        rw [← hgt] at hth ⊢
        have HFB := Lib.hid (show ∀ k, outF g v k → W.heap.size ≤ k from fun k hf => hf.elim (fun e => by have := HG.out; omega) (fun e => (hS.2.lt_size _ e).1))
        have HS5 := Lib.hid (hS.below hb5)
        have HW5 := Lib.hid (hbW.trans (hb5.mono hbW.size))
        have HSZ5 := Lib.hid HW5.out.size
        clear hgt hS hbW hb5
        have ck := hth.kind
        have c1 := hth.asize
        have c2 := hth.num
        have c3 := hth.str
        have hdig5 := hth.dig HOK.out.2.2.2
        have hcv := int_to_u64 t.size
        have hsl := shl_sz t.size
        have hhw := half_wrap t.n
        have hkind : t.kind = 0 ∨ t.kind = 1 ∨ t.kind = 2 ∨ (t.kind == 0) = false ∧ (t.kind == 1) = false ∧ (t.kind == 2) = false := by
          simp only [beq_eq_false_iff_ne]
          omega
        rcases hkind with hk | hk | hk | ⟨hk0, hk1, hk2⟩
        case' inl =>
          have HPT := Lib.hid (show Pk.putB t = Pk.num t.n (Pk.szOf t.size) by unfold Pk.putB; rw [if_pos hk])
          rw [hk] at ck
          clear hk
          have HO := Lib.hid (outNum_any W.heap.size g v l t.n (Pk.szOf t.size : Int) (by omega) w5 HS5.out (HSZ5.out))
          go_upto_region 18 with (first
            | (go_at_call 9; refine HO.out.mono ?_; rintro e w6 ⟨⟨u6, rfl⟩, v6, hs6, hm6, hl6⟩))
        case' inr.inl =>
          have HPT := Lib.hid (show Pk.putB t = Pk.count (t.n >>> 1).toNat by unfold Pk.putB; rw [if_neg (by omega), if_pos hk])
          rw [hk] at ck
          clear hk
          have HO := Lib.hid (outCount_any W.heap.size g v l ((t.n >>> 1).toNat : Int) (by omega) w5 HS5.out (HSZ5.out))
          go_upto_region 18 with (first
            | (go_at_call 11; refine HO.out.mono ?_; rintro e w6 ⟨⟨u6, rfl⟩, v6, hs6, hm6, hl6⟩))
        case' inr.inr.inl =>
          have HPT := Lib.hid (show Pk.putB t = Pk.text t.s by unfold Pk.putB; rw [if_neg (by omega), if_neg (by omega), if_pos hk])
          rw [hk] at ck
          clear hk
          have HO := Lib.hid (outText_any W.heap.size g v l t.s (by omega) HTS.out w5 HS5.out (HSZ5.out))
          go_upto_region 18 with (first
            | (go_at_call 13; refine HO.out.mono ?_; rintro e w6 ⟨⟨u6, rfl⟩, v6, hs6, hm6, hl6⟩))
        case' inr.inr.inr =>
          have HPT := Lib.hid (show Pk.putB t = t.h by unfold Pk.putB; rw [if_neg (by simpa using hk0), if_neg (by simpa using hk1), if_neg (by simpa using hk2)])
          have HO := Lib.hid (outHash_any W.heap.size g v l t.h (by omega) HOK.out.2.2.2 w5 HS5.out (HSZ5.out))
          go_upto_region 18 with (first
            | (refine wpList_load_run rfl 31 (.tmp 31) rfl _ _ rfl hdig5 ?_)
            | (go_at_call 15; refine HO.out.mono ?_; rintro e w6 ⟨⟨u6, rfl⟩, v6, hs6, hm6, hl6⟩))
        all_goals
          rw [← HPT.out] at hs6
          have hb6 := HW5.out.trans (hm6.below (B := W.heap.size) HFB.out HW5.out.size)
          have HS6 := Lib.hid hs6
          have HB6 := Lib.hid hb6
          clear hs6 hb6 hm6 hl6
          go_wp2
          go_roundw
          case rel => exact ⟨i + 1, _, _, by omega, by go_num, HS6.out, Lib.hid (by rw [HLi.out]; exact HPT0.out.symm), by rw [List.length_append]; have := HPL.out; omega, HB6.out⟩
          case measure => (simp [intOf]; try omega)
      · have hin : n = i := by omega
        subst hin
        have hii : ¬ (n : Int) < (n : Int) := by omega
        have HS := Lib.hid hS
        have HW := Lib.hid hbW
        have HLL := Lib.hid (show l.length ≤ 1000000 by omega)
        obtain ⟨K, hK⟩ : ∃ K, l.length = K := ⟨_, rfl⟩
        have HK := Lib.hid hK
        have hKm : K ≤ 1000000 := by rw [← hK]; exact HLL.out
        clear hS hbW hK hLl
        go_upto_region 20 with (first
          | (go_at_call 18; refine (read_any ay K cy l wb hBy hy0 (by omega)).mono ?_; rintro e wc ⟨gi, r, rfl, hi9, hg9, hg9l, hr9, hb9⟩)
          | (go_at_call 17; refine (outBytes_any _ _ _ _ HLL.out wr HS.out).mono ?_; rintro e wb ⟨vb, rfl, hvb, hbb⟩; obtain ⟨ay, cy, rfl, _, hy0, hBy⟩ := hvb.shape HK.out))
        have hl0 : l = ((L.drop 0).map Pk.putB).flatten := by rw [HLi.out, List.take_of_length_le (by rw [HT.out.1]; exact Nat.le_refl _)]; rfl
        rw [hl0] at hi9
        have hWb := HW.out.trans (hbb.mono HW.out.size)
        have hWc := hWb.trans (hb9.mono hWb.size)
        have HGI := Lib.hid (show W.heap.size ≤ gi from Nat.le_trans hWb.size hg9)
        have HRR := Lib.hid (show ∀ k, r = some k → k < gi from fun k e => (hr9 k e).2)
        clear hbb hb9 hg9 hg9l hr9 hl0 hWb hvb hBy hy0 HS HW HLL HK HLi
        go_wp2_with fail
        go_loopw [61] (fun iv wr => ∃ i : Nat, i ≤ n ∧ iv = .int .i64 i ∧ InS wr gi r (some (((L.drop i).map Pk.putB).flatten)) ∧ Below W.heap.size W wr) (fun iv _ => n - (intOf iv).toNat)
        case atStart => exact ⟨0, Nat.zero_le _, rfl, hi9, hWc⟩
        case round =>
          clear hi9 hWc
          clear hi hlt hii
          obtain ⟨i, hi, rfl, hI, hbW⟩ := hrel
          by_cases hlt : i < n
          · have hii : (i : Int) < (n : Int) := by omega
            obtain ⟨t, ht⟩ : ∃ t, L[i]? = some t := ⟨_, List.getElem?_eq_getElem (by have := HT.out.1; omega)⟩
            have hok := HT.out.2.2.1 t (List.mem_of_getElem? ht)
            have hts := HSH.out.2 t (List.mem_of_getElem? ht)
            obtain ⟨x, rfl, hx⟩ := (HT.out.below hbW).load ht
            have HOK := Lib.hid hok
            have HTS := Lib.hid (show t.s.length ≤ 1000000 by omega)
            have HDR := Lib.hid (put_drop ht)
            clear ht hok hts
            go_upto_region 23 with (first
              | (refine wpList_store_mid rfl 33 (.tmp 9) (.tmp 64) rfl wr.heap.size 0 (thCells t).toArray rfl rfl (there_thing _ _ HOK.out.2.2.2) (size_thing HOK.out.2.2.2) (thCells_one t) ?_)
              | (refine wpList_load_run rfl 33 (.tmp 63) rfl _ _ rfl hx ?_))
            obtain ⟨w5, hw5⟩ : ∃ x, x = (wr.alloc (.cells zTh 33)).setCells wr.heap.size 0 (thCells t) := ⟨_, rfl⟩
            obtain ⟨hth, hb5⟩ := thing_new HOK.out.2.2.2 hw5
            rw [← hw5]
            clear hw5 hx
            obtain ⟨gt, hgt⟩ : ∃ x, x = wr.heap.size := ⟨_, rfl⟩
            rw [← hgt] at hth ⊢
            have HGT := Lib.hid (show ¬ gt = gi by obtain ⟨_, _, _, _, h2, _⟩ := hI.has; have := h2.lt; omega)
            have HI5 := Lib.hid (hI.below hb5)
            have HW5 := Lib.hid (hbW.trans (hb5.mono hbW.size))
            clear hgt hI hbW hb5
            have ck := hth.kind
            have c1 := hth.asize
            have c2 := hth.num
            have c3 := hth.str
            have hdig5 := hth.dig HOK.out.2.2.2
            have hcv := int_to_u64 t.size
            have hsl := shl_sz t.size
            have hhw := half_wrap2 t.n
            have HN1 := Lib.hid (half_lt t.n)
            have hkind : t.kind = 0 ∨ t.kind = 1 ∨ t.kind = 2 ∨ (t.kind == 0) = false ∧ (t.kind == 1) = false ∧ (t.kind == 2) = false := by
              simp only [beq_eq_false_iff_ne]
              omega
            rcases hkind with hk | hk | hk | ⟨hk0, hk1, hk2⟩
            · have hpt : Pk.putB t = Pk.num t.n (Pk.szOf t.size) := by unfold Pk.putB; rw [if_pos hk]
              rw [hk] at ck
              clear hk hhw HN1
              rcases szOf_cases t.size with hs | hs | hs | hs
              · rw [hs] at hpt hsl
                have HPT := Lib.hid hpt
                clear hpt hs
                go_upto_region 28 with fail
                obtain ⟨wd, hwd⟩ : ∃ x, x = w5.drew := ⟨_, rfl⟩
                have hmd : Below w5.heap.size w5 wd := by rw [hwd]; exact (Below.refl _ _).drew
                have Hthd := Lib.hid (hth.under hmd hth.lt)
                have HId := Lib.hid (HI5.out.below hmd)

                have HIN := Lib.hid (show Calls Try.prog 20 #[.pointer (some ⟨gi, 0, none⟩), .int .i64 1] wd (InPost encU gi r (some (((L.drop (i + 1)).map Pk.putB).flatten), (t.n <<< 56) >>> 56) wd) by
                  have h1 := inNum_any gi r _ (1 : Nat) wd HId.out
                  rw [HDR.out, HPT.out, Pk.rd_num t.n 1 (by unfold Pk.okSize; omega)] at h1
                  exact h1)
                have hq1 : IntKind.i64.wrap 8 = 8 := IntWalk.i64_in _ (by omega)
                have hq2 : IntKind.i64.wrap 56 = 56 := IntWalk.i64_in _ (by omega)
                have hq3 : IntKind.u64.wrap 56 = 56 := by rw [IntKind.wrap_u64]; rfl
                refine wp_region_held_drew (S := HeldM (fun k => k = gi) wd) (by kernel_rfl) (by rw [hwd]; exact HeldM.refl _ _) (fun hHeld => ?_)
                rw [← hwd] at hHeld ⊢
                clear hwd hth ck c1 c2 c3 hdig5
                refine take_at (v := ?_) 0 79 rfl rfl (by kernel_rfl) (by kernel_rfl) (by kernel_rfl) (fun _ _ _ h => h) hHeld (Or.inl ⟨by rfl, ?_⟩) rfl ?_
                rotate_left
                · intro wq hSw
                  go_simp
                  try with_reducible rfl
                simp only [List.set_cons_zero, List.set_cons_succ]
                refine take_at (v := ?_) 1 80 rfl rfl (by kernel_rfl) (by kernel_rfl) (by kernel_rfl) (fun _ _ _ h => h) hHeld (Or.inl ⟨by rfl, ?_⟩) rfl ?_
                rotate_left
                · intro wq hSw
                  go_simp
                  try with_reducible rfl
                simp only [List.set_cons_zero, List.set_cons_succ]
                refine take_at (v := ?_) 3 82 rfl rfl (by kernel_rfl) (by kernel_rfl) (by kernel_rfl) (fun _ _ _ h => h) hHeld (Or.inl ⟨by rfl, ?_⟩) rfl ?_
                rotate_left
                · intro wq hSw
                  go_simp
                  try with_reducible rfl
                simp only [List.set_cons_zero, List.set_cons_succ]
                refine take_at (v := ?_) 4 83 rfl rfl (by kernel_rfl) (by kernel_rfl) (by kernel_rfl) (fun _ _ _ h => h) hHeld (Or.inl ⟨by rfl, ?_⟩) rfl ?_
                rotate_left
                · intro wq hSw
                  have hst := (Hthd.out.moved hSw.out (fun e => HGT.out e)).num
                  go_simp
                  try with_reducible rfl
                simp only [List.set_cons_zero, List.set_cons_succ]
                refine take_at (v := ?_) 5 84 rfl rfl (by kernel_rfl) (by kernel_rfl) (by kernel_rfl) (fun _ _ _ h => h) hHeld (Or.inl ⟨by rfl, ?_⟩) rfl ?_
                rotate_left
                · intro wq hSw
                  go_simp
                  try with_reducible rfl
                simp only [List.set_cons_zero, List.set_cons_succ]
                refine take_at (v := ?_) 6 85 rfl rfl (by kernel_rfl) (by kernel_rfl) (by kernel_rfl) (fun _ _ _ h => h) hHeld (Or.inl ⟨by rfl, ?_⟩) rfl ?_
                rotate_left
                · intro wq hSw
                  go_simp
                  try with_reducible rfl
                simp only [List.set_cons_zero, List.set_cons_succ]
                refine take_at (v := ?_) 7 86 rfl rfl (by kernel_rfl) (by kernel_rfl) (by kernel_rfl) (fun _ _ _ h => h) hHeld (Or.inl ⟨by rfl, ?_⟩) rfl ?_
                rotate_left
                · intro wq hSw
                  go_simp
                  try with_reducible rfl
                simp only [List.set_cons_zero, List.set_cons_succ]
                refine take_at (v := ?_) 8 87 rfl rfl (by kernel_rfl) (by kernel_rfl) (by kernel_rfl) (fun _ _ _ h => h) hHeld (Or.inl ⟨by rfl, ?_⟩) rfl ?_
                rotate_left
                · intro wq hSw
                  go_simp
                  try with_reducible rfl
                simp only [List.set_cons_zero, List.set_cons_succ]
                refine take_at (v := ?_) 9 88 rfl rfl (by kernel_rfl) (by kernel_rfl) (by kernel_rfl) (fun _ _ _ h => h) hHeld (Or.inl ⟨by rfl, ?_⟩) rfl ?_
                rotate_left
                · intro wq hSw
                  go_simp
                  try with_reducible rfl
                simp only [List.set_cons_zero, List.set_cons_succ]
                refine take_at (v := ?_) 10 89 rfl rfl (by kernel_rfl) (by kernel_rfl) (by kernel_rfl) (fun _ _ _ h => h) hHeld (Or.inl ⟨by rfl, ?_⟩) rfl ?_
                rotate_left
                · intro wq hSw
                  go_simp
                  try with_reducible rfl
                simp only [List.set_cons_zero, List.set_cons_succ]
                refine take_at (v := ?_) 11 90 rfl rfl (by kernel_rfl) (by kernel_rfl) (by kernel_rfl) (fun _ _ _ h => h) hHeld (Or.inl ⟨by rfl, ?_⟩) rfl ?_
                rotate_left
                · intro wq hSw
                  go_simp
                  try with_reducible rfl
                simp only [List.set_cons_zero, List.set_cons_succ]
                refine take_at (v := ?_) 12 91 rfl rfl (by kernel_rfl) (by kernel_rfl) (by kernel_rfl) (fun _ _ _ h => h) hHeld (Or.inl ⟨by rfl, ?_⟩) rfl ?_
                rotate_left
                · intro wq hSw
                  go_simp
                  try with_reducible rfl
                simp only [List.set_cons_zero, List.set_cons_succ]
                refine take_at (v := ?_) 13 92 rfl rfl (by kernel_rfl) (by kernel_rfl) (by kernel_rfl) (fun _ _ _ h => h) hHeld (Or.inl ⟨by rfl, ?_⟩) rfl ?_
                rotate_left
                · intro wq hSw
                  go_simp
                  try with_reducible rfl
                simp only [List.set_cons_zero, List.set_cons_succ]
                refine take_at (v := ?_) 14 93 rfl rfl (by kernel_rfl) (by kernel_rfl) (by kernel_rfl) (fun _ _ _ h => h) hHeld (Or.inl ⟨by rfl, ?_⟩) rfl ?_
                rotate_left
                · intro wq hSw
                  go_simp
                  try with_reducible rfl
                simp only [List.set_cons_zero, List.set_cons_succ]
                refine wpAnyH_ready (rs := [2]) (by kernel_rfl) (by simp) ?_
                refine AllReadyH.cons rfl (fun K hK => ?_) AllReadyH.nil
                go_simp
                go_at_call 20; refine HIN.out.mono ?_; rintro e w8 ⟨rfl, hi8, hm8⟩
                refine hK.out _ _ (HeldM.of hm8) (fun _ => ?_)
                clear hK K
                try dsimp only
                refine heldM_grow (w1 := w8) hm8 ?_
                clear hHeld
                have hHeld : HeldM (fun k => k = gi) w8 w8 := HeldM.refl _ _
                refine take_at (v := ?_) 15 94 rfl rfl (by kernel_rfl) (by kernel_rfl) (by kernel_rfl) (fun _ _ _ h => h) hHeld (Or.inl ⟨by rfl, ?_⟩) rfl ?_
                rotate_left
                · intro wq hSw
                  go_simp
                  try with_reducible rfl
                simp only [List.set_cons_zero, List.set_cons_succ]
                refine wpAnyH_done (by kernel_rfl) ?_ _
                have hb8 := (HW5.out.trans (hmd.mono HW5.out.size)).trans (hm8.below (B := W.heap.size) (fun k e => by have e' : k = gi := e; have := HGI.out; omega) (HW5.out.trans (hmd.mono HW5.out.size)).size)
                have HI8 := Lib.hid hi8
                clear hi8
                go_wp2
                go_roundw
                case rel => exact ⟨i + 1, by omega, by go_num, HI8.out, hb8⟩
                case measure => (simp [intOf]; try omega)
              · rw [hs] at hpt hsl
                have HPT := Lib.hid hpt
                clear hpt hs
                go_upto_region 28 with fail
                obtain ⟨wd, hwd⟩ : ∃ x, x = w5.drew := ⟨_, rfl⟩
                have hmd : Below w5.heap.size w5 wd := by rw [hwd]; exact (Below.refl _ _).drew
                have Hthd := Lib.hid (hth.under hmd hth.lt)
                have HId := Lib.hid (HI5.out.below hmd)

                have HIN := Lib.hid (show Calls Try.prog 20 #[.pointer (some ⟨gi, 0, none⟩), .int .i64 2] wd (InPost encU gi r (some (((L.drop (i + 1)).map Pk.putB).flatten), (t.n <<< 48) >>> 48) wd) by
                  have h1 := inNum_any gi r _ (2 : Nat) wd HId.out
                  rw [HDR.out, HPT.out, Pk.rd_num t.n 2 (by unfold Pk.okSize; omega)] at h1
                  exact h1)
                have hq1 : IntKind.i64.wrap 16 = 16 := IntWalk.i64_in _ (by omega)
                have hq2 : IntKind.i64.wrap 48 = 48 := IntWalk.i64_in _ (by omega)
                have hq3 : IntKind.u64.wrap 48 = 48 := by rw [IntKind.wrap_u64]; rfl
                refine wp_region_held_drew (S := HeldM (fun k => k = gi) wd) (by kernel_rfl) (by rw [hwd]; exact HeldM.refl _ _) (fun hHeld => ?_)
                rw [← hwd] at hHeld ⊢
                clear hwd hth ck c1 c2 c3 hdig5
                refine take_at (v := ?_) 0 79 rfl rfl (by kernel_rfl) (by kernel_rfl) (by kernel_rfl) (fun _ _ _ h => h) hHeld (Or.inl ⟨by rfl, ?_⟩) rfl ?_
                rotate_left
                · intro wq hSw
                  go_simp
                  try with_reducible rfl
                simp only [List.set_cons_zero, List.set_cons_succ]
                refine take_at (v := ?_) 1 80 rfl rfl (by kernel_rfl) (by kernel_rfl) (by kernel_rfl) (fun _ _ _ h => h) hHeld (Or.inl ⟨by rfl, ?_⟩) rfl ?_
                rotate_left
                · intro wq hSw
                  go_simp
                  try with_reducible rfl
                simp only [List.set_cons_zero, List.set_cons_succ]
                refine take_at (v := ?_) 3 82 rfl rfl (by kernel_rfl) (by kernel_rfl) (by kernel_rfl) (fun _ _ _ h => h) hHeld (Or.inl ⟨by rfl, ?_⟩) rfl ?_
                rotate_left
                · intro wq hSw
                  go_simp
                  try with_reducible rfl
                simp only [List.set_cons_zero, List.set_cons_succ]
                refine take_at (v := ?_) 4 83 rfl rfl (by kernel_rfl) (by kernel_rfl) (by kernel_rfl) (fun _ _ _ h => h) hHeld (Or.inl ⟨by rfl, ?_⟩) rfl ?_
                rotate_left
                · intro wq hSw
                  have hst := (Hthd.out.moved hSw.out (fun e => HGT.out e)).num
                  go_simp
                  try with_reducible rfl
                simp only [List.set_cons_zero, List.set_cons_succ]
                refine take_at (v := ?_) 5 84 rfl rfl (by kernel_rfl) (by kernel_rfl) (by kernel_rfl) (fun _ _ _ h => h) hHeld (Or.inl ⟨by rfl, ?_⟩) rfl ?_
                rotate_left
                · intro wq hSw
                  go_simp
                  try with_reducible rfl
                simp only [List.set_cons_zero, List.set_cons_succ]
                refine take_at (v := ?_) 6 85 rfl rfl (by kernel_rfl) (by kernel_rfl) (by kernel_rfl) (fun _ _ _ h => h) hHeld (Or.inl ⟨by rfl, ?_⟩) rfl ?_
                rotate_left
                · intro wq hSw
                  go_simp
                  try with_reducible rfl
                simp only [List.set_cons_zero, List.set_cons_succ]
                refine take_at (v := ?_) 7 86 rfl rfl (by kernel_rfl) (by kernel_rfl) (by kernel_rfl) (fun _ _ _ h => h) hHeld (Or.inl ⟨by rfl, ?_⟩) rfl ?_
                rotate_left
                · intro wq hSw
                  go_simp
                  try with_reducible rfl
                simp only [List.set_cons_zero, List.set_cons_succ]
                refine take_at (v := ?_) 8 87 rfl rfl (by kernel_rfl) (by kernel_rfl) (by kernel_rfl) (fun _ _ _ h => h) hHeld (Or.inl ⟨by rfl, ?_⟩) rfl ?_
                rotate_left
                · intro wq hSw
                  go_simp
                  try with_reducible rfl
                simp only [List.set_cons_zero, List.set_cons_succ]
                refine take_at (v := ?_) 9 88 rfl rfl (by kernel_rfl) (by kernel_rfl) (by kernel_rfl) (fun _ _ _ h => h) hHeld (Or.inl ⟨by rfl, ?_⟩) rfl ?_
                rotate_left
                · intro wq hSw
                  go_simp
                  try with_reducible rfl
                simp only [List.set_cons_zero, List.set_cons_succ]
                refine take_at (v := ?_) 10 89 rfl rfl (by kernel_rfl) (by kernel_rfl) (by kernel_rfl) (fun _ _ _ h => h) hHeld (Or.inl ⟨by rfl, ?_⟩) rfl ?_
                rotate_left
                · intro wq hSw
                  go_simp
                  try with_reducible rfl
                simp only [List.set_cons_zero, List.set_cons_succ]
                refine take_at (v := ?_) 11 90 rfl rfl (by kernel_rfl) (by kernel_rfl) (by kernel_rfl) (fun _ _ _ h => h) hHeld (Or.inl ⟨by rfl, ?_⟩) rfl ?_
                rotate_left
                · intro wq hSw
                  go_simp
                  try with_reducible rfl
                simp only [List.set_cons_zero, List.set_cons_succ]
                refine take_at (v := ?_) 12 91 rfl rfl (by kernel_rfl) (by kernel_rfl) (by kernel_rfl) (fun _ _ _ h => h) hHeld (Or.inl ⟨by rfl, ?_⟩) rfl ?_
                rotate_left
                · intro wq hSw
                  go_simp
                  try with_reducible rfl
                simp only [List.set_cons_zero, List.set_cons_succ]
                refine take_at (v := ?_) 13 92 rfl rfl (by kernel_rfl) (by kernel_rfl) (by kernel_rfl) (fun _ _ _ h => h) hHeld (Or.inl ⟨by rfl, ?_⟩) rfl ?_
                rotate_left
                · intro wq hSw
                  go_simp
                  try with_reducible rfl
                simp only [List.set_cons_zero, List.set_cons_succ]
                refine take_at (v := ?_) 14 93 rfl rfl (by kernel_rfl) (by kernel_rfl) (by kernel_rfl) (fun _ _ _ h => h) hHeld (Or.inl ⟨by rfl, ?_⟩) rfl ?_
                rotate_left
                · intro wq hSw
                  go_simp
                  try with_reducible rfl
                simp only [List.set_cons_zero, List.set_cons_succ]
                refine wpAnyH_ready (rs := [2]) (by kernel_rfl) (by simp) ?_
                refine AllReadyH.cons rfl (fun K hK => ?_) AllReadyH.nil
                go_simp
                go_at_call 20; refine HIN.out.mono ?_; rintro e w8 ⟨rfl, hi8, hm8⟩
                refine hK.out _ _ (HeldM.of hm8) (fun _ => ?_)
                clear hK K
                try dsimp only
                refine heldM_grow (w1 := w8) hm8 ?_
                clear hHeld
                have hHeld : HeldM (fun k => k = gi) w8 w8 := HeldM.refl _ _
                refine take_at (v := ?_) 15 94 rfl rfl (by kernel_rfl) (by kernel_rfl) (by kernel_rfl) (fun _ _ _ h => h) hHeld (Or.inl ⟨by rfl, ?_⟩) rfl ?_
                rotate_left
                · intro wq hSw
                  go_simp
                  try with_reducible rfl
                simp only [List.set_cons_zero, List.set_cons_succ]
                refine wpAnyH_done (by kernel_rfl) ?_ _
                have hb8 := (HW5.out.trans (hmd.mono HW5.out.size)).trans (hm8.below (B := W.heap.size) (fun k e => by have e' : k = gi := e; have := HGI.out; omega) (HW5.out.trans (hmd.mono HW5.out.size)).size)
                have HI8 := Lib.hid hi8
                clear hi8
                go_wp2
                go_roundw
                case rel => exact ⟨i + 1, by omega, by go_num, HI8.out, hb8⟩
                case measure => (simp [intOf]; try omega)
              · rw [hs] at hpt hsl
                have HPT := Lib.hid hpt
                clear hpt hs
                go_upto_region 28 with fail
                obtain ⟨wd, hwd⟩ : ∃ x, x = w5.drew := ⟨_, rfl⟩
                have hmd : Below w5.heap.size w5 wd := by rw [hwd]; exact (Below.refl _ _).drew
                have Hthd := Lib.hid (hth.under hmd hth.lt)
                have HId := Lib.hid (HI5.out.below hmd)

                have HIN := Lib.hid (show Calls Try.prog 20 #[.pointer (some ⟨gi, 0, none⟩), .int .i64 4] wd (InPost encU gi r (some (((L.drop (i + 1)).map Pk.putB).flatten), (t.n <<< 32) >>> 32) wd) by
                  have h1 := inNum_any gi r _ (4 : Nat) wd HId.out
                  rw [HDR.out, HPT.out, Pk.rd_num t.n 4 (by unfold Pk.okSize; omega)] at h1
                  exact h1)
                have hq1 : IntKind.i64.wrap 32 = 32 := IntWalk.i64_in _ (by omega)
                have hq3 : IntKind.u64.wrap 32 = 32 := by rw [IntKind.wrap_u64]; rfl
                refine wp_region_held_drew (S := HeldM (fun k => k = gi) wd) (by kernel_rfl) (by rw [hwd]; exact HeldM.refl _ _) (fun hHeld => ?_)
                rw [← hwd] at hHeld ⊢
                clear hwd hth ck c1 c2 c3 hdig5
                refine take_at (v := ?_) 0 79 rfl rfl (by kernel_rfl) (by kernel_rfl) (by kernel_rfl) (fun _ _ _ h => h) hHeld (Or.inl ⟨by rfl, ?_⟩) rfl ?_
                rotate_left
                · intro wq hSw
                  go_simp
                  try with_reducible rfl
                simp only [List.set_cons_zero, List.set_cons_succ]
                refine take_at (v := ?_) 1 80 rfl rfl (by kernel_rfl) (by kernel_rfl) (by kernel_rfl) (fun _ _ _ h => h) hHeld (Or.inl ⟨by rfl, ?_⟩) rfl ?_
                rotate_left
                · intro wq hSw
                  go_simp
                  try with_reducible rfl
                simp only [List.set_cons_zero, List.set_cons_succ]
                refine take_at (v := ?_) 3 82 rfl rfl (by kernel_rfl) (by kernel_rfl) (by kernel_rfl) (fun _ _ _ h => h) hHeld (Or.inl ⟨by rfl, ?_⟩) rfl ?_
                rotate_left
                · intro wq hSw
                  go_simp
                  try with_reducible rfl
                simp only [List.set_cons_zero, List.set_cons_succ]
                refine take_at (v := ?_) 4 83 rfl rfl (by kernel_rfl) (by kernel_rfl) (by kernel_rfl) (fun _ _ _ h => h) hHeld (Or.inl ⟨by rfl, ?_⟩) rfl ?_
                rotate_left
                · intro wq hSw
                  have hst := (Hthd.out.moved hSw.out (fun e => HGT.out e)).num
                  go_simp
                  try with_reducible rfl
                simp only [List.set_cons_zero, List.set_cons_succ]
                refine take_at (v := ?_) 5 84 rfl rfl (by kernel_rfl) (by kernel_rfl) (by kernel_rfl) (fun _ _ _ h => h) hHeld (Or.inl ⟨by rfl, ?_⟩) rfl ?_
                rotate_left
                · intro wq hSw
                  go_simp
                  try with_reducible rfl
                simp only [List.set_cons_zero, List.set_cons_succ]
                refine take_at (v := ?_) 6 85 rfl rfl (by kernel_rfl) (by kernel_rfl) (by kernel_rfl) (fun _ _ _ h => h) hHeld (Or.inl ⟨by rfl, ?_⟩) rfl ?_
                rotate_left
                · intro wq hSw
                  go_simp
                  try with_reducible rfl
                simp only [List.set_cons_zero, List.set_cons_succ]
                refine take_at (v := ?_) 7 86 rfl rfl (by kernel_rfl) (by kernel_rfl) (by kernel_rfl) (fun _ _ _ h => h) hHeld (Or.inl ⟨by rfl, ?_⟩) rfl ?_
                rotate_left
                · intro wq hSw
                  go_simp
                  try with_reducible rfl
                simp only [List.set_cons_zero, List.set_cons_succ]
                refine take_at (v := ?_) 8 87 rfl rfl (by kernel_rfl) (by kernel_rfl) (by kernel_rfl) (fun _ _ _ h => h) hHeld (Or.inl ⟨by rfl, ?_⟩) rfl ?_
                rotate_left
                · intro wq hSw
                  go_simp
                  try with_reducible rfl
                simp only [List.set_cons_zero, List.set_cons_succ]
                refine take_at (v := ?_) 9 88 rfl rfl (by kernel_rfl) (by kernel_rfl) (by kernel_rfl) (fun _ _ _ h => h) hHeld (Or.inl ⟨by rfl, ?_⟩) rfl ?_
                rotate_left
                · intro wq hSw
                  go_simp
                  try with_reducible rfl
                simp only [List.set_cons_zero, List.set_cons_succ]
                refine take_at (v := ?_) 10 89 rfl rfl (by kernel_rfl) (by kernel_rfl) (by kernel_rfl) (fun _ _ _ h => h) hHeld (Or.inl ⟨by rfl, ?_⟩) rfl ?_
                rotate_left
                · intro wq hSw
                  go_simp
                  try with_reducible rfl
                simp only [List.set_cons_zero, List.set_cons_succ]
                refine take_at (v := ?_) 11 90 rfl rfl (by kernel_rfl) (by kernel_rfl) (by kernel_rfl) (fun _ _ _ h => h) hHeld (Or.inl ⟨by rfl, ?_⟩) rfl ?_
                rotate_left
                · intro wq hSw
                  go_simp
                  try with_reducible rfl
                simp only [List.set_cons_zero, List.set_cons_succ]
                refine take_at (v := ?_) 12 91 rfl rfl (by kernel_rfl) (by kernel_rfl) (by kernel_rfl) (fun _ _ _ h => h) hHeld (Or.inl ⟨by rfl, ?_⟩) rfl ?_
                rotate_left
                · intro wq hSw
                  go_simp
                  try with_reducible rfl
                simp only [List.set_cons_zero, List.set_cons_succ]
                refine take_at (v := ?_) 13 92 rfl rfl (by kernel_rfl) (by kernel_rfl) (by kernel_rfl) (fun _ _ _ h => h) hHeld (Or.inl ⟨by rfl, ?_⟩) rfl ?_
                rotate_left
                · intro wq hSw
                  go_simp
                  try with_reducible rfl
                simp only [List.set_cons_zero, List.set_cons_succ]
                refine take_at (v := ?_) 14 93 rfl rfl (by kernel_rfl) (by kernel_rfl) (by kernel_rfl) (fun _ _ _ h => h) hHeld (Or.inl ⟨by rfl, ?_⟩) rfl ?_
                rotate_left
                · intro wq hSw
                  go_simp
                  try with_reducible rfl
                simp only [List.set_cons_zero, List.set_cons_succ]
                refine wpAnyH_ready (rs := [2]) (by kernel_rfl) (by simp) ?_
                refine AllReadyH.cons rfl (fun K hK => ?_) AllReadyH.nil
                go_simp
                go_at_call 20; refine HIN.out.mono ?_; rintro e w8 ⟨rfl, hi8, hm8⟩
                refine hK.out _ _ (HeldM.of hm8) (fun _ => ?_)
                clear hK K
                try dsimp only
                refine heldM_grow (w1 := w8) hm8 ?_
                clear hHeld
                have hHeld : HeldM (fun k => k = gi) w8 w8 := HeldM.refl _ _
                refine take_at (v := ?_) 15 94 rfl rfl (by kernel_rfl) (by kernel_rfl) (by kernel_rfl) (fun _ _ _ h => h) hHeld (Or.inl ⟨by rfl, ?_⟩) rfl ?_
                rotate_left
                · intro wq hSw
                  go_simp
                  try with_reducible rfl
                simp only [List.set_cons_zero, List.set_cons_succ]
                refine wpAnyH_done (by kernel_rfl) ?_ _
                have hb8 := (HW5.out.trans (hmd.mono HW5.out.size)).trans (hm8.below (B := W.heap.size) (fun k e => by have e' : k = gi := e; have := HGI.out; omega) (HW5.out.trans (hmd.mono HW5.out.size)).size)
                have HI8 := Lib.hid hi8
                clear hi8
                go_wp2
                go_roundw
                case rel => exact ⟨i + 1, by omega, by go_num, HI8.out, hb8⟩
                case measure => (simp [intOf]; try omega)
              · rw [hs] at hpt hsl
                have HPT := Lib.hid hpt
                clear hpt hs
                go_upto_region 28 with fail
                obtain ⟨wd, hwd⟩ : ∃ x, x = w5.drew := ⟨_, rfl⟩
                have hmd : Below w5.heap.size w5 wd := by rw [hwd]; exact (Below.refl _ _).drew
                have Hthd := Lib.hid (hth.under hmd hth.lt)
                have HId := Lib.hid (HI5.out.below hmd)

                have HIN := Lib.hid (show Calls Try.prog 20 #[.pointer (some ⟨gi, 0, none⟩), .int .i64 8] wd (InPost encU gi r (some (((L.drop (i + 1)).map Pk.putB).flatten), (t.n <<< 0) >>> 0) wd) by
                  have h1 := inNum_any gi r _ (8 : Nat) wd HId.out
                  rw [HDR.out, HPT.out, Pk.rd_num t.n 8 (by unfold Pk.okSize; omega)] at h1
                  exact h1)
                have hq1 : IntKind.i64.wrap 64 = 64 := IntWalk.i64_in _ (by omega)
                have hq2 : IntKind.i64.wrap 0 = 0 := IntWalk.i64_in _ (by omega)
                have hq3 : IntKind.u64.wrap 0 = 0 := by rw [IntKind.wrap_u64]; rfl
                refine wp_region_held_drew (S := HeldM (fun k => k = gi) wd) (by kernel_rfl) (by rw [hwd]; exact HeldM.refl _ _) (fun hHeld => ?_)
                rw [← hwd] at hHeld ⊢
                clear hwd hth ck c1 c2 c3 hdig5
                refine take_at (v := ?_) 0 79 rfl rfl (by kernel_rfl) (by kernel_rfl) (by kernel_rfl) (fun _ _ _ h => h) hHeld (Or.inl ⟨by rfl, ?_⟩) rfl ?_
                rotate_left
                · intro wq hSw
                  go_simp
                  try with_reducible rfl
                simp only [List.set_cons_zero, List.set_cons_succ]
                refine take_at (v := ?_) 1 80 rfl rfl (by kernel_rfl) (by kernel_rfl) (by kernel_rfl) (fun _ _ _ h => h) hHeld (Or.inl ⟨by rfl, ?_⟩) rfl ?_
                rotate_left
                · intro wq hSw
                  go_simp
                  try with_reducible rfl
                simp only [List.set_cons_zero, List.set_cons_succ]
                refine take_at (v := ?_) 3 82 rfl rfl (by kernel_rfl) (by kernel_rfl) (by kernel_rfl) (fun _ _ _ h => h) hHeld (Or.inl ⟨by rfl, ?_⟩) rfl ?_
                rotate_left
                · intro wq hSw
                  go_simp
                  try with_reducible rfl
                simp only [List.set_cons_zero, List.set_cons_succ]
                refine take_at (v := ?_) 4 83 rfl rfl (by kernel_rfl) (by kernel_rfl) (by kernel_rfl) (fun _ _ _ h => h) hHeld (Or.inl ⟨by rfl, ?_⟩) rfl ?_
                rotate_left
                · intro wq hSw
                  have hst := (Hthd.out.moved hSw.out (fun e => HGT.out e)).num
                  go_simp
                  try with_reducible rfl
                simp only [List.set_cons_zero, List.set_cons_succ]
                refine take_at (v := ?_) 5 84 rfl rfl (by kernel_rfl) (by kernel_rfl) (by kernel_rfl) (fun _ _ _ h => h) hHeld (Or.inl ⟨by rfl, ?_⟩) rfl ?_
                rotate_left
                · intro wq hSw
                  go_simp
                  try with_reducible rfl
                simp only [List.set_cons_zero, List.set_cons_succ]
                refine take_at (v := ?_) 6 85 rfl rfl (by kernel_rfl) (by kernel_rfl) (by kernel_rfl) (fun _ _ _ h => h) hHeld (Or.inl ⟨by rfl, ?_⟩) rfl ?_
                rotate_left
                · intro wq hSw
                  go_simp
                  try with_reducible rfl
                simp only [List.set_cons_zero, List.set_cons_succ]
                refine take_at (v := ?_) 7 86 rfl rfl (by kernel_rfl) (by kernel_rfl) (by kernel_rfl) (fun _ _ _ h => h) hHeld (Or.inl ⟨by rfl, ?_⟩) rfl ?_
                rotate_left
                · intro wq hSw
                  go_simp
                  try with_reducible rfl
                simp only [List.set_cons_zero, List.set_cons_succ]
                refine take_at (v := ?_) 8 87 rfl rfl (by kernel_rfl) (by kernel_rfl) (by kernel_rfl) (fun _ _ _ h => h) hHeld (Or.inl ⟨by rfl, ?_⟩) rfl ?_
                rotate_left
                · intro wq hSw
                  go_simp
                  try with_reducible rfl
                simp only [List.set_cons_zero, List.set_cons_succ]
                refine take_at (v := ?_) 9 88 rfl rfl (by kernel_rfl) (by kernel_rfl) (by kernel_rfl) (fun _ _ _ h => h) hHeld (Or.inl ⟨by rfl, ?_⟩) rfl ?_
                rotate_left
                · intro wq hSw
                  go_simp
                  try with_reducible rfl
                simp only [List.set_cons_zero, List.set_cons_succ]
                refine take_at (v := ?_) 10 89 rfl rfl (by kernel_rfl) (by kernel_rfl) (by kernel_rfl) (fun _ _ _ h => h) hHeld (Or.inl ⟨by rfl, ?_⟩) rfl ?_
                rotate_left
                · intro wq hSw
                  go_simp
                  try with_reducible rfl
                simp only [List.set_cons_zero, List.set_cons_succ]
                refine take_at (v := ?_) 11 90 rfl rfl (by kernel_rfl) (by kernel_rfl) (by kernel_rfl) (fun _ _ _ h => h) hHeld (Or.inl ⟨by rfl, ?_⟩) rfl ?_
                rotate_left
                · intro wq hSw
                  go_simp
                  try with_reducible rfl
                simp only [List.set_cons_zero, List.set_cons_succ]
                refine take_at (v := ?_) 12 91 rfl rfl (by kernel_rfl) (by kernel_rfl) (by kernel_rfl) (fun _ _ _ h => h) hHeld (Or.inl ⟨by rfl, ?_⟩) rfl ?_
                rotate_left
                · intro wq hSw
                  go_simp
                  try with_reducible rfl
                simp only [List.set_cons_zero, List.set_cons_succ]
                refine take_at (v := ?_) 13 92 rfl rfl (by kernel_rfl) (by kernel_rfl) (by kernel_rfl) (fun _ _ _ h => h) hHeld (Or.inl ⟨by rfl, ?_⟩) rfl ?_
                rotate_left
                · intro wq hSw
                  go_simp
                  try with_reducible rfl
                simp only [List.set_cons_zero, List.set_cons_succ]
                refine take_at (v := ?_) 14 93 rfl rfl (by kernel_rfl) (by kernel_rfl) (by kernel_rfl) (fun _ _ _ h => h) hHeld (Or.inl ⟨by rfl, ?_⟩) rfl ?_
                rotate_left
                · intro wq hSw
                  go_simp
                  try with_reducible rfl
                simp only [List.set_cons_zero, List.set_cons_succ]
                refine wpAnyH_ready (rs := [2]) (by kernel_rfl) (by simp) ?_
                refine AllReadyH.cons rfl (fun K hK => ?_) AllReadyH.nil
                go_simp
                go_at_call 20; refine HIN.out.mono ?_; rintro e w8 ⟨rfl, hi8, hm8⟩
                refine hK.out _ _ (HeldM.of hm8) (fun _ => ?_)
                clear hK K
                try dsimp only
                refine heldM_grow (w1 := w8) hm8 ?_
                clear hHeld
                have hHeld : HeldM (fun k => k = gi) w8 w8 := HeldM.refl _ _
                refine take_at (v := ?_) 15 94 rfl rfl (by kernel_rfl) (by kernel_rfl) (by kernel_rfl) (fun _ _ _ h => h) hHeld (Or.inl ⟨by rfl, ?_⟩) rfl ?_
                rotate_left
                · intro wq hSw
                  go_simp
                  try with_reducible rfl
                simp only [List.set_cons_zero, List.set_cons_succ]
                refine wpAnyH_done (by kernel_rfl) ?_ _
                have hb8 := (HW5.out.trans (hmd.mono HW5.out.size)).trans (hm8.below (B := W.heap.size) (fun k e => by have e' : k = gi := e; have := HGI.out; omega) (HW5.out.trans (hmd.mono HW5.out.size)).size)
                have HI8 := Lib.hid hi8
                clear hi8
                go_wp2
                go_roundw
                case rel => exact ⟨i + 1, by omega, by go_num, HI8.out, hb8⟩
                case measure => (simp [intOf]; try omega)
            · have HPT := Lib.hid (show Pk.putB t = Pk.count (t.n >>> 1).toNat by unfold Pk.putB; rw [if_neg (by omega), if_pos hk])
              rw [hk] at ck
              clear hk
              go_upto_region 31 with fail
              obtain ⟨wd, hwd⟩ : ∃ x, x = w5.drew := ⟨_, rfl⟩
              have hmd : Below w5.heap.size w5 wd := by rw [hwd]; exact (Below.refl _ _).drew
              have Hthd := Lib.hid (hth.under hmd hth.lt)
              have HId := Lib.hid (HI5.out.below hmd)

              have HIN := Lib.hid (show Calls Try.prog 22 #[.pointer (some ⟨gi, 0, none⟩), .int .i64 9223372036854775807] wd (InPost encI gi r (some (((L.drop (i + 1)).map Pk.putB).flatten), ((t.n >>> 1).toNat : Int)) wd) by
                have h1 := inCount_any gi r _ 9223372036854775807 (by omega) wd HId.out
                rw [HDR.out, HPT.out, Pk.rd_count (t.n >>> 1).toNat 9223372036854775807 HN1.out (by have := HN1.out; omega)] at h1
                exact h1)
              refine wp_region_held_drew (S := HeldM (fun k => k = gi) wd) (by kernel_rfl) (by rw [hwd]; exact HeldM.refl _ _) (fun hHeld => ?_)
              rw [← hwd] at hHeld ⊢
              clear hwd hth ck c1 c2 c3 hdig5
              refine take_at (v := ?_) 0 97 rfl rfl (by kernel_rfl) (by kernel_rfl) (by kernel_rfl) (fun _ _ _ h => h) hHeld (Or.inl ⟨by rfl, ?_⟩) rfl ?_
              rotate_left
              · intro wq hSw
                go_simp
                try with_reducible rfl
              simp only [List.set_cons_zero, List.set_cons_succ]
              refine take_at (v := ?_) 2 99 rfl rfl (by kernel_rfl) (by kernel_rfl) (by kernel_rfl) (fun _ _ _ h => h) hHeld (Or.inl ⟨by rfl, ?_⟩) rfl ?_
              rotate_left
              · intro wq hSw
                go_simp
                try with_reducible rfl
              simp only [List.set_cons_zero, List.set_cons_succ]
              refine take_at (v := ?_) 3 100 rfl rfl (by kernel_rfl) (by kernel_rfl) (by kernel_rfl) (fun _ _ _ h => h) hHeld (Or.inl ⟨by rfl, ?_⟩) rfl ?_
              rotate_left
              · intro wq hSw
                have hst := (Hthd.out.moved hSw.out (fun e => HGT.out e)).num
                go_simp
                try with_reducible rfl
              simp only [List.set_cons_zero, List.set_cons_succ]
              refine take_at (v := ?_) 4 101 rfl rfl (by kernel_rfl) (by kernel_rfl) (by kernel_rfl) (fun _ _ _ h => h) hHeld (Or.inl ⟨by rfl, ?_⟩) rfl ?_
              rotate_left
              · intro wq hSw
                go_simp
                try with_reducible rfl
              simp only [List.set_cons_zero, List.set_cons_succ]
              refine take_at (v := ?_) 5 102 rfl rfl (by kernel_rfl) (by kernel_rfl) (by kernel_rfl) (fun _ _ _ h => h) hHeld (Or.inl ⟨by rfl, ?_⟩) rfl ?_
              rotate_left
              · intro wq hSw
                go_simp
                try with_reducible rfl
              simp only [List.set_cons_zero, List.set_cons_succ]
              refine wpAnyH_ready (rs := [1]) (by kernel_rfl) (by simp) ?_
              refine AllReadyH.cons rfl (fun K hK => ?_) AllReadyH.nil
              go_simp
              go_at_call 22; refine HIN.out.mono ?_; rintro e w8 ⟨rfl, hi8, hm8⟩
              refine hK.out _ _ (HeldM.of hm8) (fun _ => ?_)
              clear hK K
              try dsimp only
              refine heldM_grow (w1 := w8) hm8 ?_
              clear hHeld
              have hHeld : HeldM (fun k => k = gi) w8 w8 := HeldM.refl _ _
              refine take_at (v := ?_) 6 103 rfl rfl (by kernel_rfl) (by kernel_rfl) (by kernel_rfl) (fun _ _ _ h => h) hHeld (Or.inl ⟨by rfl, ?_⟩) rfl ?_
              rotate_left
              · intro wq hSw
                go_simp
                try with_reducible rfl
              simp only [List.set_cons_zero, List.set_cons_succ]
              refine wpAnyH_done (by kernel_rfl) ?_ _
              have hb8 := (HW5.out.trans (hmd.mono HW5.out.size)).trans (hm8.below (B := W.heap.size) (fun k e => by have e' : k = gi := e; have := HGI.out; omega) (HW5.out.trans (hmd.mono HW5.out.size)).size)
              have HI8 := Lib.hid hi8
              clear hi8
              go_wp2
              go_roundw
              case rel => exact ⟨i + 1, by omega, by go_num, HI8.out, hb8⟩
              case measure => (simp [intOf]; try omega)
            · have HPT := Lib.hid (show Pk.putB t = Pk.text t.s by unfold Pk.putB; rw [if_neg (by omega), if_neg (by omega), if_pos hk])
              rw [hk] at ck
              clear hk
              go_upto_region 34 with fail
              obtain ⟨wd, hwd⟩ : ∃ x, x = w5.drew := ⟨_, rfl⟩
              have hmd : Below w5.heap.size w5 wd := by rw [hwd]; exact (Below.refl _ _).drew
              have Hthd := Lib.hid (hth.under hmd hth.lt)
              have HId := Lib.hid (HI5.out.below hmd)

              obtain ⟨m, hm⟩ : ∃ m, m = t.s.length := ⟨_, rfl⟩
              have HIN := Lib.hid (show Calls Try.prog 24 #[.pointer (some ⟨gi, 0, none⟩), .int .i64 (m : Int)] wd (InPost encT gi r (some (((L.drop (i + 1)).map Pk.putB).flatten), t.s) wd) by
                have h1 := inText_any gi r _ (t.s.length : Int) (by have := HTS.out; omega) wd HId.out
                rw [HDR.out, HPT.out, Pk.rd_text t.s _ (by have := HTS.out; omega)] at h1
                rw [hm]
                exact h1)
              have hsz := strB_size t.s
              rw [← hm] at hsz
              clear hm
              refine wp_region_held_drew (S := HeldM (fun k => k = gi) wd) (by kernel_rfl) (by rw [hwd]; exact HeldM.refl _ _) (fun hHeld => ?_)
              rw [← hwd] at hHeld ⊢
              clear hwd hth ck c1 c2 c3 hdig5
              refine take_at (v := ?_) 0 106 rfl rfl (by kernel_rfl) (by kernel_rfl) (by kernel_rfl) (fun _ _ _ h => h) hHeld (Or.inl ⟨by rfl, ?_⟩) rfl ?_
              rotate_left
              · intro wq hSw
                go_simp
                try with_reducible rfl
              simp only [List.set_cons_zero, List.set_cons_succ]
              refine take_at (v := ?_) 1 107 rfl rfl (by kernel_rfl) (by kernel_rfl) (by kernel_rfl) (fun _ _ _ h => h) hHeld (Or.inl ⟨by rfl, ?_⟩) rfl ?_
              rotate_left
              · intro wq hSw
                go_simp
                try with_reducible rfl
              simp only [List.set_cons_zero, List.set_cons_succ]
              refine take_at (v := ?_) 2 108 rfl rfl (by kernel_rfl) (by kernel_rfl) (by kernel_rfl) (fun _ _ _ h => h) hHeld (Or.inl ⟨by rfl, ?_⟩) rfl ?_
              rotate_left
              · intro wq hSw
                have hst := (Hthd.out.moved hSw.out (fun e => HGT.out e)).str
                go_simp
                try with_reducible rfl
              simp only [List.set_cons_zero, List.set_cons_succ]
              refine take_at (v := ?_) 3 109 rfl rfl (by kernel_rfl) (by kernel_rfl) (by kernel_rfl) (fun _ _ _ h => h) hHeld (Or.inl ⟨by rfl, ?_⟩) rfl ?_
              rotate_left
              · intro wq hSw
                go_simp
                try with_reducible rfl
              simp only [List.set_cons_zero, List.set_cons_succ]
              refine take_at (v := ?_) 5 111 rfl rfl (by kernel_rfl) (by kernel_rfl) (by kernel_rfl) (fun _ _ _ h => h) hHeld (Or.inl ⟨by rfl, ?_⟩) rfl ?_
              rotate_left
              · intro wq hSw
                go_simp
                try with_reducible rfl
              simp only [List.set_cons_zero, List.set_cons_succ]
              refine take_at (v := ?_) 6 112 rfl rfl (by kernel_rfl) (by kernel_rfl) (by kernel_rfl) (fun _ _ _ h => h) hHeld (Or.inl ⟨by rfl, ?_⟩) rfl ?_
              rotate_left
              · intro wq hSw
                have hst := (Hthd.out.moved hSw.out (fun e => HGT.out e)).str
                go_simp
                try with_reducible rfl
              simp only [List.set_cons_zero, List.set_cons_succ]
              refine wpAnyH_ready (rs := [4]) (by kernel_rfl) (by simp) ?_
              refine AllReadyH.cons rfl (fun K hK => ?_) AllReadyH.nil
              go_simp
              go_at_call 24; refine HIN.out.mono ?_; rintro e w8 ⟨rfl, hi8, hm8⟩
              refine hK.out _ _ (HeldM.of hm8) (fun _ => ?_)
              clear hK K
              try dsimp only
              refine heldM_grow (w1 := w8) hm8 ?_
              clear hHeld
              have hHeld : HeldM (fun k => k = gi) w8 w8 := HeldM.refl _ _
              refine take_at (v := ?_) 7 113 rfl rfl (by kernel_rfl) (by kernel_rfl) (by kernel_rfl) (fun _ _ _ h => h) hHeld (Or.inl ⟨by rfl, ?_⟩) rfl ?_
              rotate_left
              · intro wq hSw
                go_simp
                try with_reducible rfl
              simp only [List.set_cons_zero, List.set_cons_succ]
              refine wpAnyH_done (by kernel_rfl) ?_ _
              have hb8 := (HW5.out.trans (hmd.mono HW5.out.size)).trans (hm8.below (B := W.heap.size) (fun k e => by have e' : k = gi := e; have := HGI.out; omega) (HW5.out.trans (hmd.mono HW5.out.size)).size)
              have HI8 := Lib.hid hi8
              clear hi8
              go_wp2
              go_roundw
              case rel => exact ⟨i + 1, by omega, by go_num, HI8.out, hb8⟩
              case measure => (simp [intOf]; try omega)
            · have HPT := Lib.hid (show Pk.putB t = t.h by unfold Pk.putB; rw [if_neg (by simpa using hk0), if_neg (by simpa using hk1), if_neg (by simpa using hk2)])
              go_upto_region 25 with fail
              obtain ⟨wd, hwd⟩ : ∃ x, x = w5.drew := ⟨_, rfl⟩
              have hmd : Below w5.heap.size w5 wd := by rw [hwd]; exact (Below.refl _ _).drew
              have Hthd := Lib.hid (hth.under hmd hth.lt)
              have HId := Lib.hid (HI5.out.below hmd)

              have HIN := Lib.hid (show Calls Try.prog 26 #[.pointer (some ⟨gi, 0, none⟩)] wd (InPost encH gi r (some (((L.drop (i + 1)).map Pk.putB).flatten), t.h) wd) by
                have h1 := inHash_any gi r _ wd HId.out
                rw [HDR.out, HPT.out, Pk.rd_hash t.h _ HOK.out.2.2.2] at h1
                exact h1)
              refine wp_region_held_drew (S := HeldM (fun k => k = gi) wd) (by kernel_rfl) (by rw [hwd]; exact HeldM.refl _ _) (fun hHeld => ?_)
              rw [← hwd] at hHeld ⊢
              clear hwd hth ck c1 c2 c3 hdig5
              refine take_at (v := ?_) 0 72 rfl rfl (by kernel_rfl) (by kernel_rfl) (by kernel_rfl) (fun _ _ _ h => h) hHeld (Or.inl ⟨by rfl, ?_⟩) rfl ?_
              rotate_left
              · intro wq hSw
                go_simp
                try with_reducible rfl
              simp only [List.set_cons_zero, List.set_cons_succ]
              refine take_at (v := ?_) 2 74 rfl rfl (by kernel_rfl) (by kernel_rfl) (by kernel_rfl) (fun _ _ _ h => h) hHeld (Or.inl ⟨by rfl, ?_⟩) rfl ?_
              rotate_left
              · intro wq hSw
                go_simp
                try with_reducible rfl
              simp only [List.set_cons_zero, List.set_cons_succ]
              refine take_at 3 75 rfl rfl (by kernel_rfl) (by kernel_rfl) (by kernel_rfl) (fun _ _ _ h => h) hHeld (yieldsIf_load_agg (by rfl) 31 (.tmp 74) rfl _ _ (by rfl) (fun wq hSw => (Hthd.out.moved hSw.out (fun e => HGT.out e)).dig HOK.out.2.2.2)) rfl ?_
              simp only [List.set_cons_zero, List.set_cons_succ]
              refine wpAnyH_ready (rs := [1]) (by kernel_rfl) (by simp) ?_
              refine AllReadyH.cons rfl (fun K hK => ?_) AllReadyH.nil
              go_simp
              go_at_call 26; refine HIN.out.mono ?_; rintro e w8 ⟨rfl, hi8, hm8⟩
              refine hK.out _ _ (HeldM.of hm8) (fun _ => ?_)
              clear hK K
              try dsimp only
              refine heldM_grow (w1 := w8) hm8 ?_
              clear hHeld
              have hHeld : HeldM (fun k => k = gi) w8 w8 := HeldM.refl _ _
              refine take_at (v := .bool false) 4 76 rfl rfl (by kernel_rfl) (by kernel_rfl) (by kernel_rfl) (fun _ _ _ h => h) hHeld (yieldsIf_neq_same (by rfl) 31 5 _ 32 (.tmp 73) (.tmp 75) rfl t.h (by rfl) (by rfl) (by kernel_rfl) Try.underlying31 Try.underlying5 (by kernel_rfl) HOK.out.2.2.2) rfl ?_
              simp only [List.set_cons_zero, List.set_cons_succ]
              refine wpAnyH_done (by kernel_rfl) ?_ _
              have hb8 := (HW5.out.trans (hmd.mono HW5.out.size)).trans (hm8.below (B := W.heap.size) (fun k e => by have e' : k = gi := e; have := HGI.out; omega) (HW5.out.trans (hmd.mono HW5.out.size)).size)
              have HI8 := Lib.hid hi8
              clear hi8
              go_wp2
              go_roundw
              case rel => exact ⟨i + 1, by omega, by go_num, HI8.out, hb8⟩
              case measure => (simp [intOf]; try omega)
          · have hin : i = n := by omega
            subst hin
            have hii : ¬ (i : Int) < (i : Int) := by omega
            have hdl : ((L.drop i).map Pk.putB).flatten = [] := by rw [List.drop_of_length_le (by rw [HT.out.1]; exact Nat.le_refl _)]; rfl
            rw [hdl] at hI
            have HIE := Lib.hid (inEnd_yes gi r _ _ hI rfl)
            have HIL := Lib.hid (show Calls Try.prog 27 #[.pointer (some ⟨gi, 0, none⟩)] wr fun e w' => e = .returned (.int .i64 0) ∧ wr = w' from inLeft_any gi r _ wr hI)
            clear hdl hI
            go_wp2_with (first
              | (go_at_call 27; refine HIL.out.mono ?_; rintro e wq ⟨rfl, rfl⟩)
              | (go_at_call 28; refine HIE.out.mono ?_; rintro e wq ⟨rfl, rfl⟩))
            go_ret
            exact ⟨rfl, hbW⟩
end Go.Proofs.Ytndcpclichpkaaa
