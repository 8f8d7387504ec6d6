/- PackAgain: the walk (mkpka.py) -/
import Derived.Test.YtndcpclichpkaaaPkA1
namespace Go.Proofs.Ytndcpclichpkaaa
open Go Go.RowKit Go.ChangeShapes Go.WideShapes
theorem rdHash_len' (s : Pk.Rd) : (Pk.rdHash s).2.length = 32 := by
  rw [rdHash_take]
  dsimp only
  split
  · assumption
  · simp
theorem text_len {s : List (BitVec 8)} (h : s.length ≤ 3000) : (Pk.text s).length ≤ 4000 := by
  unfold Pk.text
  rw [List.length_append]
  have := Pk.count_le s.length
  omega
set_option maxRecDepth 100000 in
set_option maxHeartbeats 64000000 in
theorem packAgainWalk {H : Type} {enc : TypeId × Value → H} (W : World) (base : Nat) (v0 : Value) (d0 : DataW H) (p0 : List MemPlace) (v1 : Value) (d1 : DataW H) (p1 : List MemPlace)
    (o0 : Value.okWide Try.prog W .any base 26 v0) (o1 : Value.okWide Try.prog W .any base 22 v1)
    (h0 : DataW.Trod enc Try.prog W 0 (fun _ => true) true 26 v0 d0 p0) (h1 : DataW.Trod enc Try.prog W 0 (fun _ => true) true 22 v1 d1 p1) :
    Calls Try.prog 6 #[v0, v1] W fun e w' => e = .returned (.bool true) ∧ Below W.heap.size W w' := by
  obtain ⟨ab, nb, cB, lb, rfl, hBb, hnb, hcb0⟩ := arg_bytes Try.underlying26 Try.underlying5 (by kernel_rfl) o0 h0
  obtain ⟨a, n, c, L, rfl, hT, hnc, hc0⟩ := arg_things o1 h1
  clear o0 h0 o1 h1
  have hmx : n ≤ 9223372036854775807 := hT.2.1
  have hmb : nb ≤ 9223372036854775807 := hBb.2.1
  have HT := Lib.hid hT
  have HBb := Lib.hid (And.intro hBb (And.intro hnb hcb0))
  clear hT hc0 hBb hcb0
  go_enter Try.func6, Try.ntmps6
  by_cases hbig : (3000 : Int) < (nb : Int)
  · go_upto_region 3 with (first | (go_at_call 7; refine (alive08 W).mono ?_; rintro e w1 ⟨rfl, hb1⟩))
    go_wp2_with (go_at_call 8; refine (long_any a n c L w1 (HT.out.below hb1)).mono ?_; rintro e w2 ⟨bl, rfl, hsh, hb2⟩; clear hsh; cases bl)
    all_goals
      go_wp2
      go_ret
      exact ⟨rfl, hb1.trans (hb2.mono hb1.size)⟩
  · have hnb3 : nb ≤ 3000 := by omega
    have HLb := Lib.hid (show lb.length ≤ 1000000 by rw [HBb.out.1.1]; omega)
    go_upto_region 3 with (first | (go_at_call 7; refine (alive08 W).mono ?_; rintro e w1 ⟨rfl, hb1⟩))
    go_upto_if 19 with (go_at_call 8; refine (long_any a n c L w1 (HT.out.below hb1)).mono ?_; rintro e w2 ⟨bl, rfl, hsh, hb2⟩; have HSH0 := Lib.hid hsh; clear hsh; cases bl)
    rotate_left
    · go_wp2
      go_ret
      exact ⟨rfl, hb1.trans (hb2.mono hb1.size)⟩
    have HSH := Lib.hid (HSH0.out trivial)
    have hW2 := hb1.trans (hb2.mono hb1.size)
    clear hb1 hb2 HSH0
    have hn41 : n ≤ 41 := by rw [← HT.out.1]; exact HSH.out.1
    have HRD := Lib.hid (read_any ab nb cB lb w2 (HBb.out.1.below hW2) HBb.out.2.2 (by omega))
    go_upto_region 6 with (go_at_call 18; refine HRD.out.mono ?_; rintro e w4 ⟨gi, r, rfl, hi4, hg4, hg4l, hr4, hb4⟩)
    obtain ⟨w5, hw5⟩ : ∃ x, x = w4.alloc (.cells #[.slice none 0 0] 28) := ⟨_, rfl⟩
    have hb5 : Below w4.heap.size w4 w5 := by rw [hw5]; exact (Below.refl _ _).alloc (Nat.le_refl _) _
    have hS5 : OutS w4.heap.size w5 w4.heap.size (.slice none 0 0) [] := by rw [hw5]; exact ⟨Has.fresh _ _ _, OwnB.nil _ _ _⟩
    rw [← hw5]
    clear hw5
    obtain ⟨g, hg⟩ : ∃ x, x = w4.heap.size := ⟨_, rfl⟩
    rw [← hg] at hS5 ⊢
    have hW4 := hW2.trans (hb4.mono hW2.size)
    have hW5 := hW4.trans (hb5.mono hW4.size)
    have hP5 : Pair w5 gi r g (.slice none 0 0) (some lb) [] := ⟨hi4.below hb5, hS5, by omega, fun k e => (hr4 k e).2⟩
    have HGI := Lib.hid (show W.heap.size ≤ gi ∧ gi < g from ⟨Nat.le_trans hW2.size hg4, by omega⟩)
    have hs5 : (Pk.left (some lb)).length ≤ 3000 := by show lb.length ≤ 3000; rw [HBb.out.1.1]; omega
    clear hS5 hi4 hb4 hb5 hg4 hg4l hr4 hg hW4 hW2 HRD
    go_wp2_with fail
    go_loopw [26] (fun iv wr => ∃ (i : Nat) (s : Pk.Rd) (v : Value) (l : List (BitVec 8)), i ≤ n ∧ iv = .int .i64 i ∧ Pair wr gi r g v s l ∧ Goes lb l s ∧ l.length ≤ 4000 * i ∧ (Pk.left s).length ≤ 3000 ∧ Below W.heap.size W wr) (fun iv _ => n - (intOf iv).toNat)
    case atStart => exact ⟨0, some lb, _, [], Nat.zero_le _, rfl, hP5, (show [] ++ lb = lb from rfl), by simp, hs5, hW5⟩
    case round =>
      clear hP5 hs5 hW5
      obtain ⟨i, s, v, l, hi, rfl, hP, hGo, hLl, hs3, hbW⟩ := hrel
      have HGO := Lib.hid hGo
      have HS3 := Lib.hid hs3
      clear hGo hs3
      by_cases hlt : i < n
      · have hii : (i : Int) < (n : Int) := by omega
        obtain ⟨t, ht⟩ : ∃ t, L[i]? = some t := ⟨_, List.getElem?_eq_getElem (by have := HT.out.1; omega)⟩
        have hok := HT.out.2.2.1 t (List.mem_of_getElem? ht)
        obtain ⟨x, rfl, hx⟩ := (HT.out.below hbW).load ht
        have HOK := Lib.hid hok
        clear ht hok
        go_upto_region 9 with (first
          | (refine wpList_store_mid rfl 33 (.tmp 8) (.tmp 29) rfl wr.heap.size 0 (thCells t).toArray rfl rfl (there_thing _ _ HOK.out.2.2.2) (size_thing HOK.out.2.2.2) (thCells_one t) ?_)
          | (refine wpList_load_run rfl 33 (.tmp 28) rfl _ _ rfl hx ?_))
        obtain ⟨w5, hw5⟩ : ∃ x, x = (wr.alloc (.cells zTh 33)).setCells wr.heap.size 0 (thCells t) := ⟨_, rfl⟩
        obtain ⟨hth, hb5⟩ := thing_new HOK.out.2.2.2 hw5
        rw [← hw5]
        clear hw5 hx
        obtain ⟨gt, hgt⟩ : ∃ x, x = wr.heap.size := ⟨_, rfl⟩
        rw [← hgt] at hth ⊢
        have HGT := Lib.hid (show ¬ gt = gi ∧ ¬ outF g v gt from ⟨by obtain ⟨_, _, _, _, h2, _⟩ := hP.1.has; have := h2.lt; omega, fun hf => hf.elim (fun e => by have := hP.2.1.1.lt; omega) (fun e => by have := (hP.2.1.2.lt_size _ e).2; omega)⟩)
        have HFB := Lib.hid (show ∀ k, outF g v k → W.heap.size ≤ k from fun k hf => hf.elim (fun e => by have := HGI.out; omega) (fun e => by have := (hP.2.1.2.lt_size _ e).1; have := HGI.out; omega))
        have HP5 := Lib.hid (hP.below hb5)
        have HW5 := Lib.hid (hbW.trans (hb5.mono hbW.size))
        clear hgt hP hbW hb5
        have ck := hth.kind
        have c1 := hth.asize
        have hdig5 := hth.dig HOK.out.2.2.2
        have hkind : t.kind = 0 ∨ t.kind = 1 ∨ t.kind = 2 ∨ (t.kind == 0) = false ∧ (t.kind == 1) = false ∧ (t.kind == 2) = false := by
          simp only [beq_eq_false_iff_ne]
          omega
        rcases hkind with hk | hk | hk | ⟨hk0, hk1, hk2⟩
        case' inl =>
          rw [hk] at ck
          clear hk
          go_upto_region 12 with fail
          obtain ⟨wd, hwd⟩ : ∃ x, x = w5.drew := ⟨_, rfl⟩
          have hmd : Below w5.heap.size w5 wd := by rw [hwd]; exact (Below.refl _ _).drew
          have Hthd := Lib.hid (hth.under hmd hth.lt)
          have HPd := Lib.hid (HP5.out.below hmd)
          have HWd := Lib.hid (HW5.out.trans (hmd.mono HW5.out.size))
          have HIN := Lib.hid (inNum_any gi r s t.size wd HPd.out.1)
          have HX := Lib.hid (show (Pk.num (Pk.rdNum s t.size).2 t.size).length ≤ 4000 from Nat.le_trans (num_len _ _) (by omega))
          have HON := Lib.hid (fun w6 (h : OutS g w6 g v l) (hB : g ≤ w6.heap.size) => outNum_any g g v l (Pk.rdNum s t.size).2 t.size (by omega) w6 h hB)
          refine wp_region_held_drew (S := HeldM (fun k => k = gi ∨ outF g v k) wd) (by kernel_rfl) (by rw [hwd]; exact HeldM.refl _ _) (fun hHeld => ?_)
          rw [← hwd] at hHeld ⊢
          clear hwd hth ck c1 hdig5
          refine take_at (v := ?_) 0 38 rfl rfl (by kernel_rfl) (by kernel_rfl) (by kernel_rfl) (fun _ _ _ h => h) hHeld (Or.inl ⟨by rfl, ?_⟩) rfl ?_
          rotate_left
          · intro wq hSw
            go_simp
            try with_reducible rfl
          simp only [List.set_cons_zero, List.set_cons_succ]
          refine take_at (v := ?_) 1 39 rfl rfl (by kernel_rfl) (by kernel_rfl) (by kernel_rfl) (fun _ _ _ h => h) hHeld (Or.inl ⟨by rfl, ?_⟩) rfl ?_
          rotate_left
          · intro wq hSw
            go_simp
            try with_reducible rfl
          simp only [List.set_cons_zero, List.set_cons_succ]
          refine take_at (v := ?_) 2 40 rfl rfl (by kernel_rfl) (by kernel_rfl) (by kernel_rfl) (fun _ _ _ h => h) hHeld (Or.inl ⟨by rfl, ?_⟩) rfl ?_
          rotate_left
          · intro wq hSw
            go_simp
            try with_reducible rfl
          simp only [List.set_cons_zero, List.set_cons_succ]
          refine take_at (v := ?_) 3 41 rfl rfl (by kernel_rfl) (by kernel_rfl) (by kernel_rfl) (fun _ _ _ h => h) hHeld (Or.inl ⟨by rfl, ?_⟩) rfl ?_
          rotate_left
          · intro wq hSw
            have hst := (Hthd.out.moved hSw.out (fun e => e.elim (fun e => HGT.out.1 e) (fun e => HGT.out.2 e))).asize
            go_simp
            try with_reducible rfl
          simp only [List.set_cons_zero, List.set_cons_succ]
          refine take_at (v := ?_) 5 43 rfl rfl (by kernel_rfl) (by kernel_rfl) (by kernel_rfl) (fun _ _ _ h => h) hHeld (Or.inl ⟨by rfl, ?_⟩) rfl ?_
          rotate_left
          · intro wq hSw
            go_simp
            try with_reducible rfl
          simp only [List.set_cons_zero, List.set_cons_succ]
          refine take_at (v := ?_) 6 44 rfl rfl (by kernel_rfl) (by kernel_rfl) (by kernel_rfl) (fun _ _ _ h => h) hHeld (Or.inl ⟨by rfl, ?_⟩) rfl ?_
          rotate_left
          · intro wq hSw
            have hst := (Hthd.out.moved hSw.out (fun e => e.elim (fun e => HGT.out.1 e) (fun e => HGT.out.2 e))).asize
            go_simp
            try with_reducible rfl
          simp only [List.set_cons_zero, List.set_cons_succ]
          refine wpAnyH_ready (rs := [4]) (by kernel_rfl) (by simp) ?_
          refine AllReadyH.cons rfl (fun K hK => ?_) AllReadyH.nil
          go_simp
          go_at_call 20; refine HIN.out.mono ?_; rintro e w6 ⟨rfl, hi6, hm6⟩
          refine hK.out _ _ (HeldM.of (hm6.mono (fun _ e => .inl e))) (fun _ => ?_)
          clear hK K
          try simp only [Act.put, List.setIfInBounds_toArray, List.set_cons_zero, List.set_cons_succ]
          refine heldM_grow (w1 := w6) (hm6.mono (fun _ e => .inl e)) ?_
          clear hHeld
          have hHeld : HeldM (fun k => k = gi ∨ outF g v k) w6 w6 := HeldM.refl _ _
          have HO6 := Lib.hid (HPd.out.read hi6 hm6).2.1
          refine wpAnyH_ready (rs := [7]) (by kernel_rfl) (by simp) ?_
          refine AllReadyH.cons rfl (fun K hK => ?_) AllReadyH.nil
          go_simp
          go_at_call 9; refine (HON.out w6 HO6.out (Nat.le_of_lt HO6.out.1.lt)).mono ?_; rintro e w7 ⟨⟨u7, rfl⟩, v7, hs7, hm7, hl7⟩
          refine hK.out _ _ (HeldM.of (hm7.mono (fun _ e => .inr e))) (fun _ => ?_)
          clear hK K
          try simp only [Act.put, List.setIfInBounds_toArray, List.set_cons_zero, List.set_cons_succ]
          refine heldM_grow (w1 := w7) (hm7.mono (fun _ e => .inr e)) ?_
          clear hHeld
          have hHeld : HeldM (fun k => k = gi ∨ outF g v k) w7 w7 := HeldM.refl _ _
          refine wpAnyH_done (by kernel_rfl) ?_ _
          have hP7 : Pair w7 gi r g v7 ((Pk.rdNum s t.size).1) (l ++ Pk.num (Pk.rdNum s t.size).2 t.size) := (HPd.out.read hi6 hm6).wrote hs7 hm7
          have hG7 : Goes lb (l ++ Pk.num (Pk.rdNum s t.size).2 t.size) ((Pk.rdNum s t.size).1) := HGO.out.num t.size
          have hL7 : (l ++ Pk.num (Pk.rdNum s t.size).2 t.size).length ≤ 4000 * (i + 1) := by rw [List.length_append]; have := HX.out; omega
          have hS7 : (Pk.left ((Pk.rdNum s t.size).1)).length ≤ 3000 := Nat.le_trans (left_rdNum _ _) HS3.out
          have hb7 : Below W.heap.size W w7 := (HWd.out.trans (hm6.below (B := W.heap.size) (fun k e => by have e' : k = gi := e; have := HGI.out; omega) HWd.out.size)).trans (hm7.below (B := W.heap.size) HFB.out (Nat.le_trans HWd.out.size hm6.size))
        case' inr.inl =>
          rw [hk] at ck
          clear hk
          have HIN := Lib.hid (inCount_any gi r s t.size HOK.out.2.1.2 w5 HP5.out.1)
          have HX := Lib.hid (show (Pk.count (Pk.rdCount s t.size).2).length ≤ 4000 from Nat.le_trans (Pk.count_le _) (by omega))
          have HON := Lib.hid (fun w6 (h : OutS g w6 g v l) (hB : g ≤ w6.heap.size) => outCount_any g g v l (Pk.rdCount s t.size).2 (by omega) w6 h hB)
          go_upto_region 17 with (first
            | (go_at_call 11; refine (HON.out w6 (HP5.out.read hi6 hm6).2.1 (Nat.le_of_lt (HP5.out.read hi6 hm6).2.1.1.lt)).mono ?_; rintro e w7 ⟨⟨u7, rfl⟩, v7, hs7, hm7, hl7⟩)
            | (go_at_call 22; refine HIN.out.mono ?_; rintro e w6 ⟨rfl, hi6, hm6⟩))
          have hP7 : Pair w7 gi r g v7 ((Pk.rdCount s t.size).1) (l ++ Pk.count (Pk.rdCount s t.size).2) := (HP5.out.read hi6 hm6).wrote hs7 hm7
          have hG7 : Goes lb (l ++ Pk.count (Pk.rdCount s t.size).2) ((Pk.rdCount s t.size).1) := HGO.out.count t.size
          have hL7 : (l ++ Pk.count (Pk.rdCount s t.size).2).length ≤ 4000 * (i + 1) := by rw [List.length_append]; have := HX.out; omega
          have hS7 : (Pk.left ((Pk.rdCount s t.size).1)).length ≤ 3000 := Nat.le_trans (left_rdCount _ _) HS3.out
          have hb7 : Below W.heap.size W w7 := (HW5.out.trans (hm6.below (B := W.heap.size) (fun k e => by have e' : k = gi := e; have := HGI.out; omega) HW5.out.size)).trans (hm7.below (B := W.heap.size) HFB.out (Nat.le_trans HW5.out.size hm6.size))
        case' inr.inr.inl =>
          rw [hk] at ck
          clear hk
          have HIN := Lib.hid (inText_any gi r s t.size HOK.out.2.1.2 w5 HP5.out.1)
          have HX := Lib.hid (show (Pk.text (Pk.rdText s t.size).2).length ≤ 4000 from text_len (by have := rdText_len s t.size; have := HS3.out; omega))
          have HON := Lib.hid (fun w6 (h : OutS g w6 g v l) (hB : g ≤ w6.heap.size) => outText_any g g v l (Pk.rdText s t.size).2 (by omega) (by have := rdText_len s t.size; have := HS3.out; omega) w6 h hB)
          go_upto_region 17 with (first
            | (go_at_call 13; refine (HON.out w6 (HP5.out.read hi6 hm6).2.1 (Nat.le_of_lt (HP5.out.read hi6 hm6).2.1.1.lt)).mono ?_; rintro e w7 ⟨⟨u7, rfl⟩, v7, hs7, hm7, hl7⟩)
            | (go_at_call 24; refine HIN.out.mono ?_; rintro e w6 ⟨rfl, hi6, hm6⟩))
          have hP7 : Pair w7 gi r g v7 ((Pk.rdText s t.size).1) (l ++ Pk.text (Pk.rdText s t.size).2) := (HP5.out.read hi6 hm6).wrote hs7 hm7
          have hG7 : Goes lb (l ++ Pk.text (Pk.rdText s t.size).2) ((Pk.rdText s t.size).1) := HGO.out.text t.size
          have hL7 : (l ++ Pk.text (Pk.rdText s t.size).2).length ≤ 4000 * (i + 1) := by rw [List.length_append]; have := HX.out; omega
          have hS7 : (Pk.left ((Pk.rdText s t.size).1)).length ≤ 3000 := Nat.le_trans (left_rdText _ _) HS3.out
          have hb7 : Below W.heap.size W w7 := (HW5.out.trans (hm6.below (B := W.heap.size) (fun k e => by have e' : k = gi := e; have := HGI.out; omega) HW5.out.size)).trans (hm7.below (B := W.heap.size) HFB.out (Nat.le_trans HW5.out.size hm6.size))
        case' inr.inr.inr =>
          have HIN := Lib.hid (inHash_any gi r s w5 HP5.out.1)
          have HX := Lib.hid (show ((Pk.rdHash s).2).length ≤ 4000 from by rw [rdHash_len' s]; omega)
          have HON := Lib.hid (fun w6 (h : OutS g w6 g v l) (hB : g ≤ w6.heap.size) => outHash_any g g v l (Pk.rdHash s).2 (by omega) (rdHash_len' s) w6 h hB)
          go_upto_region 17 with (first
            | (go_at_call 15; refine (HON.out w6 (HP5.out.read hi6 hm6).2.1 (Nat.le_of_lt (HP5.out.read hi6 hm6).2.1.1.lt)).mono ?_; rintro e w7 ⟨⟨u7, rfl⟩, v7, hs7, hm7, hl7⟩)
            | (go_at_call 26; refine HIN.out.mono ?_; rintro e w6 ⟨rfl, hi6, hm6⟩))
          have hP7 : Pair w7 gi r g v7 ((Pk.rdHash s).1) (l ++ (Pk.rdHash s).2) := (HP5.out.read hi6 hm6).wrote hs7 hm7
          have hG7 : Goes lb (l ++ (Pk.rdHash s).2) ((Pk.rdHash s).1) := HGO.out.hash
          have hL7 : (l ++ (Pk.rdHash s).2).length ≤ 4000 * (i + 1) := by rw [List.length_append]; have := HX.out; omega
          have hS7 : (Pk.left ((Pk.rdHash s).1)).length ≤ 3000 := Nat.le_trans (left_rdHash _) HS3.out
          have hb7 : Below W.heap.size W w7 := (HW5.out.trans (hm6.below (B := W.heap.size) (fun k e => by have e' : k = gi := e; have := HGI.out; omega) HW5.out.size)).trans (hm7.below (B := W.heap.size) HFB.out (Nat.le_trans HW5.out.size hm6.size))
        all_goals
          have HE7 := Lib.hid (And.intro hP7 (And.intro hG7 (And.intro hL7 (And.intro hS7 hb7))))
          clear hP7 hG7 hL7 hS7 hb7
          go_wp2
          go_roundw
          case rel => exact ⟨i + 1, _, _, _, by omega, by go_num, HE7.out.1, HE7.out.2.1, HE7.out.2.2.1, HE7.out.2.2.2.1, HE7.out.2.2.2.2⟩
          case measure => (simp [intOf]; try omega)
      · have hii : ¬ (i : Int) < (n : Int) := by omega
        have HPr0 := Lib.hid hP
        have HWr := Lib.hid hbW
        clear hP hbW hLl
        go_upto_region 18 with fail
        cases hE : Pk.atEnd s with
        | true =>
          have HE := Lib.hid hE
          obtain rfl := (HGO.out.ended hE).symm
          have HPr := Lib.hid HPr0.out
          clear hE
          obtain ⟨wd, hwd⟩ : ∃ x, x = wr.drew := ⟨_, rfl⟩
          have hmd : Below wr.heap.size wr wd := by rw [hwd]; exact (Below.refl _ _).drew
          have hWd := HWr.out.trans (hmd.mono HWr.out.size)
          have HPd := Lib.hid (HPr.out.below hmd)
          have HBd := Lib.hid (HBb.out.1.below hWd)
          have HIE := Lib.hid (inEnd_yes gi r s wd HPd.out.1 HE.out)
          have HOB := Lib.hid (outBytes_any g g v lb HLb.out wd HPd.out.2.1)
          refine wp_region_held_drew (S := Held wd) (by kernel_rfl) (by rw [hwd]; exact Held.refl _) (fun hHeld => ?_)
          rw [← hwd] at hHeld ⊢
          clear hwd
          refine take_at (v := ?_) 0 63 rfl rfl (by kernel_rfl) (by kernel_rfl) (by kernel_rfl) (fun _ _ _ h => h) hHeld (Or.inl ⟨by rfl, ?_⟩) rfl ?_
          rotate_left
          · intro wq hSw
            go_simp
            try with_reducible rfl
          simp only [List.set_cons_zero, List.set_cons_succ]
          refine wpAnyH_ready (rs := [1]) (by kernel_rfl) (by simp) ?_
          refine AllReadyH.cons rfl (fun K hK => ?_) AllReadyH.nil
          go_simp
          go_at_call 28; refine HIE.out.mono ?_; rintro e wq ⟨rfl, rfl⟩
          refine hK.out _ _ hHeld (fun _ => ?_)
          clear hK K
          try simp only [Act.put, List.setIfInBounds_toArray, List.set_cons_zero, List.set_cons_succ]
          refine take_at (v := ?_) 2 65 rfl rfl (by kernel_rfl) (by kernel_rfl) (by kernel_rfl) (fun _ _ _ h => h) hHeld (Or.inl ⟨by rfl, ?_⟩) rfl ?_
          rotate_left
          · intro wq hSw
            go_simp
            try with_reducible rfl
          simp only [List.set_cons_zero, List.set_cons_succ]
          refine take_at (v := ?_) 3 66 rfl rfl (by kernel_rfl) (by kernel_rfl) (by kernel_rfl) (fun _ _ _ h => h) hHeld (Or.inl ⟨by rfl, ?_⟩) rfl ?_
          rotate_left
          · intro wq hSw
            go_simp
            try with_reducible rfl
          simp only [List.set_cons_zero, List.set_cons_succ]
          refine take_at (v := ?_) 4 67 rfl rfl (by kernel_rfl) (by kernel_rfl) (by kernel_rfl) (fun _ _ _ h => h) hHeld (Or.inl ⟨by rfl, ?_⟩) rfl ?_
          rotate_left
          · intro wq hSw
            go_simp
            try with_reducible rfl
          simp only [List.set_cons_zero, List.set_cons_succ]
          refine take_at (v := ?_) 7 70 rfl rfl (by kernel_rfl) (by kernel_rfl) (by kernel_rfl) (fun _ _ _ h => h) hHeld (Or.inl ⟨by rfl, ?_⟩) rfl ?_
          rotate_left
          · intro wq hSw
            go_simp
            try with_reducible rfl
          simp only [List.set_cons_zero, List.set_cons_succ]
          refine take_at (v := ?_) 8 71 rfl rfl (by kernel_rfl) (by kernel_rfl) (by kernel_rfl) (fun _ _ _ h => h) hHeld (Or.inl ⟨by rfl, ?_⟩) rfl ?_
          rotate_left
          · intro wq hSw
            have hst := run_string (P := Try.prog) 26 9 5 Try.underlying26 Try.underlying5 Try.underlying9 (c := cB) (HBd.out.below hSw)
            go_simp
            try with_reducible rfl
          simp only [List.set_cons_zero, List.set_cons_succ]
          refine wpAnyH_ready (rs := [5]) (by kernel_rfl) (by simp) ?_
          refine AllReadyH.cons rfl (fun K hK => ?_) AllReadyH.nil
          go_simp
          go_at_call 17; refine HOB.out.mono ?_; rintro e wy ⟨vy, rfl, hvy, hby⟩; obtain ⟨ay, cy, rfl, _, _, hBy⟩ := hvy.shape (show lb.length = nb from HBd.out.1)
          refine hK.out _ _ (Held.of hby) (fun _ => ?_)
          clear hK K
          try simp only [Act.put, List.setIfInBounds_toArray, List.set_cons_zero, List.set_cons_succ]
          refine held_grow (w1 := wy) (Held.of hby) ?_
          clear hHeld
          have hHeld : Held wy wy := Held.refl _
          refine take_at (v := ?_) 6 69 rfl rfl (by kernel_rfl) (by kernel_rfl) (by kernel_rfl) (fun _ _ _ h => h) hHeld (Or.inl ⟨by rfl, ?_⟩) rfl ?_
          rotate_left
          · intro wq hSw
            have hst := run_string (P := Try.prog) 26 9 5 Try.underlying26 Try.underlying5 Try.underlying9 (c := cy) (hBy.below hSw)
            go_simp
            try with_reducible rfl
          simp only [List.set_cons_zero, List.set_cons_succ]
          refine take_at (v := ?_) 9 72 rfl rfl (by kernel_rfl) (by kernel_rfl) (by kernel_rfl) (fun _ _ _ h => h) hHeld (Or.inl ⟨by rfl, ?_⟩) rfl ?_
          rotate_left
          · intro wq hSw
            go_simp
            try with_reducible rfl
          simp only [List.set_cons_zero, List.set_cons_succ]
          refine take_at (v := ?_) 10 73 rfl rfl (by kernel_rfl) (by kernel_rfl) (by kernel_rfl) (fun _ _ _ h => h) hHeld (Or.inl ⟨by rfl, ?_⟩) rfl ?_
          rotate_left
          · intro wq hSw
            go_simp
            try with_reducible rfl
          simp only [List.set_cons_zero, List.set_cons_succ]
          refine wpAnyH_done (by kernel_rfl) ?_ _
          have hWy := hWd.trans (hby.mono hWd.size)
          have hz := zero_eql
          go_wp2_with (first
            | (go_at_call 30; refine (is_erro 2 rfl _).mono ?_; rintro e wq ⟨rfl, rfl⟩)
            | (go_at_call 28; refine (inEnd_none _).mono ?_; rintro e wq ⟨rfl, rfl⟩)
            | (go_at_call 27; refine (inLeft_none _).mono ?_; rintro e wq ⟨rfl, rfl⟩)
            | (go_at_call 26; refine (inHash_none' wh).mono ?_; rintro e wj ⟨rfl, hbj⟩)
            | (go_at_call 24; refine (inText_none' _).mono ?_; rintro e wq ⟨rfl, rfl⟩)
            | (go_at_call 22; refine (inCount_none _).mono ?_; rintro e wq ⟨rfl, rfl⟩)
            | (go_at_call 20; refine (inNum_none _).mono ?_; rintro e wq ⟨rfl, rfl⟩)
            | (go_at_call 17; refine (outBytes_none _).mono ?_; rintro e wq ⟨rfl, rfl⟩)
            | (go_at_call 15; refine (outHash_none _ wy).mono ?_; rintro e wh ⟨⟨uh, rfl⟩, hbh⟩)
            | (go_at_call 13; refine (outText_none _ _).mono ?_; rintro e wq ⟨⟨ut, rfl⟩, rfl⟩)
            | (go_at_call 11; refine (outCount_none _).mono ?_; rintro e wq ⟨⟨uc, rfl⟩, rfl⟩)
            | (go_at_call 9; refine (outNum_none 1#64 1 wy).mono ?_; rintro e wq ⟨⟨un, rfl⟩, rfl⟩))
          go_ret
          exact ⟨rfl, (hWy.trans (hbh.mono hWy.size)).trans (hbj.mono (Nat.le_trans hWy.size hbh.size))⟩
        | false =>
          have HE := Lib.hid hE
          have HPr := Lib.hid HPr0.out
          clear hE
          obtain ⟨wd, hwd⟩ : ∃ x, x = wr.drew := ⟨_, rfl⟩
          have hmd : Below wr.heap.size wr wd := by rw [hwd]; exact (Below.refl _ _).drew
          have hWd := HWr.out.trans (hmd.mono HWr.out.size)
          have HPd := Lib.hid (HPr.out.below hmd)
          have HIE := Lib.hid (inEnd_no gi r s wd HPd.out.1 HE.out)
          refine wp_region_held_drew (S := Held wd) (by kernel_rfl) (by rw [hwd]; exact Held.refl _) (fun hHeld => ?_)
          rw [← hwd] at hHeld ⊢
          clear hwd
          refine take_at (v := ?_) 0 63 rfl rfl (by kernel_rfl) (by kernel_rfl) (by kernel_rfl) (fun _ _ _ h => h) hHeld (Or.inl ⟨by rfl, ?_⟩) rfl ?_
          rotate_left
          · intro wq hSw
            go_simp
            try with_reducible rfl
          simp only [List.set_cons_zero, List.set_cons_succ]
          refine wpAnyH_ready (rs := [1]) (by kernel_rfl) (by simp) ?_
          refine AllReadyH.cons rfl (fun K hK => ?_) AllReadyH.nil
          go_simp
          go_at_call 28; refine HIE.out.mono ?_; rintro e wq ⟨rfl, rfl⟩
          refine hK.out _ _ hHeld (fun _ => ?_)
          clear hK K
          try simp only [Act.put, List.setIfInBounds_toArray, List.set_cons_zero, List.set_cons_succ]
          refine take_at (v := ?_) 2 65 rfl rfl (by kernel_rfl) (by kernel_rfl) (by kernel_rfl) (fun _ _ _ h => h) hHeld (Or.inl ⟨by rfl, ?_⟩) rfl ?_
          rotate_left
          · intro wq hSw
            go_simp
            try with_reducible rfl
          simp only [List.set_cons_zero, List.set_cons_succ]
          refine take_at (v := ?_) 3 66 rfl rfl (by kernel_rfl) (by kernel_rfl) (by kernel_rfl) (fun _ _ _ h => h) hHeld (Or.inl ⟨by rfl, ?_⟩) rfl ?_
          rotate_left
          · intro wq hSw
            go_simp
            try with_reducible rfl
          simp only [List.set_cons_zero, List.set_cons_succ]
          refine take_at (v := undef) 4 67 rfl rfl (by kernel_rfl) (by kernel_rfl) (by kernel_rfl) (fun _ _ _ h => h) hHeld (Or.inr ⟨by rfl, rfl⟩) rfl ?_
          simp only [List.set_cons_zero, List.set_cons_succ]
          refine take_at (v := undef) 5 68 rfl rfl (by kernel_rfl) (by kernel_rfl) (by kernel_rfl) (fun _ _ _ h => h) hHeld (Or.inr ⟨by rfl, rfl⟩) rfl ?_
          simp only [List.set_cons_zero, List.set_cons_succ]
          refine take_at (v := undef) 6 69 rfl rfl (by kernel_rfl) (by kernel_rfl) (by kernel_rfl) (fun _ _ _ h => h) hHeld (Or.inr ⟨by rfl, rfl⟩) rfl ?_
          simp only [List.set_cons_zero, List.set_cons_succ]
          refine take_at (v := undef) 7 70 rfl rfl (by kernel_rfl) (by kernel_rfl) (by kernel_rfl) (fun _ _ _ h => h) hHeld (Or.inr ⟨by rfl, rfl⟩) rfl ?_
          simp only [List.set_cons_zero, List.set_cons_succ]
          refine take_at (v := undef) 8 71 rfl rfl (by kernel_rfl) (by kernel_rfl) (by kernel_rfl) (fun _ _ _ h => h) hHeld (Or.inr ⟨by rfl, rfl⟩) rfl ?_
          simp only [List.set_cons_zero, List.set_cons_succ]
          refine take_at (v := undef) 9 72 rfl rfl (by kernel_rfl) (by kernel_rfl) (by kernel_rfl) (fun _ _ _ h => h) hHeld (Or.inr ⟨by rfl, rfl⟩) rfl ?_
          simp only [List.set_cons_zero, List.set_cons_succ]
          refine take_at (v := ?_) 10 73 rfl rfl (by kernel_rfl) (by kernel_rfl) (by kernel_rfl) (fun _ _ _ h => h) hHeld (Or.inl ⟨by rfl, ?_⟩) rfl ?_
          rotate_left
          · intro wq hSw
            go_simp
            try with_reducible rfl
          simp only [List.set_cons_zero, List.set_cons_succ]
          refine wpAnyH_done (by kernel_rfl) ?_ _
          have hWy := hWd
          obtain ⟨wy, hwy⟩ : ∃ x, x = wd := ⟨_, rfl⟩
          rw [← hwy] at hWy ⊢
          clear hwy
          have hz := zero_eql
          go_wp2_with (first
            | (go_at_call 30; refine (is_erro 2 rfl _).mono ?_; rintro e wq ⟨rfl, rfl⟩)
            | (go_at_call 28; refine (inEnd_none _).mono ?_; rintro e wq ⟨rfl, rfl⟩)
            | (go_at_call 27; refine (inLeft_none _).mono ?_; rintro e wq ⟨rfl, rfl⟩)
            | (go_at_call 26; refine (inHash_none' wh).mono ?_; rintro e wj ⟨rfl, hbj⟩)
            | (go_at_call 24; refine (inText_none' _).mono ?_; rintro e wq ⟨rfl, rfl⟩)
            | (go_at_call 22; refine (inCount_none _).mono ?_; rintro e wq ⟨rfl, rfl⟩)
            | (go_at_call 20; refine (inNum_none _).mono ?_; rintro e wq ⟨rfl, rfl⟩)
            | (go_at_call 17; refine (outBytes_none _).mono ?_; rintro e wq ⟨rfl, rfl⟩)
            | (go_at_call 15; refine (outHash_none _ wy).mono ?_; rintro e wh ⟨⟨uh, rfl⟩, hbh⟩)
            | (go_at_call 13; refine (outText_none _ _).mono ?_; rintro e wq ⟨⟨ut, rfl⟩, rfl⟩)
            | (go_at_call 11; refine (outCount_none _).mono ?_; rintro e wq ⟨⟨uc, rfl⟩, rfl⟩)
            | (go_at_call 9; refine (outNum_none 1#64 1 wy).mono ?_; rintro e wq ⟨⟨un, rfl⟩, rfl⟩))
          go_ret
          exact ⟨rfl, (hWy.trans (hbh.mono hWy.size)).trans (hbj.mono (Nat.le_trans hWy.size hbh.size))⟩
end Go.Proofs.Ytndcpclichpkaaa
