/- PackReads: the walk (mkpkrd.py) -/
import Derived.Test.YtndcpclichpkaaaPkZ
namespace Go.Proofs.Ytndcpclichpkaaa
open Go Go.RowKit Go.ChangeShapes Go.WideShapes
theorem rdHash_len (s : Pk.Rd) : (Pk.rdHash s).2.length = 32 := by
  rw [rdHash_take]
  dsimp only
  split
  · assumption
  · simp
theorem two_new {w w' : World} {a : Option Addr} {n c : Nat} {b : Bool} {hh : List (BitVec 8)} (hl : hh.length = 32)
    (h : w' = (((w.alloc (.cells #[.slice none 0 0, .bool false] 46)).alloc (.cells z32 31)).setCells w.heap.size 0 (#[.slice a n c, .bool b] : Array Value).toList).setCells (w.heap.size + 1) 0 (blist hh).toArray.toList) :
    Has w' w.heap.size 46 #[.slice a n c, .bool b] ∧ Has w' (w.heap.size + 1) 31 (blist hh).toArray ∧ Below w.heap.size w w' := by
  subst h
  have h1 : Has ((w.alloc (.cells #[.slice none 0 0, .bool false] 46)).alloc (.cells z32 31)) w.heap.size 46 #[.slice none 0 0, .bool false] := (Has.fresh _ _ _).past _
  have h2 : Has ((w.alloc (.cells #[.slice none 0 0, .bool false] 46)).alloc (.cells z32 31)) (w.heap.size + 1) 31 z32 := Has.fresh_at _ _ _ (by simp)
  have h3 : Has _ w.heap.size 46 #[.slice a n c, .bool b] := h1.whole_cs (cs2 := #[.slice a n c, .bool b]) rfl
  refine ⟨h3.asideAll (g' := w.heap.size + 1) (by omega) _ 0, (h2.asideAll (by omega) _ 0).whole_cs (by rw [List.size_toArray, blist_length, hl]; rfl), ?_⟩
  exact below_setAll (by omega) _ 0 (below_setAll (Nat.le_refl _) _ 0 (((Below.refl _ _).alloc (Nat.le_refl _) _).alloc (by simp) _))
theorem hash_two (w : World) (cs : Array Value) {hh : List (BitVec 8)} (hl : hh.length = 32) :
    (((w.alloc (.cells #[.slice none 0 0, .bool false] 46)).alloc (.cells z32 31)).setCells w.heap.size 0 cs.toList).there (w.heap.size + 1) 0 (blist hh).toArray.size ∧ (Try.prog.info? 31).map (·.size) = some (blist hh).toArray.size ∧ (blist hh).toArray.all (·.oneCell') = true := by
  have h2 : Has ((w.alloc (.cells #[.slice none 0 0, .bool false] 46)).alloc (.cells z32 31)) (w.heap.size + 1) 31 z32 := Has.fresh_at _ _ _ (by simp)
  exact ⟨(h2.asideAll (by omega) _ 0).there 0 _ (by rw [List.size_toArray, blist_length, hl]; decide), size_hash' hl, one_hash hh⟩
set_option maxRecDepth 100000 in
set_option maxHeartbeats 64000000 in
theorem packReadsWalk {H : Type} {enc : TypeId × Value → H} (W : World) (base : Nat) (v0 : Value) (d0 : DataW H) (p0 : List MemPlace) (v1 : Value) (d1 : DataW H) (p1 : List MemPlace)
    (o0 : Value.okWide Try.prog W .any base 26 v0) (o1 : Value.okWide Try.prog W .any base 22 v1)
    (h0 : DataW.Trod enc Try.prog W 0 (fun _ => true) true 26 v0 d0 p0) (h1 : DataW.Trod enc Try.prog W 0 (fun _ => true) true 22 v1 d1 p1) :
    Calls Try.prog 4 #[v0, v1] W fun e w' => e = .returned (.bool true) ∧ Below W.heap.size W w' := by
  obtain ⟨ab, nb, cB, lb, rfl, hBb, hnb, hcb0⟩ := arg_bytes Try.underlying26 Try.underlying5 (by kernel_rfl) o0 h0
  obtain ⟨a, n, c, L, rfl, hT, hnc, hc0⟩ := arg_things o1 h1
  clear o0 h0 o1 h1
  have hmx : n ≤ 9223372036854775807 := hT.2.1
  have hmb : nb ≤ 9223372036854775807 := hBb.2.1
  have HT := Lib.hid hT
  have HBb := Lib.hid (And.intro hBb (And.intro hnb hcb0))
  clear hT hc0 hBb hcb0
  go_enter Try.func4, Try.ntmps4
  by_cases hbig : (3000 : Int) < (nb : Int)
  · go_upto_region 3 with (first | (go_at_call 7; refine (alive08 W).mono ?_; rintro e w1 ⟨rfl, hb1⟩))
    go_wp2_with (go_at_call 8; refine (long_any a n c L w1 (HT.out.below hb1)).mono ?_; rintro e w2 ⟨bl, rfl, hsh, hb2⟩; clear hsh; cases bl)
    all_goals
      go_wp2
      go_ret
      exact ⟨rfl, hb1.trans (hb2.mono hb1.size)⟩
  · have hnb3 : nb ≤ 3000 := by omega
    go_upto_region 3 with (first | (go_at_call 7; refine (alive08 W).mono ?_; rintro e w1 ⟨rfl, hb1⟩))
    go_upto_if 29 with (go_at_call 8; refine (long_any a n c L w1 (HT.out.below hb1)).mono ?_; rintro e w2 ⟨bl, rfl, hsh, hb2⟩; have HSH0 := Lib.hid hsh; clear hsh; cases bl)
    rotate_left
    · go_wp2
      go_ret
      exact ⟨rfl, hb1.trans (hb2.mono hb1.size)⟩
    have HSH := Lib.hid (HSH0.out trivial)
    have hW2 := hb1.trans (hb2.mono hb1.size)
    clear hb1 hb2 HSH0
    have hn41 : n ≤ 41 := by rw [← HT.out.1]; exact HSH.out.1
    have hW2a := hW2.alloc hW2.size (.cells #[] 5)
    have HOE := Lib.hid (show OwnB 5 w2.heap.size (w2.alloc (.cells #[] 5)) (.slice (some ⟨w2.heap.size, 0, none⟩) 0 0) [] from OwnB.empty (Nat.le_refl _) (Has.fresh _ _ _))
    have HA2 := Lib.hid (HBb.out.1.below hW2a)
    have HL2 := Lib.hid (show ([] : List (BitVec 8)).length + nb ≤ 1099511627776 by simp; omega)
    go_upto_region 6 with (at_builtin; refine wpList_append_bytes rfl (.tmp 30) (.tmp 31) 26 rfl 5 Try.underlying26 info_byte w2.heap.size _ _ rfl HOE.out ab nb cB _ rfl HA2.out HBb.out.2.2 HL2.out (by simp) ?_; intro vo w3 ho3 hg3)
    have hW3 := hW2a.grown hg3 hW2a.size (fun k e => Nat.le_trans hW2.size (HOE.out.lt k e))
    have ho3' := ho3
    obtain ⟨ao, co, rfl, hoc, ho0, hBo⟩ := ho3.shape (show ([] ++ lb).length = nb from HBb.out.1.1)
    have HO3 := Lib.hid (And.intro (show OwnB 5 w2.heap.size w3 (.slice ao nb co) lb from ho3') (show Bytes8 w3 ao nb lb from hBo))
    have hco : (nb : Int) ≤ (co : Int) := by omega
    have HRD := Lib.hid (read_any ao nb co lb w3 hBo ho0 (by omega))
    clear ho3 ho3' hg3 hW2a ho0 hBo HOE HA2 HL2
    go_upto_region 7 with (first
      | (refine wpList_store_mid rfl 46 (.tmp 7) (.tmp 36) rfl w4.heap.size 0 #[.slice ab nb cB, .bool false] rfl rfl ((Has.fresh w4 46 #[.slice none 0 0, .bool false]).there 0 2 (Nat.le_refl _)) (in_size _ _) (in_one _ _ rfl rfl) ?_)
      | (go_at_call 18; refine HRD.out.mono ?_; rintro e w4 ⟨gi, r, rfl, hi4, hg4, hg4l, hr4, hb4⟩))
    obtain ⟨w5, hw5⟩ : ∃ x, x = (w4.alloc (.cells #[.slice none 0 0, .bool false] 46)).setCells w4.heap.size 0 (#[.slice ab nb cB, .bool false] : Array Value).toList := ⟨_, rfl⟩
    have hN5 : Has w5 w4.heap.size 46 #[.slice ab nb cB, .bool false] := by rw [hw5]; exact (Has.fresh w4 46 #[.slice none 0 0, .bool false]).whole_cs rfl
    have hb5 : Below w4.heap.size w4 w5 := by rw [hw5]; exact below_setAll (Nat.le_refl _) _ 0 ((Below.refl _ _).alloc (Nat.le_refl _) _)
    rw [← hw5]
    clear hw5
    have hW4 := hW3.trans (hb4.mono hW3.size)
    have hW5 := hW4.trans (hb5.mono hW4.size)
    obtain ⟨gj, hgj⟩ : ∃ x, x = w4.heap.size := ⟨_, rfl⟩
    rw [← hgj] at hN5 ⊢
    have HI5 := Lib.hid (hi4.below hb5)
    have HN5 := Lib.hid hN5
    have HO5 := Lib.hid ((HO3.out.1.below hb4).below hb5)
    have HOB := Lib.hid (show ∀ k, (Value.slice ao nb co).ownBlock = some k → w2.heap.size ≤ k ∧ k < w3.heap.size from fun k e => HO3.out.1.lt_size k e)
    have HGI := Lib.hid (show W.heap.size ≤ gi ∧ W.heap.size ≤ gj ∧ gi < gj ∧ (∀ k, r = some k → k < gi) ∧ w3.heap.size ≤ gi ∧ (∀ k, r = some k → w3.heap.size ≤ k) by
      refine ⟨?_, ?_, ?_, fun k e => (hr4 k e).2, hg4, fun k e => (hr4 k e).1⟩
      · exact Nat.le_trans hW3.size hg4
      · have := hW4.size; omega
      · omega)
    have HW5 := Lib.hid hW5
    have HW2 := Lib.hid hW2.size
    clear hN5 hi4 hb4 hb5 hg4 hg4l hr4 hgj hW4 hW5 hW3 hW2 HRD
    go_wp2_with fail
    go_loopw [39] (fun iv wr => ∃ (j : Nat) (m : List (BitVec 8)), j ≤ nb ∧ iv = .int .i64 j ∧ m.length = nb ∧ OwnB 5 w2.heap.size wr (.slice ao nb co) m ∧ Moved (fun k => (Value.slice ao nb co).ownBlock = some k) w5 wr) (fun iv _ => nb - (intOf iv).toNat)
    case atStart => exact ⟨0, lb, Nat.zero_le _, rfl, HBb.out.1.1, HO5.out, Moved.refl _ _⟩
    case round =>
      obtain ⟨j, m, hj, rfl, hml, hom, hmm⟩ := hrel
      by_cases hjlt : j < nb
      · have hjj : (j : Int) < (nb : Int) := by omega
        obtain ⟨gb, cb2, hsl, _, hBm⟩ := hom.some hml (fun e => by injection e with e1 e2 e3; omega)
        injection hsl with hs1 hs2 hs3
        subst hs1 hs3
        have hff : wr.frozen? ⟨gb, j, none⟩ = false := by
          rcases hom.2 with ⟨e, _⟩ | ⟨q, cap, cur, e, _, hh, _⟩
          · cases e
          · injection e with e1 _ _
            injection e1 with e1
            injection e1 with e1
            subst e1
            exact (show Has wr gb 5 cur from hh).loose j
        obtain ⟨y, hy, hcy⟩ := hBm.2.2 j hjlt
        injection hy with hy
        subst hy
        rw [Addr.add_mid, Nat.zero_add] at hcy
        obtain ⟨q, hq⟩ : ∃ q, q = cb m j := ⟨_, rfl⟩
        rw [← hq] at hcy
        have HOM := Lib.hid (And.intro hom (And.intro hmm hml))
        clear hom hBm hmm hml hq
        go_wp2
        go_roundw
        case rel => exact ⟨j + 1, m.set j (q ^^^ 1#8), by omega, by go_num, by rw [List.length_set]; exact HOM.out.2.2, ownB_put HOM.out.1, HOM.out.2.1.put (.inl rfl) j _⟩
        case measure => (simp [intOf]; try omega)
      · have hjj : ¬ (j : Int) < (nb : Int) := by omega
        have hWr : Below W.heap.size W wr := HW5.out.trans (hmm.below (B := W.heap.size) (fun k e => Nat.le_trans HW2.out (HOB.out k e).1) HW5.out.size)
        have hTw : Twin wr gi r gj (some lb) := ⟨HI5.out.moved hmm (fun e => by have := (HOB.out _ e).2; have := HGI.out; omega) (fun k e e' => by have := (HOB.out _ e').2; have := HGI.out.2.2.2.2.2 k e; omega),
          ⟨ab, nb, cB, false, HN5.out.moved hmm (fun e => by have := (HOB.out _ e).2; have := HGI.out; omega), ⟨_, _, _, rfl, HBb.out.1.below hWr, HBb.out.2.1, HBb.out.2.2⟩⟩, HGI.out.2.2.1, HGI.out.2.2.2.1⟩
        have hs0 : (Pk.left (some lb)).length ≤ 3000 := by show lb.length ≤ 3000; rw [HBb.out.1.1]; omega
        clear hmm hom hml hjlt hj
        go_wp2_with fail
        go_loopw [51] (fun iv wq => ∃ (i : Nat) (s : Pk.Rd), i ≤ n ∧ iv = .int .i64 i ∧ Twin wq gi r gj s ∧ (Pk.left s).length ≤ 3000 ∧ Below W.heap.size W wq) (fun iv _ => n - (intOf iv).toNat)
        case atStart => exact ⟨0, some lb, Nat.zero_le _, rfl, hTw, hs0, hWr⟩
        case round =>
          clear hTw hs0 hWr
          obtain ⟨i, s, hi, rfl, hTw, hs3, hbW⟩ := hrel
          by_cases hlt : i < n
          · have hii : (i : Int) < (n : Int) := by omega
            obtain ⟨t, ht⟩ : ∃ t, L[i]? = some t := ⟨_, List.getElem?_eq_getElem (by have := HT.out.1; omega)⟩
            have hok := HT.out.2.2.1 t (List.mem_of_getElem? ht)
            obtain ⟨x, rfl, hx⟩ := (HT.out.below hbW).load ht
            have HOK := Lib.hid hok
            clear ht hok
            go_upto_region 16 with (first
              | (refine wpList_store_mid rfl 33 (.tmp 10) (.tmp 54) rfl wr.heap.size 0 (thCells t).toArray rfl rfl (there_thing _ _ HOK.out.2.2.2) (size_thing HOK.out.2.2.2) (thCells_one t) ?_)
              | (refine wpList_load_run rfl 33 (.tmp 53) rfl _ _ rfl hx ?_))
            obtain ⟨w5, hw5⟩ : ∃ x, x = (wr.alloc (.cells zTh 33)).setCells wr.heap.size 0 (thCells t) := ⟨_, rfl⟩
            obtain ⟨hth, hb5⟩ := thing_new HOK.out.2.2.2 hw5
            rw [← hw5]
            clear hw5 hx
            obtain ⟨gt, hgt⟩ : ∃ x, x = wr.heap.size := ⟨_, rfl⟩
            rw [← hgt] at hth ⊢
            have hTw5 := hTw.below hb5
            have HGT := Lib.hid (show gi < gt ∧ gj < gt by
              obtain ⟨_, _, _, _, h2, _⟩ := hTw.1.has
              obtain ⟨_, _, _, _, h3, _⟩ := hTw.2.1
              have := h2.lt
              have := h3.lt
              omega)
            have HW5 := Lib.hid (hbW.trans (hb5.mono hbW.size))
            have HSZ := Lib.hid (show (Pk.left s).length ≤ 1000000 by omega)
            have HS3 := Lib.hid hs3
            have HTW := Lib.hid hTw5
            obtain ⟨aj0, nj0, cj0, bj0, hJ5, hvj⟩ := hTw5.2.1
            have hjl := hJ5.load_agg (P := Try.prog) (t := 46) Try.underlying46 rfl size_in
            clear hgt hTw hbW hb5 hs3 hTw5 hJ5
            have ck := hth.kind
            have c1 := hth.asize
            have hkind : t.kind = 0 ∨ t.kind = 1 ∨ t.kind = 2 ∨ (t.kind == 0) = false ∧ (t.kind == 1) = false ∧ (t.kind == 2) = false := by
              simp only [beq_eq_false_iff_ne]
              omega
            rcases hkind with hk | hk | hk | ⟨hk0, hk1, hk2⟩
            case' inl =>
              rw [hk] at ck
              clear hk
              go_upto_region 21 with (first
                | (refine wpList_store_mid rfl 46 (.tmp 12) (.tmp 74) rfl w6.heap.size 0 #[.slice a6 k6 c6, .bool b6] rfl rfl ((Has.fresh w6 46 #[.slice none 0 0, .bool false]).there 0 2 (Nat.le_refl _)) (in_size _ _) (in_one _ _ rfl rfl) ?_)
                | (refine wpList_load_run rfl 46 (.tmp 7) rfl _ _ rfl hjl ?_)
                | (go_at_call 19; refine (rreadNum_any s _ t.size w5 hvj).mono ?_; rintro e w6 ⟨⟨v6, rfl, hv6⟩, hb6⟩; have hv6' := hv6; obtain ⟨a6, k6, c6, b6, rfl, HB6⟩ := hv6'.cellsH; clear hv6'))
              obtain ⟨w7, hw7⟩ : ∃ x, x = (w6.alloc (.cells #[.slice none 0 0, .bool false] 46)).setCells w6.heap.size 0 (#[.slice a6 k6 c6, .bool b6] : Array Value).toList := ⟨_, rfl⟩
              have hN7 : Has w7 w6.heap.size 46 #[.slice a6 k6 c6, .bool b6] := by rw [hw7]; exact (Has.fresh w6 46 #[.slice none 0 0, .bool false]).whole_cs rfl
              have hb7 : Below w6.heap.size w6 w7 := by rw [hw7]; exact below_setAll (Nat.le_refl _) _ 0 ((Below.refl _ _).alloc (Nat.le_refl _) _)
              rw [← hw7]
              clear hw7
              have hb57 : Below w5.heap.size w5 w7 := hb6.trans (hb7.mono hb6.size)
              obtain ⟨gn, hgn⟩ : ∃ x, x = w6.heap.size := ⟨_, rfl⟩
              rw [← hgn] at hN7 ⊢
              have HGN := Lib.hid (show gn ≠ gi ∧ gn ≠ gj ∧ gt ≠ gi ∧ gt ≠ gj by have h1 := HTW.out.1; obtain ⟨_, _, _, _, h2, _⟩ := h1.has; obtain ⟨_, _, _, _, h3, _⟩ := HTW.out.2.1; have := h2.lt; have := h3.lt; have := hb6.size; have := HGT.out; omega)
              have HT7 := Lib.hid (HTW.out.below hb57)
              have HV7 := Lib.hid (hv6.below hb7)
              have hth7 := hth.under hb57 hth.lt
              clear hgn hv6 hb6 hb7 HB6 hjl hth
              obtain ⟨wd, hwd⟩ : ∃ x, x = w7.drew := ⟨_, rfl⟩
              have hmd : Below w7.heap.size w7 wd := by rw [hwd]; exact (Below.refl _ _).drew
              have HNd := Lib.hid (hN7.under hmd hN7.lt)
              have HTd := Lib.hid (HT7.out.below hmd)
              have HVd := Lib.hid (HV7.out.below hmd)
              have Hthd := Lib.hid (hth7.under hmd hth7.lt)
              have hb5d := hb57.trans (hmd.mono hb57.size)
              refine wp_region_held_drew (S := HeldM (fun k => k = gi ∨ k = gj) wd) (by kernel_rfl) (by rw [hwd]; exact HeldM.refl _ _) (fun hHeld => ?_)
              rw [← hwd] at hHeld ⊢
              clear hwd hN7 hth7
              refine take_at 0 76 rfl rfl (by kernel_rfl) (by kernel_rfl) (by kernel_rfl) (fun _ _ _ h => h) hHeld (yieldsIf_load_agg (by rfl) 46 (.tmp 12) rfl _ _ (by rfl) (fun wq hSw => (HNd.out.moved hSw.out (fun e => e.elim HGN.out.1 HGN.out.2.1)).load_agg (P := Try.prog) (t := 46) Try.underlying46 rfl size_in)) rfl ?_
              simp only [List.set_cons_zero, List.set_cons_succ]
              refine take_at (v := ?_) 1 77 rfl rfl (by kernel_rfl) (by kernel_rfl) (by kernel_rfl) (fun _ _ _ h => h) hHeld (Or.inl ⟨by rfl, ?_⟩) rfl ?_
              rotate_left
              · intro wq hSw
                go_simp
                try with_reducible rfl
              simp only [List.set_cons_zero, List.set_cons_succ]
              refine take_at (v := ?_) 2 78 rfl rfl (by kernel_rfl) (by kernel_rfl) (by kernel_rfl) (fun _ _ _ h => h) hHeld (Or.inl ⟨by rfl, ?_⟩) rfl ?_
              rotate_left
              · intro wq hSw
                go_simp
                try with_reducible rfl
              simp only [List.set_cons_zero, List.set_cons_succ]
              refine take_at (v := ?_) 3 79 rfl rfl (by kernel_rfl) (by kernel_rfl) (by kernel_rfl) (fun _ _ _ h => h) hHeld (Or.inl ⟨by rfl, ?_⟩) rfl ?_
              rotate_left
              · intro wq hSw
                have hst := (Hthd.out.moved hSw.out (fun e => e.elim HGN.out.2.2.1 HGN.out.2.2.2)).asize
                go_simp
                try with_reducible rfl
              simp only [List.set_cons_zero, List.set_cons_succ]
              refine take_at (v := ?_) 5 81 rfl rfl (by kernel_rfl) (by kernel_rfl) (by kernel_rfl) (fun _ _ _ h => h) hHeld (Or.inl ⟨by rfl, ?_⟩) rfl ?_
              rotate_left
              · intro wq hSw
                go_simp
                try with_reducible rfl
              simp only [List.set_cons_zero, List.set_cons_succ]
              refine wpAnyH_ready (rs := [4]) (by kernel_rfl) (by simp) ?_
              refine AllReadyH.cons rfl (fun K hK => ?_) AllReadyH.nil
              go_simp
              go_at_call 20; refine (inNum_any gi r s t.size wd HTd.out.1).mono ?_; rintro e w8 ⟨rfl, hi8, hm8⟩
              refine hK.out _ _ (HeldM.of (hm8.mono (fun _ e => .inl e))) (fun _ => ?_)
              clear hK K
              try simp only [Act.put, List.setIfInBounds_toArray, List.set_cons_zero, List.set_cons_succ]
              refine heldM_grow (w1 := w8) (hm8.mono (fun _ e => .inl e)) ?_
              clear hHeld
              have hHeld : HeldM (fun k => k = gi ∨ k = gj) w8 w8 := HeldM.refl _ _
              refine take_at (v := ?_) 6 82 rfl rfl (by kernel_rfl) (by kernel_rfl) (by kernel_rfl) (fun _ _ _ h => h) hHeld (Or.inl ⟨by rfl, ?_⟩) rfl ?_
              rotate_left
              · intro wq hSw
                go_simp
                try with_reducible rfl
              simp only [List.set_cons_zero, List.set_cons_succ]
              obtain ⟨aj, nj, cj, bj, hJd, _⟩ := HTd.out.2.1
              have hJ8 : Has w8 gj 46 #[.slice aj nj cj, .bool bj] := hJd.moved hm8 (fun e => by have e' : gj = gi := e; have := HTd.out.2.2.1; omega)
              refine wpAnyH_ready (rs := [7]) (by kernel_rfl) (by simp) ?_
              refine AllReadyH.cons rfl (fun K hK => ?_) AllReadyH.nil
              refine step_store_row (by rfl) 46 (.tmp 7) (.tmp 76) rfl gj 0 (#[.slice a6 k6 c6, .bool b6]) (by first | rfl | simp [Act.eval]) (by first | rfl | simp [Act.eval]) (hJ8.there 0 2 (Nat.le_refl _)) (in_size _ _) (in_one _ _ rfl rfl) rfl ?_
              obtain ⟨w9, hw9⟩ : ∃ ww, ww = w8.setCells gj 0 (#[.slice a6 k6 c6, .bool b6]).toList := ⟨_, rfl⟩
              rw [← hw9]
              have hmw9 : Moved (fun k => k = gi ∨ k = gj) w8 w9 := by rw [hw9]; exact Moved.putAll (F := fun k => k = gi ∨ k = gj) (.inl (.inr rfl)) _ 0 (Moved.refl _ _)
              refine hK.out _ _ (HeldM.of hmw9) (fun _ => ?_)
              clear hK K
              refine heldM_grow (w1 := w9) hmw9 ?_
              clear hHeld
              have hHeld : HeldM (fun k => k = gi ∨ k = gj) w9 w9 := HeldM.refl _ _
              refine take_at (v := ?_) 8 11 rfl rfl (by kernel_rfl) (by kernel_rfl) (by kernel_rfl) (fun _ _ _ h => h) hHeld (Or.inl ⟨by rfl, ?_⟩) rfl ?_
              rotate_left
              · intro wq hSw
                go_simp
                try with_reducible rfl
              simp only [List.set_cons_zero, List.set_cons_succ]
              refine wpAnyH_done (by kernel_rfl) ?_ _
              have hT9 := HTd.out.next HVd.out hi8 hm8 hw9
              have hb89 : Below W.heap.size W w9 := ((HW5.out.trans (hb5d.mono HW5.out.size)).trans (hm8.below (B := W.heap.size) (fun k e => by have e' : k = gi := e; have := HGI.out; omega) (HW5.out.trans (hb5d.mono HW5.out.size)).size)).trans (hmw9.below (B := W.heap.size) (fun k e => by rcases e with e | e <;> (have := HGI.out; omega)) (Nat.le_trans (HW5.out.trans (hb5d.mono HW5.out.size)).size hm8.size))
              obtain ⟨s2, hs2⟩ : ∃ s2, s2 = (Pk.rdNum s t.size).1 := ⟨_, rfl⟩
              have HS2 := Lib.hid (show (Pk.left s2).length ≤ 3000 by rw [hs2]; exact Nat.le_trans (left_rdNum _ _) HS3.out)
              rw [← hs2] at hT9
            case' inr.inl =>
              rw [hk] at ck
              clear hk
              go_upto_region 24 with (first
                | (refine wpList_store_mid rfl 46 (.tmp 14) (.tmp 90) rfl w6.heap.size 0 #[.slice a6 k6 c6, .bool b6] rfl rfl ((Has.fresh w6 46 #[.slice none 0 0, .bool false]).there 0 2 (Nat.le_refl _)) (in_size _ _) (in_one _ _ rfl rfl) ?_)
                | (refine wpList_load_run rfl 46 (.tmp 7) rfl _ _ rfl hjl ?_)
                | (go_at_call 21; refine (rreadCount_any s _ t.size HOK.out.2.1.1 HOK.out.2.1.2 HSZ.out w5 hvj).mono ?_; rintro e w6 ⟨⟨v6, rfl, hv6⟩, hb6⟩; have hv6' := hv6; obtain ⟨a6, k6, c6, b6, rfl, HB6⟩ := hv6'.cellsH; clear hv6'))
              obtain ⟨w7, hw7⟩ : ∃ x, x = (w6.alloc (.cells #[.slice none 0 0, .bool false] 46)).setCells w6.heap.size 0 (#[.slice a6 k6 c6, .bool b6] : Array Value).toList := ⟨_, rfl⟩
              have hN7 : Has w7 w6.heap.size 46 #[.slice a6 k6 c6, .bool b6] := by rw [hw7]; exact (Has.fresh w6 46 #[.slice none 0 0, .bool false]).whole_cs rfl
              have hb7 : Below w6.heap.size w6 w7 := by rw [hw7]; exact below_setAll (Nat.le_refl _) _ 0 ((Below.refl _ _).alloc (Nat.le_refl _) _)
              rw [← hw7]
              clear hw7
              have hb57 : Below w5.heap.size w5 w7 := hb6.trans (hb7.mono hb6.size)
              obtain ⟨gn, hgn⟩ : ∃ x, x = w6.heap.size := ⟨_, rfl⟩
              rw [← hgn] at hN7 ⊢
              have HGN := Lib.hid (show gn ≠ gi ∧ gn ≠ gj ∧ gt ≠ gi ∧ gt ≠ gj by have h1 := HTW.out.1; obtain ⟨_, _, _, _, h2, _⟩ := h1.has; obtain ⟨_, _, _, _, h3, _⟩ := HTW.out.2.1; have := h2.lt; have := h3.lt; have := hb6.size; have := HGT.out; omega)
              have HT7 := Lib.hid (HTW.out.below hb57)
              have HV7 := Lib.hid (hv6.below hb7)
              have hth7 := hth.under hb57 hth.lt
              clear hgn hv6 hb6 hb7 HB6 hjl hth
              obtain ⟨wd, hwd⟩ : ∃ x, x = w7.drew := ⟨_, rfl⟩
              have hmd : Below w7.heap.size w7 wd := by rw [hwd]; exact (Below.refl _ _).drew
              have HNd := Lib.hid (hN7.under hmd hN7.lt)
              have HTd := Lib.hid (HT7.out.below hmd)
              have HVd := Lib.hid (HV7.out.below hmd)
              have Hthd := Lib.hid (hth7.under hmd hth7.lt)
              have hb5d := hb57.trans (hmd.mono hb57.size)
              refine wp_region_held_drew (S := HeldM (fun k => k = gi ∨ k = gj) wd) (by kernel_rfl) (by rw [hwd]; exact HeldM.refl _ _) (fun hHeld => ?_)
              rw [← hwd] at hHeld ⊢
              clear hwd hN7 hth7
              refine take_at 0 92 rfl rfl (by kernel_rfl) (by kernel_rfl) (by kernel_rfl) (fun _ _ _ h => h) hHeld (yieldsIf_load_agg (by rfl) 46 (.tmp 14) rfl _ _ (by rfl) (fun wq hSw => (HNd.out.moved hSw.out (fun e => e.elim HGN.out.1 HGN.out.2.1)).load_agg (P := Try.prog) (t := 46) Try.underlying46 rfl size_in)) rfl ?_
              simp only [List.set_cons_zero, List.set_cons_succ]
              refine take_at (v := ?_) 1 93 rfl rfl (by kernel_rfl) (by kernel_rfl) (by kernel_rfl) (fun _ _ _ h => h) hHeld (Or.inl ⟨by rfl, ?_⟩) rfl ?_
              rotate_left
              · intro wq hSw
                go_simp
                try with_reducible rfl
              simp only [List.set_cons_zero, List.set_cons_succ]
              refine take_at (v := ?_) 2 94 rfl rfl (by kernel_rfl) (by kernel_rfl) (by kernel_rfl) (fun _ _ _ h => h) hHeld (Or.inl ⟨by rfl, ?_⟩) rfl ?_
              rotate_left
              · intro wq hSw
                go_simp
                try with_reducible rfl
              simp only [List.set_cons_zero, List.set_cons_succ]
              refine take_at (v := ?_) 3 95 rfl rfl (by kernel_rfl) (by kernel_rfl) (by kernel_rfl) (fun _ _ _ h => h) hHeld (Or.inl ⟨by rfl, ?_⟩) rfl ?_
              rotate_left
              · intro wq hSw
                have hst := (Hthd.out.moved hSw.out (fun e => e.elim HGN.out.2.2.1 HGN.out.2.2.2)).asize
                go_simp
                try with_reducible rfl
              simp only [List.set_cons_zero, List.set_cons_succ]
              refine take_at (v := ?_) 5 97 rfl rfl (by kernel_rfl) (by kernel_rfl) (by kernel_rfl) (fun _ _ _ h => h) hHeld (Or.inl ⟨by rfl, ?_⟩) rfl ?_
              rotate_left
              · intro wq hSw
                go_simp
                try with_reducible rfl
              simp only [List.set_cons_zero, List.set_cons_succ]
              refine wpAnyH_ready (rs := [4]) (by kernel_rfl) (by simp) ?_
              refine AllReadyH.cons rfl (fun K hK => ?_) AllReadyH.nil
              go_simp
              go_at_call 22; refine (inCount_any gi r s t.size HOK.out.2.1.2 wd HTd.out.1).mono ?_; rintro e w8 ⟨rfl, hi8, hm8⟩
              refine hK.out _ _ (HeldM.of (hm8.mono (fun _ e => .inl e))) (fun _ => ?_)
              clear hK K
              try simp only [Act.put, List.setIfInBounds_toArray, List.set_cons_zero, List.set_cons_succ]
              refine heldM_grow (w1 := w8) (hm8.mono (fun _ e => .inl e)) ?_
              clear hHeld
              have hHeld : HeldM (fun k => k = gi ∨ k = gj) w8 w8 := HeldM.refl _ _
              refine take_at (v := ?_) 6 98 rfl rfl (by kernel_rfl) (by kernel_rfl) (by kernel_rfl) (fun _ _ _ h => h) hHeld (Or.inl ⟨by rfl, ?_⟩) rfl ?_
              rotate_left
              · intro wq hSw
                go_simp
                try with_reducible rfl
              simp only [List.set_cons_zero, List.set_cons_succ]
              obtain ⟨aj, nj, cj, bj, hJd, _⟩ := HTd.out.2.1
              have hJ8 : Has w8 gj 46 #[.slice aj nj cj, .bool bj] := hJd.moved hm8 (fun e => by have e' : gj = gi := e; have := HTd.out.2.2.1; omega)
              refine wpAnyH_ready (rs := [7]) (by kernel_rfl) (by simp) ?_
              refine AllReadyH.cons rfl (fun K hK => ?_) AllReadyH.nil
              refine step_store_row (by rfl) 46 (.tmp 7) (.tmp 92) rfl gj 0 (#[.slice a6 k6 c6, .bool b6]) (by first | rfl | simp [Act.eval]) (by first | rfl | simp [Act.eval]) (hJ8.there 0 2 (Nat.le_refl _)) (in_size _ _) (in_one _ _ rfl rfl) rfl ?_
              obtain ⟨w9, hw9⟩ : ∃ ww, ww = w8.setCells gj 0 (#[.slice a6 k6 c6, .bool b6]).toList := ⟨_, rfl⟩
              rw [← hw9]
              have hmw9 : Moved (fun k => k = gi ∨ k = gj) w8 w9 := by rw [hw9]; exact Moved.putAll (F := fun k => k = gi ∨ k = gj) (.inl (.inr rfl)) _ 0 (Moved.refl _ _)
              refine hK.out _ _ (HeldM.of hmw9) (fun _ => ?_)
              clear hK K
              refine heldM_grow (w1 := w9) hmw9 ?_
              clear hHeld
              have hHeld : HeldM (fun k => k = gi ∨ k = gj) w9 w9 := HeldM.refl _ _
              refine take_at (v := ?_) 8 11 rfl rfl (by kernel_rfl) (by kernel_rfl) (by kernel_rfl) (fun _ _ _ h => h) hHeld (Or.inl ⟨by rfl, ?_⟩) rfl ?_
              rotate_left
              · intro wq hSw
                go_simp
                try with_reducible rfl
              simp only [List.set_cons_zero, List.set_cons_succ]
              refine wpAnyH_done (by kernel_rfl) ?_ _
              have hT9 := HTd.out.next HVd.out hi8 hm8 hw9
              have hb89 : Below W.heap.size W w9 := ((HW5.out.trans (hb5d.mono HW5.out.size)).trans (hm8.below (B := W.heap.size) (fun k e => by have e' : k = gi := e; have := HGI.out; omega) (HW5.out.trans (hb5d.mono HW5.out.size)).size)).trans (hmw9.below (B := W.heap.size) (fun k e => by rcases e with e | e <;> (have := HGI.out; omega)) (Nat.le_trans (HW5.out.trans (hb5d.mono HW5.out.size)).size hm8.size))
              obtain ⟨s2, hs2⟩ : ∃ s2, s2 = (Pk.rdCount s t.size).1 := ⟨_, rfl⟩
              have HS2 := Lib.hid (show (Pk.left s2).length ≤ 3000 by rw [hs2]; exact Nat.le_trans (left_rdCount _ _) HS3.out)
              rw [← hs2] at hT9
            case' inr.inr.inl =>
              rw [hk] at ck
              clear hk
              go_upto_region 27 with (first
                | (refine wpList_store_mid rfl 46 (.tmp 16) (.tmp 106) rfl w6.heap.size 0 #[.slice a6 k6 c6, .bool b6] rfl rfl ((Has.fresh w6 46 #[.slice none 0 0, .bool false]).there 0 2 (Nat.le_refl _)) (in_size _ _) (in_one _ _ rfl rfl) ?_)
                | (refine wpList_load_run rfl 46 (.tmp 7) rfl _ _ rfl hjl ?_)
                | (go_at_call 23; refine (rreadText_any s _ t.size HOK.out.2.1.1 HOK.out.2.1.2 HSZ.out w5 hvj).mono ?_; rintro e w6 ⟨⟨v6, rfl, hv6⟩, hb6⟩; have hv6' := hv6; obtain ⟨a6, k6, c6, b6, rfl, HB6⟩ := hv6'.cellsH; clear hv6'))
              obtain ⟨w7, hw7⟩ : ∃ x, x = (w6.alloc (.cells #[.slice none 0 0, .bool false] 46)).setCells w6.heap.size 0 (#[.slice a6 k6 c6, .bool b6] : Array Value).toList := ⟨_, rfl⟩
              have hN7 : Has w7 w6.heap.size 46 #[.slice a6 k6 c6, .bool b6] := by rw [hw7]; exact (Has.fresh w6 46 #[.slice none 0 0, .bool false]).whole_cs rfl
              have hb7 : Below w6.heap.size w6 w7 := by rw [hw7]; exact below_setAll (Nat.le_refl _) _ 0 ((Below.refl _ _).alloc (Nat.le_refl _) _)
              rw [← hw7]
              clear hw7
              have hb57 : Below w5.heap.size w5 w7 := hb6.trans (hb7.mono hb6.size)
              obtain ⟨gn, hgn⟩ : ∃ x, x = w6.heap.size := ⟨_, rfl⟩
              rw [← hgn] at hN7 ⊢
              have HGN := Lib.hid (show gn ≠ gi ∧ gn ≠ gj ∧ gt ≠ gi ∧ gt ≠ gj by have h1 := HTW.out.1; obtain ⟨_, _, _, _, h2, _⟩ := h1.has; obtain ⟨_, _, _, _, h3, _⟩ := HTW.out.2.1; have := h2.lt; have := h3.lt; have := hb6.size; have := HGT.out; omega)
              have HT7 := Lib.hid (HTW.out.below hb57)
              have HV7 := Lib.hid (hv6.below hb7)
              have hth7 := hth.under hb57 hth.lt
              clear hgn hv6 hb6 hb7 HB6 hjl hth
              obtain ⟨wd, hwd⟩ : ∃ x, x = w7.drew := ⟨_, rfl⟩
              have hmd : Below w7.heap.size w7 wd := by rw [hwd]; exact (Below.refl _ _).drew
              have HNd := Lib.hid (hN7.under hmd hN7.lt)
              have HTd := Lib.hid (HT7.out.below hmd)
              have HVd := Lib.hid (HV7.out.below hmd)
              have Hthd := Lib.hid (hth7.under hmd hth7.lt)
              have hb5d := hb57.trans (hmd.mono hb57.size)
              refine wp_region_held_drew (S := HeldM (fun k => k = gi ∨ k = gj) wd) (by kernel_rfl) (by rw [hwd]; exact HeldM.refl _ _) (fun hHeld => ?_)
              rw [← hwd] at hHeld ⊢
              clear hwd hN7 hth7
              refine take_at 0 108 rfl rfl (by kernel_rfl) (by kernel_rfl) (by kernel_rfl) (fun _ _ _ h => h) hHeld (yieldsIf_load_agg (by rfl) 46 (.tmp 16) rfl _ _ (by rfl) (fun wq hSw => (HNd.out.moved hSw.out (fun e => e.elim HGN.out.1 HGN.out.2.1)).load_agg (P := Try.prog) (t := 46) Try.underlying46 rfl size_in)) rfl ?_
              simp only [List.set_cons_zero, List.set_cons_succ]
              refine take_at (v := ?_) 1 109 rfl rfl (by kernel_rfl) (by kernel_rfl) (by kernel_rfl) (fun _ _ _ h => h) hHeld (Or.inl ⟨by rfl, ?_⟩) rfl ?_
              rotate_left
              · intro wq hSw
                go_simp
                try with_reducible rfl
              simp only [List.set_cons_zero, List.set_cons_succ]
              refine take_at (v := ?_) 2 110 rfl rfl (by kernel_rfl) (by kernel_rfl) (by kernel_rfl) (fun _ _ _ h => h) hHeld (Or.inl ⟨by rfl, ?_⟩) rfl ?_
              rotate_left
              · intro wq hSw
                go_simp
                try with_reducible rfl
              simp only [List.set_cons_zero, List.set_cons_succ]
              refine take_at (v := ?_) 3 111 rfl rfl (by kernel_rfl) (by kernel_rfl) (by kernel_rfl) (fun _ _ _ h => h) hHeld (Or.inl ⟨by rfl, ?_⟩) rfl ?_
              rotate_left
              · intro wq hSw
                have hst := (Hthd.out.moved hSw.out (fun e => e.elim HGN.out.2.2.1 HGN.out.2.2.2)).asize
                go_simp
                try with_reducible rfl
              simp only [List.set_cons_zero, List.set_cons_succ]
              refine take_at (v := ?_) 5 113 rfl rfl (by kernel_rfl) (by kernel_rfl) (by kernel_rfl) (fun _ _ _ h => h) hHeld (Or.inl ⟨by rfl, ?_⟩) rfl ?_
              rotate_left
              · intro wq hSw
                go_simp
                try with_reducible rfl
              simp only [List.set_cons_zero, List.set_cons_succ]
              refine wpAnyH_ready (rs := [4]) (by kernel_rfl) (by simp) ?_
              refine AllReadyH.cons rfl (fun K hK => ?_) AllReadyH.nil
              go_simp
              go_at_call 24; refine (inText_any gi r s t.size HOK.out.2.1.2 wd HTd.out.1).mono ?_; rintro e w8 ⟨rfl, hi8, hm8⟩
              refine hK.out _ _ (HeldM.of (hm8.mono (fun _ e => .inl e))) (fun _ => ?_)
              clear hK K
              try simp only [Act.put, List.setIfInBounds_toArray, List.set_cons_zero, List.set_cons_succ]
              refine heldM_grow (w1 := w8) (hm8.mono (fun _ e => .inl e)) ?_
              clear hHeld
              have hHeld : HeldM (fun k => k = gi ∨ k = gj) w8 w8 := HeldM.refl _ _
              refine take_at (v := ?_) 6 114 rfl rfl (by kernel_rfl) (by kernel_rfl) (by kernel_rfl) (fun _ _ _ h => h) hHeld (Or.inl ⟨by rfl, ?_⟩) rfl ?_
              rotate_left
              · intro wq hSw
                go_simp
                try with_reducible rfl
              simp only [List.set_cons_zero, List.set_cons_succ]
              obtain ⟨aj, nj, cj, bj, hJd, _⟩ := HTd.out.2.1
              have hJ8 : Has w8 gj 46 #[.slice aj nj cj, .bool bj] := hJd.moved hm8 (fun e => by have e' : gj = gi := e; have := HTd.out.2.2.1; omega)
              refine wpAnyH_ready (rs := [7]) (by kernel_rfl) (by simp) ?_
              refine AllReadyH.cons rfl (fun K hK => ?_) AllReadyH.nil
              refine step_store_row (by rfl) 46 (.tmp 7) (.tmp 108) rfl gj 0 (#[.slice a6 k6 c6, .bool b6]) (by first | rfl | simp [Act.eval]) (by first | rfl | simp [Act.eval]) (hJ8.there 0 2 (Nat.le_refl _)) (in_size _ _) (in_one _ _ rfl rfl) rfl ?_
              obtain ⟨w9, hw9⟩ : ∃ ww, ww = w8.setCells gj 0 (#[.slice a6 k6 c6, .bool b6]).toList := ⟨_, rfl⟩
              rw [← hw9]
              have hmw9 : Moved (fun k => k = gi ∨ k = gj) w8 w9 := by rw [hw9]; exact Moved.putAll (F := fun k => k = gi ∨ k = gj) (.inl (.inr rfl)) _ 0 (Moved.refl _ _)
              refine hK.out _ _ (HeldM.of hmw9) (fun _ => ?_)
              clear hK K
              refine heldM_grow (w1 := w9) hmw9 ?_
              clear hHeld
              have hHeld : HeldM (fun k => k = gi ∨ k = gj) w9 w9 := HeldM.refl _ _
              refine take_at (v := ?_) 8 11 rfl rfl (by kernel_rfl) (by kernel_rfl) (by kernel_rfl) (fun _ _ _ h => h) hHeld (Or.inl ⟨by rfl, ?_⟩) rfl ?_
              rotate_left
              · intro wq hSw
                go_simp
                try with_reducible rfl
              simp only [List.set_cons_zero, List.set_cons_succ]
              refine wpAnyH_done (by kernel_rfl) ?_ _
              have hT9 := HTd.out.next HVd.out hi8 hm8 hw9
              have hb89 : Below W.heap.size W w9 := ((HW5.out.trans (hb5d.mono HW5.out.size)).trans (hm8.below (B := W.heap.size) (fun k e => by have e' : k = gi := e; have := HGI.out; omega) (HW5.out.trans (hb5d.mono HW5.out.size)).size)).trans (hmw9.below (B := W.heap.size) (fun k e => by rcases e with e | e <;> (have := HGI.out; omega)) (Nat.le_trans (HW5.out.trans (hb5d.mono HW5.out.size)).size hm8.size))
              obtain ⟨s2, hs2⟩ : ∃ s2, s2 = (Pk.rdText s t.size).1 := ⟨_, rfl⟩
              have HS2 := Lib.hid (show (Pk.left s2).length ≤ 3000 by rw [hs2]; exact Nat.le_trans (left_rdText _ _) HS3.out)
              rw [← hs2] at hT9
            case' inr.inr.inr =>
              obtain ⟨R, hR⟩ : ∃ R, R = Pk.rdHash s := ⟨_, rfl⟩
              have hRl : R.2.length = 32 := by rw [hR]; exact rdHash_len s
              have HRR := Lib.hid hR
              have HRL := Lib.hid hRl
              have HRC := Lib.hid (rreadHash_any s (.agg #[.slice aj0 nj0 cj0, .bool bj0]) w5 hvj)
              rw [← hR] at HRC
              clear hR hRl
              obtain ⟨s', hh⟩ := R
              dsimp only at HRL
              go_upto_region 18 with (first
                | (refine wpList_store_mid rfl 31 (.tmp 19) (.tmp 61) rfl (w6.heap.size + 1) 0 (blist hh).toArray rfl rfl HT61.out.1 HT61.out.2.1 HT61.out.2.2 ?_)
                | (refine wpList_store_mid rfl 46 (.tmp 18) (.tmp 60) rfl w6.heap.size 0 #[.slice a6 k6 c6, .bool b6] rfl rfl HT60.out (in_size _ _) (in_one _ _ rfl rfl) ?_)
                | (refine wpList_load_run rfl 46 (.tmp 7) rfl _ _ rfl hjl ?_)
                | (go_at_call 25; refine HRC.out.mono ?_; rintro e w6 ⟨⟨v6, rfl, hv6⟩, hb6⟩; have hv6' := hv6; obtain ⟨a6, k6, c6, b6, rfl, HB6⟩ := hv6'.cellsH; have HT60 := Lib.hid (((Has.fresh w6 46 #[.slice none 0 0, .bool false]).past (.cells z32 31)).there 0 2 (Nat.le_refl _)); have HT61 := Lib.hid (hash_two w6 (#[.slice a6 k6 c6, .bool b6]) HRL.out); clear hv6'))
              obtain ⟨w7, hw7⟩ : ∃ x, x = (((w6.alloc (.cells #[.slice none 0 0, .bool false] 46)).alloc (.cells z32 31)).setCells w6.heap.size 0 (#[.slice a6 k6 c6, .bool b6] : Array Value).toList).setCells (w6.heap.size + 1) 0 (blist hh).toArray.toList := ⟨_, rfl⟩
              obtain ⟨hN7, hH7, hb7⟩ := two_new HRL.out hw7
              rw [← hw7]
              clear hw7
              have hb57 : Below w5.heap.size w5 w7 := hb6.trans (hb7.mono hb6.size)
              obtain ⟨gn, hgn⟩ : ∃ x, x = w6.heap.size := ⟨_, rfl⟩
              rw [← hgn] at hN7 hH7 ⊢
              obtain ⟨gh, hgh⟩ : ∃ x, x = gn + 1 := ⟨_, rfl⟩
              rw [← hgh] at hH7 ⊢
              have HGN := Lib.hid (show gn ≠ gi ∧ gn ≠ gj ∧ gh ≠ gi ∧ gh ≠ gj by have h1 := HTW.out.1; obtain ⟨_, _, _, _, h2, _⟩ := h1.has; obtain ⟨_, _, _, _, h3, _⟩ := HTW.out.2.1; have := h2.lt; have := h3.lt; have := hb6.size; have := HGT.out; omega)
              have HT7 := Lib.hid (HTW.out.below hb57)
              have HV7 := Lib.hid (hv6.below hb7)
              clear hgn hgh hv6 hb6 hb7 HB6 hjl hth HT60 HT61
              obtain ⟨wd, hwd⟩ : ∃ x, x = w7.drew := ⟨_, rfl⟩
              have hmd : Below w7.heap.size w7 wd := by rw [hwd]; exact (Below.refl _ _).drew
              have HNd := Lib.hid (hN7.under hmd hN7.lt)
              have HHd := Lib.hid (hH7.under hmd hH7.lt)
              have HTd := Lib.hid (HT7.out.below hmd)
              have HVd := Lib.hid (HV7.out.below hmd)
              have hb5d := hb57.trans (hmd.mono hb57.size)
              have HIC := Lib.hid (inHash_any gi r s wd HTd.out.1)
              rw [← HRR.out] at HIC
              refine wp_region_held_drew (S := HeldM (fun k => k = gi ∨ k = gj) wd) (by kernel_rfl) (by rw [hwd]; exact HeldM.refl _ _) (fun hHeld => ?_)
              rw [← hwd] at hHeld ⊢
              clear hwd hN7 hH7
              refine take_at 0 62 rfl rfl (by kernel_rfl) (by kernel_rfl) (by kernel_rfl) (fun _ _ _ h => h) hHeld (yieldsIf_load_agg (by rfl) 46 (.tmp 18) rfl _ _ (by rfl) (fun wq hSw => (HNd.out.moved hSw.out (fun e => e.elim HGN.out.1 HGN.out.2.1)).load_agg (P := Try.prog) (t := 46) Try.underlying46 rfl size_in)) rfl ?_
              simp only [List.set_cons_zero, List.set_cons_succ]
              refine take_at (v := ?_) 1 63 rfl rfl (by kernel_rfl) (by kernel_rfl) (by kernel_rfl) (fun _ _ _ h => h) hHeld (Or.inl ⟨by rfl, ?_⟩) rfl ?_
              rotate_left
              · intro wq hSw
                go_simp
                try with_reducible rfl
              simp only [List.set_cons_zero, List.set_cons_succ]
              refine take_at 3 65 rfl rfl (by kernel_rfl) (by kernel_rfl) (by kernel_rfl) (fun _ _ _ h => h) hHeld (yieldsIf_load_agg (by rfl) 31 (.tmp 19) rfl _ _ (by rfl) (fun wq hSw => (HHd.out.moved hSw.out (fun e => e.elim HGN.out.2.2.1 HGN.out.2.2.2)).load_agg (P := Try.prog) (t := 31) Try.underlying31 rfl (size_hash' HRL.out))) rfl ?_
              simp only [List.set_cons_zero, List.set_cons_succ]
              refine wpAnyH_ready (rs := [2]) (by kernel_rfl) (by simp) ?_
              refine AllReadyH.cons rfl (fun K hK => ?_) AllReadyH.nil
              go_simp
              go_at_call 26; refine HIC.out.mono ?_; rintro e w8 ⟨rfl, hi8, hm8⟩
              refine hK.out _ _ (HeldM.of (hm8.mono (fun _ e => .inl e))) (fun _ => ?_)
              clear hK K
              refine heldM_grow (w1 := w8) (hm8.mono (fun _ e => .inl e)) ?_
              clear hHeld
              have hHeld : HeldM (fun k => k = gi ∨ k = gj) w8 w8 := HeldM.refl _ _
              refine take_at (v := .bool true) 4 66 rfl rfl (by kernel_rfl) (by kernel_rfl) (by kernel_rfl) (fun _ _ _ h => h) hHeld (yieldsIf_eql_same (by rfl) 31 5 _ 32 (.tmp 64) (.tmp 65) rfl hh (by rfl) (by rfl) (by kernel_rfl) Try.underlying31 Try.underlying5 (by kernel_rfl) HRL.out) rfl ?_
              simp only [List.set_cons_zero, List.set_cons_succ]
              obtain ⟨aj, nj, cj, bj, hJd, _⟩ := HTd.out.2.1
              have hJ8 : Has w8 gj 46 #[.slice aj nj cj, .bool bj] := hJd.moved hm8 (fun e => by have e' : gj = gi := e; have := HTd.out.2.2.1; omega)
              refine wpAnyH_ready (rs := [5]) (by kernel_rfl) (by simp) ?_
              refine AllReadyH.cons rfl (fun K hK => ?_) AllReadyH.nil
              refine step_store_row (by rfl) 46 (.tmp 7) (.tmp 62) rfl gj 0 (#[.slice a6 k6 c6, .bool b6]) (by first | rfl | simp [Act.eval]) (by first | rfl | simp [Act.eval]) (hJ8.there 0 2 (Nat.le_refl _)) (in_size _ _) (in_one _ _ rfl rfl) rfl ?_
              obtain ⟨w9, hw9⟩ : ∃ ww, ww = w8.setCells gj 0 (#[.slice a6 k6 c6, .bool b6]).toList := ⟨_, rfl⟩
              rw [← hw9]
              have hmw9 : Moved (fun k => k = gi ∨ k = gj) w8 w9 := by rw [hw9]; exact Moved.putAll (F := fun k => k = gi ∨ k = gj) (.inl (.inr rfl)) _ 0 (Moved.refl _ _)
              refine hK.out _ _ (HeldM.of hmw9) (fun _ => ?_)
              clear hK K
              refine heldM_grow (w1 := w9) hmw9 ?_
              clear hHeld
              have hHeld : HeldM (fun k => k = gi ∨ k = gj) w9 w9 := HeldM.refl _ _
              refine take_at (v := ?_) 6 11 rfl rfl (by kernel_rfl) (by kernel_rfl) (by kernel_rfl) (fun _ _ _ h => h) hHeld (Or.inl ⟨by rfl, ?_⟩) rfl ?_
              rotate_left
              · intro wq hSw
                go_simp
                try with_reducible rfl
              simp only [List.set_cons_zero, List.set_cons_succ]
              refine wpAnyH_done (by kernel_rfl) ?_ _
              have hT9 := HTd.out.next HVd.out hi8 hm8 hw9
              have hb89 : Below W.heap.size W w9 := ((HW5.out.trans (hb5d.mono HW5.out.size)).trans (hm8.below (B := W.heap.size) (fun k e => by have e' : k = gi := e; have := HGI.out; omega) (HW5.out.trans (hb5d.mono HW5.out.size)).size)).trans (hmw9.below (B := W.heap.size) (fun k e => by rcases e with e | e <;> (have := HGI.out; omega)) (Nat.le_trans (HW5.out.trans (hb5d.mono HW5.out.size)).size hm8.size))
              obtain ⟨s2, hs2⟩ : ∃ s2, s2 = s' := ⟨_, rfl⟩
              have HS2 := Lib.hid (show (Pk.left s2).length ≤ 3000 by rw [hs2, show s' = (Pk.rdHash s).1 by rw [← HRR.out]]; exact Nat.le_trans (left_rdHash _) HS3.out)
              rw [← hs2] at hT9
            all_goals
              have HT9 := Lib.hid hT9
              have HW9 := Lib.hid hb89
              clear hT9 hb89 hs2
              cases hE : Pk.atEnd s2 with
              | true =>
                have HE := Lib.hid hE
                clear hE
                go_upto_region 28 with fail
                obtain ⟨wd, hwd⟩ : ∃ x, x = w9.drew := ⟨_, rfl⟩
                have hmd : Below w9.heap.size w9 wd := by rw [hwd]; exact (Below.refl _ _).drew
                have HT9d := Lib.hid (HT9.out.below hmd)
                obtain ⟨ae, ne, ce, be, hJe, hVe⟩ := HT9d.out.2.1
                have hne : (Pk.left s2).length = ne := by obtain ⟨_, _, _, _, e0, e1, _⟩ := hVe.cells; injection e0 with e0; simp at e0; obtain ⟨⟨rfl, rfl, rfl⟩, rfl⟩ := e0; exact e1.1
                have HJE := Lib.hid (And.intro hJe hVe)
                have HIL := Lib.hid (inLeft_any gi r s2 wd HT9d.out.1)
                rw [hne] at HIL
                clear hJe hVe hne
                have HIE := Lib.hid (inEnd_yes gi r s2 _ HT9d.out.1 HE.out)
                have HRE := Lib.hid (rend_any s2 _ wd HJE.out.2)
                rw [HE.out] at HRE
                refine wp_region_held_drew (S := Held wd) (by kernel_rfl) (by rw [hwd]; exact Held.refl _) (fun hHeld => ?_)
                rw [← hwd] at hHeld ⊢
                clear hwd
                refine take_at (v := ?_) 0 115 rfl rfl (by kernel_rfl) (by kernel_rfl) (by kernel_rfl) (fun _ _ _ h => h) hHeld (Or.inl ⟨by rfl, ?_⟩) rfl ?_
                rotate_left
                · intro wq hSw
                  go_simp
                  try with_reducible rfl
                simp only [List.set_cons_zero, List.set_cons_succ]
                refine take_at (v := ?_) 1 116 rfl rfl (by kernel_rfl) (by kernel_rfl) (by kernel_rfl) (fun _ _ _ h => h) hHeld (Or.inl ⟨by rfl, ?_⟩) rfl ?_
                rotate_left
                · intro wq hSw
                  go_simp
                  try with_reducible rfl
                simp only [List.set_cons_zero, List.set_cons_succ]
                refine take_at (v := ?_) 2 117 rfl rfl (by kernel_rfl) (by kernel_rfl) (by kernel_rfl) (fun _ _ _ h => h) hHeld (Or.inl ⟨by rfl, ?_⟩) rfl ?_
                rotate_left
                · intro wq hSw
                  go_simp
                  try with_reducible rfl
                simp only [List.set_cons_zero, List.set_cons_succ]
                refine take_at (v := ?_) 3 118 rfl rfl (by kernel_rfl) (by kernel_rfl) (by kernel_rfl) (fun _ _ _ h => h) hHeld (Or.inl ⟨by rfl, ?_⟩) rfl ?_
                rotate_left
                · intro wq hSw
                  go_simp
                  try with_reducible rfl
                simp only [List.set_cons_zero, List.set_cons_succ]
                refine take_at (v := ?_) 5 120 rfl rfl (by kernel_rfl) (by kernel_rfl) (by kernel_rfl) (fun _ _ _ h => h) hHeld (Or.inl ⟨by rfl, ?_⟩) rfl ?_
                rotate_left
                · intro wq hSw
                  go_simp
                  try with_reducible rfl
                simp only [List.set_cons_zero, List.set_cons_succ]
                refine take_at (v := ?_) 6 121 rfl rfl (by kernel_rfl) (by kernel_rfl) (by kernel_rfl) (fun _ _ _ h => h) hHeld (Or.inl ⟨by rfl, ?_⟩) rfl ?_
                rotate_left
                · intro wq hSw
                  have hst := (HJE.out.1.under hSw HJE.out.1.lt).cell_at (i := 0) (v := .slice ae ne ce) rfl
                  go_simp
                  try with_reducible rfl
                simp only [List.set_cons_zero, List.set_cons_succ]
                refine take_at (v := ?_) 7 122 rfl rfl (by kernel_rfl) (by kernel_rfl) (by kernel_rfl) (fun _ _ _ h => h) hHeld (Or.inl ⟨by rfl, ?_⟩) rfl ?_
                rotate_left
                · intro wq hSw
                  go_simp
                  try with_reducible rfl
                simp only [List.set_cons_zero, List.set_cons_succ]
                refine wpAnyH_ready (rs := [4]) (by kernel_rfl) (by simp) ?_
                refine AllReadyH.cons rfl (fun K hK => ?_) AllReadyH.nil
                go_simp
                go_at_call 27; refine HIL.out.mono ?_; rintro e wq ⟨rfl, rfl⟩
                refine hK.out _ _ hHeld (fun _ => ?_)
                clear hK K
                try simp only [Act.put, List.setIfInBounds_toArray, List.set_cons_zero, List.set_cons_succ]
                refine take_at (v := ?_) 8 123 rfl rfl (by kernel_rfl) (by kernel_rfl) (by kernel_rfl) (fun _ _ _ h => h) hHeld (Or.inl ⟨by rfl, ?_⟩) rfl ?_
                rotate_left
                · intro wq hSw
                  go_simp
                  try with_reducible rfl
                simp only [List.set_cons_zero, List.set_cons_succ]
                refine take_at (v := ?_) 9 124 rfl rfl (by kernel_rfl) (by kernel_rfl) (by kernel_rfl) (fun _ _ _ h => h) hHeld (Or.inl ⟨by rfl, ?_⟩) rfl ?_
                rotate_left
                · intro wq hSw
                  go_simp
                  try with_reducible rfl
                simp only [List.set_cons_zero, List.set_cons_succ]
                refine take_at (v := ?_) 10 125 rfl rfl (by kernel_rfl) (by kernel_rfl) (by kernel_rfl) (fun _ _ _ h => h) hHeld (Or.inl ⟨by rfl, ?_⟩) rfl ?_
                rotate_left
                · intro wq hSw
                  go_simp
                  try with_reducible rfl
                simp only [List.set_cons_zero, List.set_cons_succ]
                refine take_at (v := ?_) 11 126 rfl rfl (by kernel_rfl) (by kernel_rfl) (by kernel_rfl) (fun _ _ _ h => h) hHeld (Or.inl ⟨by rfl, ?_⟩) rfl ?_
                rotate_left
                · intro wq hSw
                  go_simp
                  try with_reducible rfl
                simp only [List.set_cons_zero, List.set_cons_succ]
                refine take_at 14 129 rfl rfl (by kernel_rfl) (by kernel_rfl) (by kernel_rfl) (fun _ _ _ h => h) hHeld (yieldsIf_load_agg (by rfl) 46 (.tmp 7) rfl _ _ (by rfl) (fun wq hSw => (HJE.out.1.under hSw HJE.out.1.lt).load_agg (P := Try.prog) (t := 46) Try.underlying46 rfl size_in)) rfl ?_
                simp only [List.set_cons_zero, List.set_cons_succ]
                refine wpAnyH_ready (rs := [12]) (by kernel_rfl) (by simp) ?_
                refine AllReadyH.cons rfl (fun K hK => ?_) AllReadyH.nil
                go_simp
                go_at_call 28; refine HIE.out.mono ?_; rintro e wq ⟨rfl, rfl⟩
                refine hK.out _ _ hHeld (fun _ => ?_)
                clear hK K
                try simp only [Act.put, List.setIfInBounds_toArray, List.set_cons_zero, List.set_cons_succ]
                refine take_at (v := ?_) 13 128 rfl rfl (by kernel_rfl) (by kernel_rfl) (by kernel_rfl) (fun _ _ _ h => h) hHeld (Or.inl ⟨by rfl, ?_⟩) rfl ?_
                rotate_left
                · intro wq hSw
                  go_simp
                  try with_reducible rfl
                simp only [List.set_cons_zero, List.set_cons_succ]
                refine wpAnyH_ready (rs := [15]) (by kernel_rfl) (by simp) ?_
                refine AllReadyH.cons rfl (fun K hK => ?_) AllReadyH.nil
                go_simp
                go_at_call 29; refine HRE.out.mono ?_; rintro e wy ⟨rfl, hby⟩
                refine hK.out _ _ (Held.of hby) (fun _ => ?_)
                clear hK K
                try simp only [Act.put, List.setIfInBounds_toArray, List.set_cons_zero, List.set_cons_succ]
                refine held_grow (w1 := wy) (Held.of hby) ?_
                clear hHeld
                have hHeld : Held wy wy := Held.refl _
                refine take_at (v := ?_) 16 131 rfl rfl (by kernel_rfl) (by kernel_rfl) (by kernel_rfl) (fun _ _ _ h => h) hHeld (Or.inl ⟨by rfl, ?_⟩) rfl ?_
                rotate_left
                · intro wq hSw
                  go_simp
                  try with_reducible rfl
                simp only [List.set_cons_zero, List.set_cons_succ]
                refine take_at (v := ?_) 17 132 rfl rfl (by kernel_rfl) (by kernel_rfl) (by kernel_rfl) (fun _ _ _ h => h) hHeld (Or.inl ⟨by rfl, ?_⟩) rfl ?_
                rotate_left
                · intro wq hSw
                  go_simp
                  try with_reducible rfl
                simp only [List.set_cons_zero, List.set_cons_succ]
                refine wpAnyH_done (by kernel_rfl) ?_ _
                go_wp2
                go_roundw
                case rel => exact ⟨i + 1, s2, by omega, by go_num, HT9d.out.below hby, HS2.out, HW9.out.trans ((hmd.trans (hby.mono hmd.size)).mono HW9.out.size)⟩
                case measure => (simp [intOf]; try omega)
              | false =>
                have HE := Lib.hid hE
                clear hE
                go_upto_region 28 with fail
                obtain ⟨wd, hwd⟩ : ∃ x, x = w9.drew := ⟨_, rfl⟩
                have hmd : Below w9.heap.size w9 wd := by rw [hwd]; exact (Below.refl _ _).drew
                have HT9d := Lib.hid (HT9.out.below hmd)
                obtain ⟨ae, ne, ce, be, hJe, hVe⟩ := HT9d.out.2.1
                have hne : (Pk.left s2).length = ne := by obtain ⟨_, _, _, _, e0, e1, _⟩ := hVe.cells; injection e0 with e0; simp at e0; obtain ⟨⟨rfl, rfl, rfl⟩, rfl⟩ := e0; exact e1.1
                have HJE := Lib.hid (And.intro hJe hVe)
                have HIL := Lib.hid (inLeft_any gi r s2 wd HT9d.out.1)
                rw [hne] at HIL
                clear hJe hVe hne
                have HIE := Lib.hid (inEnd_no gi r s2 _ HT9d.out.1 HE.out)
                have HRE := Lib.hid (rend_any s2 _ wd HJE.out.2)
                rw [HE.out] at HRE
                refine wp_region_held_drew (S := Held wd) (by kernel_rfl) (by rw [hwd]; exact Held.refl _) (fun hHeld => ?_)
                rw [← hwd] at hHeld ⊢
                clear hwd
                refine take_at (v := ?_) 0 115 rfl rfl (by kernel_rfl) (by kernel_rfl) (by kernel_rfl) (fun _ _ _ h => h) hHeld (Or.inl ⟨by rfl, ?_⟩) rfl ?_
                rotate_left
                · intro wq hSw
                  go_simp
                  try with_reducible rfl
                simp only [List.set_cons_zero, List.set_cons_succ]
                refine take_at (v := ?_) 1 116 rfl rfl (by kernel_rfl) (by kernel_rfl) (by kernel_rfl) (fun _ _ _ h => h) hHeld (Or.inl ⟨by rfl, ?_⟩) rfl ?_
                rotate_left
                · intro wq hSw
                  go_simp
                  try with_reducible rfl
                simp only [List.set_cons_zero, List.set_cons_succ]
                refine take_at (v := ?_) 2 117 rfl rfl (by kernel_rfl) (by kernel_rfl) (by kernel_rfl) (fun _ _ _ h => h) hHeld (Or.inl ⟨by rfl, ?_⟩) rfl ?_
                rotate_left
                · intro wq hSw
                  go_simp
                  try with_reducible rfl
                simp only [List.set_cons_zero, List.set_cons_succ]
                refine take_at (v := ?_) 3 118 rfl rfl (by kernel_rfl) (by kernel_rfl) (by kernel_rfl) (fun _ _ _ h => h) hHeld (Or.inl ⟨by rfl, ?_⟩) rfl ?_
                rotate_left
                · intro wq hSw
                  go_simp
                  try with_reducible rfl
                simp only [List.set_cons_zero, List.set_cons_succ]
                refine take_at (v := ?_) 5 120 rfl rfl (by kernel_rfl) (by kernel_rfl) (by kernel_rfl) (fun _ _ _ h => h) hHeld (Or.inl ⟨by rfl, ?_⟩) rfl ?_
                rotate_left
                · intro wq hSw
                  go_simp
                  try with_reducible rfl
                simp only [List.set_cons_zero, List.set_cons_succ]
                refine take_at (v := ?_) 6 121 rfl rfl (by kernel_rfl) (by kernel_rfl) (by kernel_rfl) (fun _ _ _ h => h) hHeld (Or.inl ⟨by rfl, ?_⟩) rfl ?_
                rotate_left
                · intro wq hSw
                  have hst := (HJE.out.1.under hSw HJE.out.1.lt).cell_at (i := 0) (v := .slice ae ne ce) rfl
                  go_simp
                  try with_reducible rfl
                simp only [List.set_cons_zero, List.set_cons_succ]
                refine take_at (v := ?_) 7 122 rfl rfl (by kernel_rfl) (by kernel_rfl) (by kernel_rfl) (fun _ _ _ h => h) hHeld (Or.inl ⟨by rfl, ?_⟩) rfl ?_
                rotate_left
                · intro wq hSw
                  go_simp
                  try with_reducible rfl
                simp only [List.set_cons_zero, List.set_cons_succ]
                refine wpAnyH_ready (rs := [4]) (by kernel_rfl) (by simp) ?_
                refine AllReadyH.cons rfl (fun K hK => ?_) AllReadyH.nil
                go_simp
                go_at_call 27; refine HIL.out.mono ?_; rintro e wq ⟨rfl, rfl⟩
                refine hK.out _ _ hHeld (fun _ => ?_)
                clear hK K
                try simp only [Act.put, List.setIfInBounds_toArray, List.set_cons_zero, List.set_cons_succ]
                refine take_at (v := ?_) 8 123 rfl rfl (by kernel_rfl) (by kernel_rfl) (by kernel_rfl) (fun _ _ _ h => h) hHeld (Or.inl ⟨by rfl, ?_⟩) rfl ?_
                rotate_left
                · intro wq hSw
                  go_simp
                  try with_reducible rfl
                simp only [List.set_cons_zero, List.set_cons_succ]
                refine take_at (v := ?_) 9 124 rfl rfl (by kernel_rfl) (by kernel_rfl) (by kernel_rfl) (fun _ _ _ h => h) hHeld (Or.inl ⟨by rfl, ?_⟩) rfl ?_
                rotate_left
                · intro wq hSw
                  go_simp
                  try with_reducible rfl
                simp only [List.set_cons_zero, List.set_cons_succ]
                refine take_at (v := ?_) 10 125 rfl rfl (by kernel_rfl) (by kernel_rfl) (by kernel_rfl) (fun _ _ _ h => h) hHeld (Or.inl ⟨by rfl, ?_⟩) rfl ?_
                rotate_left
                · intro wq hSw
                  go_simp
                  try with_reducible rfl
                simp only [List.set_cons_zero, List.set_cons_succ]
                refine take_at (v := ?_) 11 126 rfl rfl (by kernel_rfl) (by kernel_rfl) (by kernel_rfl) (fun _ _ _ h => h) hHeld (Or.inl ⟨by rfl, ?_⟩) rfl ?_
                rotate_left
                · intro wq hSw
                  go_simp
                  try with_reducible rfl
                simp only [List.set_cons_zero, List.set_cons_succ]
                refine take_at 14 129 rfl rfl (by kernel_rfl) (by kernel_rfl) (by kernel_rfl) (fun _ _ _ h => h) hHeld (yieldsIf_load_agg (by rfl) 46 (.tmp 7) rfl _ _ (by rfl) (fun wq hSw => (HJE.out.1.under hSw HJE.out.1.lt).load_agg (P := Try.prog) (t := 46) Try.underlying46 rfl size_in)) rfl ?_
                simp only [List.set_cons_zero, List.set_cons_succ]
                refine wpAnyH_ready (rs := [12]) (by kernel_rfl) (by simp) ?_
                refine AllReadyH.cons rfl (fun K hK => ?_) AllReadyH.nil
                go_simp
                go_at_call 28; refine HIE.out.mono ?_; rintro e wq ⟨rfl, rfl⟩
                refine hK.out _ _ hHeld (fun _ => ?_)
                clear hK K
                try simp only [Act.put, List.setIfInBounds_toArray, List.set_cons_zero, List.set_cons_succ]
                refine take_at (v := ?_) 13 128 rfl rfl (by kernel_rfl) (by kernel_rfl) (by kernel_rfl) (fun _ _ _ h => h) hHeld (Or.inl ⟨by rfl, ?_⟩) rfl ?_
                rotate_left
                · intro wq hSw
                  go_simp
                  try with_reducible rfl
                simp only [List.set_cons_zero, List.set_cons_succ]
                refine wpAnyH_ready (rs := [15]) (by kernel_rfl) (by simp) ?_
                refine AllReadyH.cons rfl (fun K hK => ?_) AllReadyH.nil
                go_simp
                go_at_call 29; refine HRE.out.mono ?_; rintro e wy ⟨rfl, hby⟩
                refine hK.out _ _ (Held.of hby) (fun _ => ?_)
                clear hK K
                try simp only [Act.put, List.setIfInBounds_toArray, List.set_cons_zero, List.set_cons_succ]
                refine held_grow (w1 := wy) (Held.of hby) ?_
                clear hHeld
                have hHeld : Held wy wy := Held.refl _
                refine take_at (v := ?_) 16 131 rfl rfl (by kernel_rfl) (by kernel_rfl) (by kernel_rfl) (fun _ _ _ h => h) hHeld (Or.inl ⟨by rfl, ?_⟩) rfl ?_
                rotate_left
                · intro wq hSw
                  go_simp
                  try with_reducible rfl
                simp only [List.set_cons_zero, List.set_cons_succ]
                refine take_at (v := ?_) 17 132 rfl rfl (by kernel_rfl) (by kernel_rfl) (by kernel_rfl) (fun _ _ _ h => h) hHeld (Or.inl ⟨by rfl, ?_⟩) rfl ?_
                rotate_left
                · intro wq hSw
                  go_simp
                  try with_reducible rfl
                simp only [List.set_cons_zero, List.set_cons_succ]
                refine wpAnyH_done (by kernel_rfl) ?_ _
                go_wp2
                go_roundw
                case rel => exact ⟨i + 1, s2, by omega, by go_num, HT9d.out.below hby, HS2.out, HW9.out.trans ((hmd.trans (hby.mono hmd.size)).mono HW9.out.size)⟩
                case measure => (simp [intOf]; try omega)
          · have hii : ¬ (i : Int) < (n : Int) := by omega
            cases hE : Pk.atEnd s with
            | true =>
              have HIE := Lib.hid (inEnd_yes gi r s _ hTw.1 hE)
              clear hE
              go_wp2_with (go_at_call 28; refine HIE.out.mono ?_; rintro e wq ⟨rfl, rfl⟩)
              go_ret
              exact ⟨rfl, hbW⟩
            | false =>
              have HIE := Lib.hid (inEnd_no gi r s _ hTw.1 hE)
              clear hE
              go_wp2_with (first
                | (go_at_call 30; refine (is_erro 2 rfl _).mono ?_; rintro e wq ⟨rfl, rfl⟩)
                | (go_at_call 28; refine HIE.out.mono ?_; rintro e wq ⟨rfl, rfl⟩))
              go_ret
              exact ⟨rfl, hbW⟩
end Go.Proofs.Ytndcpclichpkaaa
