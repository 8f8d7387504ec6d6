/- DigestRoots over the premise -/
import Derived.Test.YtopeicgcpfcccaaDoorDgK
import Derived.Test.YtopeicgcpfcccaaDoorDgB
import Derived.Test.YtopeicgcpfcccaaDoorEq
import Derived.Test.YtopeicgcpfcccaaDoorHr
import Derived.Test.YtopeicgcpfcccaaDoorAg
namespace Go.Proofs.YtopeicgcpfcccaaDoor
open Go Go.RowKit Go.ChangeShapes Go.WideShapes
theorem wp_region_post {P : Program} {id : Nat} {ops : Array Oper} {b : Bool} {Q : Exit → Act → World → Prop} {a : Act} {w : World} (R : Act → World → Prop)
    (h : (Code.region id ops b).wp P (Exit.then R (fun _ _ _ => False)) a w) (k : ∀ a' w', R a' w' → Q .normal a' w') : (Code.region id ops b).wp P Q a w :=
  Code.wp_mono (fun e s w' he => by
    cases e <;> first
      | exact k _ _ he
      | exact (he : False).elim) h
theorem Rows8.part {w : World} {y : Addr} {n : Nat} {L : List (List (BitVec 8))} (h : Rows8 32 w (some y) n L) (i m : Nat) (him : i + m ≤ n) : Rows8 32 w (some (y.add (i * 32))) m ((L.drop i).take m) := by
  refine ⟨by rw [List.length_take, List.length_drop, h.1]; omega, by have := h.2.1; omega, fun l hl => h.2.2.1 l (List.mem_of_mem_drop (List.mem_of_mem_take hl)), fun j hj => ⟨_, rfl, fun k hk => ?_⟩⟩
  obtain ⟨x, e, hx⟩ := h.2.2.2 (i + j) (by omega)
  injection e with e
  subst e
  rw [Addr.add_add, ← Nat.add_assoc, ← Nat.add_mul, hx k hk]
  congr 3
  rw [List.getD_eq_getElem?_getD, List.getD_eq_getElem?_getD, List.getElem?_take, if_pos hj, List.getElem?_drop]
theorem Dg.tree_l {L : List (List (BitVec 8))} (h : ∀ l, l ∈ L → l.length = 32) : (Dg.tree L).length = 32 := Dg.tree_len _ _ h
theorem bytes_of_hasR {w : World} {g : Nat} {T : TypeId} {l : List (BitVec 8)} (h : Has w g T (blist l).toArray) (hl : l.length = 32) : Bytes8 w (some ⟨g, 0, none⟩) 32 l :=
  ⟨hl, by unfold maxLen; omega, fun i hi => ⟨_, rfl, by
    rw [Addr.add_mid, Nat.zero_add]
    exact h.cell_at (by rw [List.getElem?_toArray]; exact blist_at l i (by omega))⟩⟩
theorem step_store_midR {P : Program} {w : World} {ops : Array Oper} {o : Oper} {a : Act} {K : Act → World → Prop} {Q : Exit → Act → World → Prop} {E : Prop} (hwt : Region.wanted o (yielded ops a.tmps) = true) (ty : TypeId) (x y : Operand) (ho : o.op = .store ty x y)
    (b off : Nat) (cells : Array Value) (hx : a.eval x = .pointer (some ⟨b, off, none⟩)) (hy : a.eval y = .agg cells) (ht : w.there b off cells.size) (hi : (P.info? ty).map (·.size) = some cells.size) (h1 : cells.all (·.oneCell') = true) (hd : o.dst = none)
    (h : K a (w.setCells b off cells.toList)) : if Region.wanted o (yielded ops a.tmps) = true then Oper.wp P o a w K Q else E := by
  rw [if_pos hwt]
  exact wp_store_mid ty x y ho b off cells hx hy ht hi h1 (by rw [hd]; exact h)
theorem step_alloc_hash {w : World} {ops : Array Oper} {o : Oper} {a : Act} {K : Act → World → Prop} {Q : Exit → Act → World → Prop} {E : Prop} (hwt : Region.wanted o (yielded ops a.tmps) = true) (ho : o.op = .alloc 25) (d : Tmp) (hd : o.dst = some d)
    (h : K (a.put (some d) (.pointer (some ⟨w.heap.size, 0, none⟩))) (w.alloc (.cells z32 25))) : if Region.wanted o (yielded ops a.tmps) = true then Oper.wp Tryd.prog o a w K Q else E := by
  rw [if_pos hwt]
  unfold Oper.wp execOp
  simp only [ho]
  go_simp
  exact h
theorem step_tree {w : World} {ops : Array Oper} {o : Oper} {a : Act} {K : Act → World → Prop} {Q : Exit → Act → World → Prop} {E : Prop} (hwt : Region.wanted o (yielded ops a.tmps) = true) (x : Tmp) (tys : Array TypeId)
    (ho : o.op = .call { callee := .value (.func 15), args := #[.tmp x], argTypes := tys }) (v r : Value) (hx : a.tmps[x]?.getD undef = v) (hc : Calls Tryd.prog 15 #[v] w fun e w' => e = .returned r ∧ Below w.heap.size w w')
    (d : Tmp) (hd : o.dst = some d) (h : ∀ w', Below w.heap.size w w' → K (a.put (some d) r) w') : if Region.wanted o (yielded ops a.tmps) = true then Oper.wp Tryd.prog o a w K Q else E := by
  rw [if_pos hwt]
  unfold Oper.wp execOp
  simp only [ho]
  go_simp
  refine hc.mono ?_
  rintro e w' ⟨rfl, hb⟩
  exact h w' hb
theorem step_double {w : World} {ops : Array Oper} {o : Oper} {a : Act} {K : Act → World → Prop} {Q : Exit → Act → World → Prop} {E : Prop} (hwt : Region.wanted o (yielded ops a.tmps) = true) (x : Tmp) (tys : Array TypeId)
    (ho : o.op = .call { callee := .value (.func 11), args := #[.tmp x], argTypes := tys }) (v r : Value) (hx : a.tmps[x]?.getD undef = v) (hc : Calls Tryd.prog 11 #[v] w fun e w' => e = .returned r ∧ Below w.heap.size w w')
    (d : Tmp) (hd : o.dst = some d) (h : ∀ w', Below w.heap.size w w' → K (a.put (some d) r) w') : if Region.wanted o (yielded ops a.tmps) = true then Oper.wp Tryd.prog o a w K Q else E := by
  rw [if_pos hwt]
  unfold Oper.wp execOp
  simp only [ho]
  go_simp
  refine hc.mono ?_
  rintro e w' ⟨rfl, hb⟩
  exact h w' hb
theorem arr_lit (xs : Array Value) (n : Nat) (h : xs.size = n) : xs = ((List.range n).map fun i => xs.getD i undef).toArray := by
  apply Array.ext'
  apply List.ext_getElem?
  intro i
  rw [Array.getElem?_toList]
  by_cases hi : i < n
  · simp [hi, h]
  · rw [Array.getElem?_eq_none (by omega), List.getElem?_eq_none (by simp; omega)]
set_option maxRecDepth 100000 in
set_option maxHeartbeats 16000000 in
theorem digestRootsWalkK {KD : World → Prop} (ok : DigestOk KD) {H : Type} {enc : TypeId × Value → H} (W : World) (base : Nat) (v0 : Value) (d0 : DataW H) (p0 : List MemPlace)
    (o0 : Value.okWide Tryd.prog W .any base 33 v0) (h0 : DataW.Trod enc Tryd.prog W 0 (fun _ => true) true 33 v0 d0 p0) (hKD : KD W) :
    Calls Tryd.prog 7 #[v0] W fun e w' => e = .returned (.bool true) ∧ Below W.heap.size W w' := by
  obtain ⟨a, n, c, L, rfl, hR, hnc, hc0⟩ := arg_rows8 Tryd.underlying33 Tryd.underlying25 Tryd.underlying5 (by kernel_rfl) (by kernel_rfl) o0 h0
  clear o0 h0
  have hmx : n ≤ 9223372036854775807 := hR.2.1
  have HR := Lib.hid (And.intro hR (And.intro hnc hc0))
  have HKD := Lib.hid hKD
  clear hR hnc hc0 hKD
  go_enter Tryd.func7, Tryd.ntmps7
  go_wp2_with (first | (go_at_call 8; refine (alive07 ok W HKD.out).mono ?_; rintro e w1 ⟨rfl, hb1⟩))
  go_loop [3] (fun v => ∃ N : Nat, (N = 1 ∨ N = 2 ∧ 2 ≤ n ∨ N = 4 ∧ 4 ≤ n ∨ N = 8 ∧ 8 ≤ n) ∧ v = .int .i64 N) (fun v => 16 - (intOf v).toNat)
  case atStart => exact ⟨1, Or.inl rfl, rfl⟩
  case round =>
    obtain ⟨N, hN, rfl⟩ := hrel
    by_cases hgo : 2 * N ≤ n ∧ N < 8
    · have hN8 : N ≤ 4 := by omega
      have hgi : (2 : Int) * (N : Int) ≤ (n : Int) := by omega
      have hgi8 : (N : Int) < 8 := by omega
      have HN := Lib.hid (And.intro hN hgo)
      clear hN hgo
      go_wp2_with fail
      go_round
      case rel => exact ⟨2 * N, by have := HN.out; omega, by go_num⟩
      case measure => have := HN.out; (simp [intOf]; try omega)
    · have HX := Lib.hid (And.intro hN hgo)
      have hN8 : N ≤ 8 := by omega
      by_cases hn0 : n = 0
      · have hNe : N = 1 := by omega
        subst hNe
        subst hn0
        have hL0 : L = [] := List.length_eq_zero_iff.1 HR.out.1.1
        have HL0 := Lib.hid hL0
        clear hN hgo hL0
        go_upto_region 7 with fail
        have HCA := Lib.hid (ok.tree a 0 c [] w1.drew (ok.stay HKD.out hb1.drew) (by have := HR.out.1.below hb1.drew; rwa [HL0.out] at this) (Nat.zero_le _) HR.out.2.2 (by omega))
        refine wp_region_held_drew (S := Held w1.drew) (by kernel_rfl) (Held.refl _) (fun hHeld => ?_)
        refine take_at (v := ?_) 0 22 rfl rfl (by kernel_rfl) (by kernel_rfl) (by kernel_rfl) (fun _ _ _ h => h) hHeld (Or.inl ⟨by rfl, ?_⟩) rfl ?_
        rotate_left
        · intro wq hSw
          go_simp
          try with_reducible rfl
        simp only [List.set_cons_zero, List.set_cons_succ]
        refine take_at (v := ?_) 1 23 rfl rfl (by kernel_rfl) (by kernel_rfl) (by kernel_rfl) (fun _ _ _ h => h) hHeld (Or.inl ⟨by rfl, ?_⟩) rfl ?_
        rotate_left
        · intro wq hSw
          go_simp
          try with_reducible rfl
        simp only [List.set_cons_zero, List.set_cons_succ]
        refine take_at (v := ?_) 2 24 rfl rfl (by kernel_rfl) (by kernel_rfl) (by kernel_rfl) (fun _ _ _ h => h) hHeld (Or.inl ⟨by rfl, ?_⟩) rfl ?_
        rotate_left
        · intro wq hSw
          go_simp
          try with_reducible rfl
        simp only [List.set_cons_zero, List.set_cons_succ]
        refine take_at (v := ?_) 3 25 rfl rfl (by kernel_rfl) (by kernel_rfl) (by kernel_rfl) (fun _ _ _ h => h) hHeld (Or.inl ⟨by rfl, ?_⟩) rfl ?_
        rotate_left
        · intro wq hSw
          go_simp
          try with_reducible rfl
        simp only [List.set_cons_zero, List.set_cons_succ]
        refine take_at (v := ?_) 4 26 rfl rfl (by kernel_rfl) (by kernel_rfl) (by kernel_rfl) (fun _ _ _ h => h) hHeld (Or.inl ⟨by rfl, ?_⟩) rfl ?_
        rotate_left
        · intro wq hSw
          go_simp
          try with_reducible rfl
        simp only [List.set_cons_zero, List.set_cons_succ]
        refine take_at (v := ?_) 6 28 rfl rfl (by kernel_rfl) (by kernel_rfl) (by kernel_rfl) (fun _ _ _ h => h) hHeld (Or.inl ⟨by rfl, ?_⟩) rfl ?_
        rotate_left
        · intro wq hSw
          go_simp
          try with_reducible rfl
        simp only [List.set_cons_zero, List.set_cons_succ]
        refine wpAnyH_ready (rs := [5]) (by kernel_rfl) (by simp) ?_
        refine AllReadyH.cons rfl (fun K hK => ?_) AllReadyH.nil
        go_simp
        go_at_call 15; refine HCA.out.mono ?_; rintro e w2 ⟨rfl, hb2⟩
        refine hK.out _ _ (Held.of hb2) (fun _ => ?_)
        clear hK K
        try simp only [Act.put, List.setIfInBounds_toArray, List.set_cons_zero, List.set_cons_succ]
        replace hHeld := Held.of hb2
        refine take_at 7 29 rfl rfl (by kernel_rfl) (by kernel_rfl) (by kernel_rfl) (fun _ _ _ h => h) hHeld (yieldsIf_eql_same (by rfl) 25 5 25 32 (.tmp 27) (.tmp 28) rfl (Dg.tree []) (by rfl) (by rfl) (by kernel_rfl) Tryd.underlying25 Tryd.underlying5 (by kernel_rfl) rfl) rfl ?_
        simp only [List.set_cons_zero, List.set_cons_succ]
        refine take_at (v := ?_) 8 30 rfl rfl (by kernel_rfl) (by kernel_rfl) (by kernel_rfl) (fun _ _ _ h => h) hHeld (Or.inl ⟨by rfl, ?_⟩) rfl ?_
        rotate_left
        · intro wq hSw
          go_simp
          try with_reducible rfl
        simp only [List.set_cons_zero, List.set_cons_succ]
        refine take_at (v := ?_) 9 31 rfl rfl (by kernel_rfl) (by kernel_rfl) (by kernel_rfl) (fun _ _ _ h => h) hHeld (Or.inl ⟨by rfl, ?_⟩) rfl ?_
        rotate_left
        · intro wq hSw
          go_simp
          try with_reducible rfl
        simp only [List.set_cons_zero, List.set_cons_succ]
        refine take_at (v := undef) 10 32 rfl rfl (by kernel_rfl) (by kernel_rfl) (by kernel_rfl) (fun _ _ _ h => h) hHeld (Or.inr ⟨by rfl, rfl⟩) rfl ?_
        simp only [List.set_cons_zero, List.set_cons_succ]
        refine take_at (v := undef) 11 33 rfl rfl (by kernel_rfl) (by kernel_rfl) (by kernel_rfl) (fun _ _ _ h => h) hHeld (Or.inr ⟨by rfl, rfl⟩) rfl ?_
        simp only [List.set_cons_zero, List.set_cons_succ]
        refine take_at (v := undef) 12 34 rfl rfl (by kernel_rfl) (by kernel_rfl) (by kernel_rfl) (fun _ _ _ h => h) hHeld (Or.inr ⟨by rfl, rfl⟩) rfl ?_
        simp only [List.set_cons_zero, List.set_cons_succ]
        refine take_at (v := undef) 13 35 rfl rfl (by kernel_rfl) (by kernel_rfl) (by kernel_rfl) (fun _ _ _ h => h) hHeld (Or.inr ⟨by rfl, rfl⟩) rfl ?_
        simp only [List.set_cons_zero, List.set_cons_succ]
        refine take_at (v := undef) 14 36 rfl rfl (by kernel_rfl) (by kernel_rfl) (by kernel_rfl) (fun _ _ _ h => h) hHeld (Or.inr ⟨by rfl, rfl⟩) rfl ?_
        simp only [List.set_cons_zero, List.set_cons_succ]
        refine take_at (v := undef) 15 37 rfl rfl (by kernel_rfl) (by kernel_rfl) (by kernel_rfl) (fun _ _ _ h => h) hHeld (Or.inr ⟨by rfl, rfl⟩) rfl ?_
        simp only [List.set_cons_zero, List.set_cons_succ]
        refine take_at (v := undef) 16 38 rfl rfl (by kernel_rfl) (by kernel_rfl) (by kernel_rfl) (fun _ _ _ h => h) hHeld (Or.inr ⟨by rfl, rfl⟩) rfl ?_
        simp only [List.set_cons_zero, List.set_cons_succ]
        refine take_at (v := undef) 17 39 rfl rfl (by kernel_rfl) (by kernel_rfl) (by kernel_rfl) (fun _ _ _ h => h) hHeld (Or.inr ⟨by rfl, rfl⟩) rfl ?_
        simp only [List.set_cons_zero, List.set_cons_succ]
        refine take_at (v := undef) 18 40 rfl rfl (by kernel_rfl) (by kernel_rfl) (by kernel_rfl) (fun _ _ _ h => h) hHeld (Or.inr ⟨by rfl, rfl⟩) rfl ?_
        simp only [List.set_cons_zero, List.set_cons_succ]
        refine take_at (v := undef) 19 41 rfl rfl (by kernel_rfl) (by kernel_rfl) (by kernel_rfl) (fun _ _ _ h => h) hHeld (Or.inr ⟨by rfl, rfl⟩) rfl ?_
        simp only [List.set_cons_zero, List.set_cons_succ]
        refine take_at (v := undef) 20 42 rfl rfl (by kernel_rfl) (by kernel_rfl) (by kernel_rfl) (fun _ _ _ h => h) hHeld (Or.inr ⟨by rfl, rfl⟩) rfl ?_
        simp only [List.set_cons_zero, List.set_cons_succ]
        refine take_at (v := ?_) 21 43 rfl rfl (by kernel_rfl) (by kernel_rfl) (by kernel_rfl) (fun _ _ _ h => h) hHeld (Or.inl ⟨by rfl, ?_⟩) rfl ?_
        rotate_left
        · intro wq hSw
          go_simp
          try with_reducible rfl
        simp only [List.set_cons_zero, List.set_cons_succ]
        refine take_at (v := ?_) 22 2 rfl rfl (by kernel_rfl) (by kernel_rfl) (by kernel_rfl) (fun _ _ _ h => h) hHeld (Or.inl ⟨by rfl, ?_⟩) rfl ?_
        rotate_left
        · intro wq hSw
          go_simp
          try with_reducible rfl
        simp only [List.set_cons_zero, List.set_cons_succ]
        refine wpAnyH_done (by kernel_rfl) ?_ _
        go_wp2_with fail
        go_ret
        exact ⟨rfl, hb1.drew.trans (hb2.mono hb1.drew.size)⟩
      · by_cases hn1 : n = 1
        · have hNe : N = 1 := by omega
          subst hNe
          subst hn1
          have hRd := HR.out.1.below hb1.drew
          obtain ⟨l, hl⟩ : ∃ l, L = [l] := by
            match L, HR.out.1.1 with
            | [l], _ => exact ⟨l, rfl⟩
          have HLL := Lib.hid (And.intro hl (show l.length = 32 from HR.out.1.2.2.1 l (by rw [hl]; simp)))
          obtain ⟨y, rfl, hx⟩ := hRd.load (P := Tryd.prog) Tryd.underlying25 (by kernel_rfl) (i := 0) (by omega)
          rw [Nat.zero_mul, Addr.add_zero', hl] at hx
          replace hx : (Instr.loadAt 25 (.pointer (some y))).run Tryd.prog w1.drew = .ok (.agg (blist l).toArray) w1.drew := hx
          have HX2 := Lib.hid (show ∀ wq, Below w1.drew.heap.size w1.drew wq → (Instr.loadAt 25 (.pointer (some y))).run Tryd.prog wq = .ok (.agg (blist l).toArray) wq from fun wq h => by
            obtain ⟨y', e, h'⟩ := (hRd.below h).load (P := Tryd.prog) Tryd.underlying25 (by kernel_rfl) (i := 0) (by omega)
            injection e with e
            subst e
            rw [Nat.zero_mul, Addr.add_zero', hl] at h'
            exact h')
          have hCB := ok.tree (some y) 1 c L w1.drew (ok.stay HKD.out hb1.drew) hRd HR.out.2.1 HR.out.2.2 (by omega)
          rw [show Dg.tree L = l by rw [hl]; rfl] at hCB
          have HCB := Lib.hid hCB
          clear hN hgo hl hx hRd hCB
          go_upto_region 7 with fail
          refine wp_region_held_drew (S := Held w1.drew) (by kernel_rfl) (Held.refl _) (fun hHeld => ?_)
          refine take_at (v := ?_) 0 22 rfl rfl (by kernel_rfl) (by kernel_rfl) (by kernel_rfl) (fun _ _ _ h => h) hHeld (Or.inl ⟨by rfl, ?_⟩) rfl ?_
          rotate_left
          · intro wq hSw
            go_simp
            try with_reducible rfl
          simp only [List.set_cons_zero, List.set_cons_succ]
          refine take_at (v := ?_) 1 23 rfl rfl (by kernel_rfl) (by kernel_rfl) (by kernel_rfl) (fun _ _ _ h => h) hHeld (Or.inl ⟨by rfl, ?_⟩) rfl ?_
          rotate_left
          · intro wq hSw
            go_simp
            try with_reducible rfl
          simp only [List.set_cons_zero, List.set_cons_succ]
          refine take_at (v := ?_) 2 24 rfl rfl (by kernel_rfl) (by kernel_rfl) (by kernel_rfl) (fun _ _ _ h => h) hHeld (Or.inl ⟨by rfl, ?_⟩) rfl ?_
          rotate_left
          · intro wq hSw
            go_simp
            try with_reducible rfl
          simp only [List.set_cons_zero, List.set_cons_succ]
          refine take_at (v := ?_) 3 25 rfl rfl (by kernel_rfl) (by kernel_rfl) (by kernel_rfl) (fun _ _ _ h => h) hHeld (Or.inl ⟨by rfl, ?_⟩) rfl ?_
          rotate_left
          · intro wq hSw
            go_simp
            try with_reducible rfl
          simp only [List.set_cons_zero, List.set_cons_succ]
          refine take_at (v := undef) 4 26 rfl rfl (by kernel_rfl) (by kernel_rfl) (by kernel_rfl) (fun _ _ _ h => h) hHeld (Or.inr ⟨by rfl, rfl⟩) rfl ?_
          simp only [List.set_cons_zero, List.set_cons_succ]
          refine take_at (v := undef) 5 27 rfl rfl (by kernel_rfl) (by kernel_rfl) (by kernel_rfl) (fun _ _ _ h => h) hHeld (Or.inr ⟨by rfl, rfl⟩) rfl ?_
          simp only [List.set_cons_zero, List.set_cons_succ]
          refine take_at (v := undef) 6 28 rfl rfl (by kernel_rfl) (by kernel_rfl) (by kernel_rfl) (fun _ _ _ h => h) hHeld (Or.inr ⟨by rfl, rfl⟩) rfl ?_
          simp only [List.set_cons_zero, List.set_cons_succ]
          refine take_at (v := undef) 7 29 rfl rfl (by kernel_rfl) (by kernel_rfl) (by kernel_rfl) (fun _ _ _ h => h) hHeld (Or.inr ⟨by rfl, rfl⟩) rfl ?_
          simp only [List.set_cons_zero, List.set_cons_succ]
          refine take_at (v := ?_) 8 30 rfl rfl (by kernel_rfl) (by kernel_rfl) (by kernel_rfl) (fun _ _ _ h => h) hHeld (Or.inl ⟨by rfl, ?_⟩) rfl ?_
          rotate_left
          · intro wq hSw
            go_simp
            try with_reducible rfl
          simp only [List.set_cons_zero, List.set_cons_succ]
          refine take_at (v := ?_) 9 31 rfl rfl (by kernel_rfl) (by kernel_rfl) (by kernel_rfl) (fun _ _ _ h => h) hHeld (Or.inl ⟨by rfl, ?_⟩) rfl ?_
          rotate_left
          · intro wq hSw
            go_simp
            try with_reducible rfl
          simp only [List.set_cons_zero, List.set_cons_succ]
          refine take_at (v := ?_) 10 32 rfl rfl (by kernel_rfl) (by kernel_rfl) (by kernel_rfl) (fun _ _ _ h => h) hHeld (Or.inl ⟨by rfl, ?_⟩) rfl ?_
          rotate_left
          · intro wq hSw
            go_simp
            try with_reducible rfl
          simp only [List.set_cons_zero, List.set_cons_succ]
          refine take_at (v := ?_) 11 33 rfl rfl (by kernel_rfl) (by kernel_rfl) (by kernel_rfl) (fun _ _ _ h => h) hHeld (Or.inl ⟨by rfl, ?_⟩) rfl ?_
          rotate_left
          · intro wq hSw
            go_simp
            try with_reducible rfl
          simp only [List.set_cons_zero, List.set_cons_succ]
          refine take_at (v := ?_) 12 34 rfl rfl (by kernel_rfl) (by kernel_rfl) (by kernel_rfl) (fun _ _ _ h => h) hHeld (Or.inl ⟨by rfl, ?_⟩) rfl ?_
          rotate_left
          · intro wq hSw
            go_simp
            try with_reducible rfl
          simp only [List.set_cons_zero, List.set_cons_succ]
          refine take_at (v := ?_) 13 35 rfl rfl (by kernel_rfl) (by kernel_rfl) (by kernel_rfl) (fun _ _ _ h => h) hHeld (Or.inl ⟨by rfl, ?_⟩) rfl ?_
          rotate_left
          · intro wq hSw
            go_simp
            try with_reducible rfl
          simp only [List.set_cons_zero, List.set_cons_succ]
          refine take_at (v := ?_) 14 36 rfl rfl (by kernel_rfl) (by kernel_rfl) (by kernel_rfl) (fun _ _ _ h => h) hHeld (Or.inl ⟨by rfl, ?_⟩) rfl ?_
          rotate_left
          · intro wq hSw
            go_simp
            try with_reducible rfl
          simp only [List.set_cons_zero, List.set_cons_succ]
          refine take_at (v := ?_) 16 38 rfl rfl (by kernel_rfl) (by kernel_rfl) (by kernel_rfl) (fun _ _ _ h => h) hHeld (Or.inl ⟨by rfl, ?_⟩) rfl ?_
          rotate_left
          · intro wq hSw
            go_simp
            try with_reducible rfl
          simp only [List.set_cons_zero, List.set_cons_succ]
          refine take_at (v := ?_) 17 39 rfl rfl (by kernel_rfl) (by kernel_rfl) (by kernel_rfl) (fun _ _ _ h => h) hHeld (Or.inl ⟨by rfl, ?_⟩) rfl ?_
          rotate_left
          · intro wq hSw
            go_simp
            try with_reducible rfl
          simp only [List.set_cons_zero, List.set_cons_succ]
          refine take_at 18 40 rfl rfl (by kernel_rfl) (by kernel_rfl) (by kernel_rfl) (fun _ _ _ h => h) hHeld (yieldsIf_load_run (by rfl) 25 (.tmp 39) rfl _ _ (by rfl) (fun wq hSw => HX2.out wq hSw.below)) rfl ?_
          simp only [List.set_cons_zero, List.set_cons_succ]
          refine wpAnyH_ready (rs := [15]) (by kernel_rfl) (by simp) ?_
          refine AllReadyH.cons rfl (fun K hK => ?_) AllReadyH.nil
          go_simp
          go_at_call 15; refine HCB.out.mono ?_; rintro e w2 ⟨rfl, hb2⟩
          refine hK.out _ _ (Held.of hb2) (fun _ => ?_)
          clear hK K
          try simp only [Act.put, List.setIfInBounds_toArray, List.set_cons_zero, List.set_cons_succ]
          replace hHeld := Held.of hb2
          refine take_at 19 41 rfl rfl (by kernel_rfl) (by kernel_rfl) (by kernel_rfl) (fun _ _ _ h => h) hHeld (yieldsIf_eql_same (by rfl) 25 5 25 32 (.tmp 37) (.tmp 40) rfl l (by rfl) (by rfl) (by kernel_rfl) Tryd.underlying25 Tryd.underlying5 (by kernel_rfl) HLL.out.2) rfl ?_
          simp only [List.set_cons_zero, List.set_cons_succ]
          refine take_at (v := ?_) 20 42 rfl rfl (by kernel_rfl) (by kernel_rfl) (by kernel_rfl) (fun _ _ _ h => h) hHeld (Or.inl ⟨by rfl, ?_⟩) rfl ?_
          rotate_left
          · intro wq hSw
            go_simp
            try with_reducible rfl
          simp only [List.set_cons_zero, List.set_cons_succ]
          refine take_at (v := ?_) 21 43 rfl rfl (by kernel_rfl) (by kernel_rfl) (by kernel_rfl) (fun _ _ _ h => h) hHeld (Or.inl ⟨by rfl, ?_⟩) rfl ?_
          rotate_left
          · intro wq hSw
            go_simp
            try with_reducible rfl
          simp only [List.set_cons_zero, List.set_cons_succ]
          refine take_at (v := ?_) 22 2 rfl rfl (by kernel_rfl) (by kernel_rfl) (by kernel_rfl) (fun _ _ _ h => h) hHeld (Or.inl ⟨by rfl, ?_⟩) rfl ?_
          rotate_left
          · intro wq hSw
            go_simp
            try with_reducible rfl
          simp only [List.set_cons_zero, List.set_cons_succ]
          refine wpAnyH_done (by kernel_rfl) ?_ _
          go_wp2_with fail
          go_ret
          exact ⟨rfl, hb1.drew.trans (hb2.mono hb1.drew.size)⟩
        · by_cases hc2 : 2 * N ≤ n
          · have hgi : (2 : Int) * (N : Int) ≤ (n : Int) := by omega
            have hg8 : ¬ ((N : Int) < 8) := by omega
            have hN2 : N = 2 ∨ N = 4 ∨ N = 8 := by omega
            have hNn : N ≤ n := by omega
            obtain ⟨h, hh⟩ : ∃ h, h = N / 2 := ⟨_, rfl⟩
            have hN2h : N = 2 * h := by omega
            have hh4 : h ≤ 4 := by omega
            have hh1 : 1 ≤ h := by omega
            obtain ⟨y, rfl, _⟩ := HR.out.1.2.2.2 0 (by omega)
            have hnc := HR.out.2.1
            have hq1 : (N : Int).tdiv 2 = (h : Int) := by rw [hh]; rfl
            have hq2 : (N : Int) / 2 = (h : Int) := by omega
            have hh0 : (0 : Int) ≤ (h : Int) := by omega
            have hhw : IntKind.i64.wrap (h : Int) = (h : Int) := IntWalk.i64_in _ (by omega)
            have hhc : (h : Int) ≤ (c : Int) := by omega
            have hhN : (h : Int) ≤ (N : Int) := by omega
            have hNc : (N : Int) ≤ (c : Int) := by omega
            have hN0 : (0 : Int) ≤ (N : Int) := by omega
            have hn2i : ¬ ((n : Int) < 2) := by omega
            have hNh : N - h = h := by omega
            have hcz : ¬ (c = 0) := by omega
            have hch : ¬ (c = h) := by omega
            have hAL : ∀ l, l ∈ L → l.length = 32 := HR.out.1.2.2.1
            obtain ⟨SA, hSA⟩ : ∃ s, s = Dg.tree ((L.drop 0).take h) := ⟨_, rfl⟩
            obtain ⟨SB, hSB⟩ : ∃ s, s = Dg.tree ((L.drop h).take h) := ⟨_, rfl⟩
            obtain ⟨D, hD⟩ : ∃ s, s = Dg.double (SA ++ SB) := ⟨_, rfl⟩
            have hAl : SA.length = 32 := by rw [hSA]; exact Dg.tree_l fun l hl => hAL l (List.mem_of_mem_drop (List.mem_of_mem_take hl))
            have hBl : SB.length = 32 := by rw [hSB]; exact Dg.tree_l fun l hl => hAL l (List.mem_of_mem_drop (List.mem_of_mem_take hl))
            have hDl : D.length = 32 := by rw [hD]; exact Dg.double_len _
            have hSC : Dg.tree ((L.drop 0).take N) = D := by
              have hl : ((L.drop 0).take N).length = N := by rw [List.length_take, List.length_drop, HR.out.1.1]; omega
              rw [Dg.tree_half hN2 hl, hD, hSA, hSB, ← hh]
              congr 3
              · rw [List.take_take, Nat.min_eq_left (by omega)]
              · rw [List.drop_take, hNh]; rfl
            have hTA : ∀ w', Below W.heap.size W w' → Calls Tryd.prog 15 #[.slice (some y) h c] w' fun e w'' => e = .returned (.agg (blist SA).toArray) ∧ Below w'.heap.size w' w'' := fun w' hb => by
              have hp := (HR.out.1.below hb).part 0 h (by omega)
              rw [Nat.zero_mul, Addr.add_zero'] at hp
              rw [hSA]
              exact ok.tree (some y) h c _ w' (ok.stay HKD.out hb) hp (by omega) (fun e => by cases e) (by omega)
            have hTB : ∀ w', Below W.heap.size W w' → Calls Tryd.prog 15 #[.slice (some (y.add (h * 32))) h (c - h)] w' fun e w'' => e = .returned (.agg (blist SB).toArray) ∧ Below w'.heap.size w' w'' := fun w' hb => by
              have hp := (HR.out.1.below hb).part h h (by omega)
              rw [hSB]
              exact ok.tree _ h (c - h) _ w' (ok.stay HKD.out hb) hp (by omega) (fun e => by cases e) (by omega)
            have hTC : ∀ w', Below W.heap.size W w' → Calls Tryd.prog 15 #[.slice (some y) N c] w' fun e w'' => e = .returned (.agg (blist D).toArray) ∧ Below w'.heap.size w' w'' := fun w' hb => by
              have hp := (HR.out.1.below hb).part 0 N (by omega)
              rw [Nat.zero_mul, Addr.add_zero'] at hp
              rw [← hSC]
              exact ok.tree (some y) N c _ w' (ok.stay HKD.out hb) hp (by omega) (fun e => by cases e) (by omega)
            have hDD : ∀ (b : Addr) w', Below W.heap.size W w' → Parts w' (some b) 2 [SA, SB] → Calls Tryd.prog 11 #[.slice (some b) 2 2] w' fun e w'' => e = .returned (.agg (blist D).toArray) ∧ Below w'.heap.size w' w'' := fun b w' hb hP => by
              have := ok.double (some b) 2 2 [SA, SB] w' (ok.stay HKD.out hb) hP (Nat.le_refl _) (fun e => by cases e) (by omega) (by simp [hAl, hBl])
              rwa [show [SA, SB].flatten = SA ++ SB by simp, ← hD] at this
            have HC := Lib.hid (And.intro hTA (And.intro hTB (And.intro hTC hDD)))
            have HLS := Lib.hid (And.intro hAl (And.intro hBl hDl))
            have HG := Lib.hid (And.intro hgo (And.intro hN2 (And.intro hNn hN2h)))
            have HC2 := Lib.hid hc2
            clear hTA hTB hTC hDD hAl hBl hDl hSC hSA hSB hD hAL hnc hgo hN hN2 hN2h hh hNn hn0 hn1 hc2
            go_upto_region 8 with fail
            refine wp_region_post (fun a' w' => ∃ gA gB : Nat, a'.defers = [] ∧ a'.tmps.size = 64 ∧ a'.tmps.getD 0 undef = .slice (some y) n c ∧ a'.tmps.getD 3 undef = .int .i64 (N : Int) ∧ a'.tmps.getD 4 undef = .pointer (some ⟨gA, 0, none⟩) ∧ a'.tmps.getD 5 undef = .pointer (some ⟨gB, 0, none⟩) ∧ Has w' gA 25 (blist SA).toArray ∧ Has w' gB 25 (blist SB).toArray ∧ Below W.heap.size W w') ?_ ?_
            · refine wp_region_held_drew (S := fun _ => True) (by kernel_rfl) trivial (fun hHeld => ?_)
              obtain ⟨wd, hwd⟩ : ∃ x, x = w1.drew := ⟨_, rfl⟩
              rw [← hwd]
              have hBwd : Below W.heap.size W wd := by rw [hwd]; exact hb1.drew
              clear hwd
              refine take_at (v := ?_) 0 44 rfl rfl (by kernel_rfl) (by kernel_rfl) (by kernel_rfl) (fun _ _ _ h => h) hHeld (Or.inl ⟨by rfl, ?_⟩) rfl ?_
              rotate_left
              · intro wq hSw
                go_simp
                try with_reducible rfl
              simp only [List.set_cons_zero, List.set_cons_succ]
              refine take_at (v := ?_) 1 45 rfl rfl (by kernel_rfl) (by kernel_rfl) (by kernel_rfl) (fun _ _ _ h => h) hHeld (Or.inl ⟨by rfl, ?_⟩) rfl ?_
              rotate_left
              · intro wq hSw
                go_simp
                try with_reducible rfl
              simp only [List.set_cons_zero, List.set_cons_succ]
              refine take_at (v := ?_) 2 46 rfl rfl (by kernel_rfl) (by kernel_rfl) (by kernel_rfl) (fun _ _ _ h => h) hHeld (Or.inl ⟨by rfl, ?_⟩) rfl ?_
              rotate_left
              · intro wq hSw
                go_simp
                try with_reducible rfl
              simp only [List.set_cons_zero, List.set_cons_succ]
              refine take_at (v := ?_) 3 47 rfl rfl (by kernel_rfl) (by kernel_rfl) (by kernel_rfl) (fun _ _ _ h => h) hHeld (Or.inl ⟨by rfl, ?_⟩) rfl ?_
              rotate_left
              · intro wq hSw
                go_simp
                try with_reducible rfl
              simp only [List.set_cons_zero, List.set_cons_succ]
              refine take_at (v := ?_) 5 49 rfl rfl (by kernel_rfl) (by kernel_rfl) (by kernel_rfl) (fun _ _ _ h => h) hHeld (Or.inl ⟨by rfl, ?_⟩) rfl ?_
              rotate_left
              · intro wq hSw
                go_simp
                try with_reducible rfl
              simp only [List.set_cons_zero, List.set_cons_succ]
              refine take_at (v := ?_) 6 50 rfl rfl (by kernel_rfl) (by kernel_rfl) (by kernel_rfl) (fun _ _ _ h => h) hHeld (Or.inl ⟨by rfl, ?_⟩) rfl ?_
              rotate_left
              · intro wq hSw
                go_simp
                try with_reducible rfl
              simp only [List.set_cons_zero, List.set_cons_succ]
              refine take_at (v := ?_) 7 51 rfl rfl (by kernel_rfl) (by kernel_rfl) (by kernel_rfl) (fun _ _ _ h => h) hHeld (Or.inl ⟨by rfl, ?_⟩) rfl ?_
              rotate_left
              · intro wq hSw
                go_simp
                try with_reducible rfl
              simp only [List.set_cons_zero, List.set_cons_succ]
              refine take_at (v := ?_) 8 52 rfl rfl (by kernel_rfl) (by kernel_rfl) (by kernel_rfl) (fun _ _ _ h => h) hHeld (Or.inl ⟨by rfl, ?_⟩) rfl ?_
              rotate_left
              · intro wq hSw
                go_simp
                try with_reducible rfl
              simp only [List.set_cons_zero, List.set_cons_succ]
              refine take_at (v := ?_) 9 53 rfl rfl (by kernel_rfl) (by kernel_rfl) (by kernel_rfl) (fun _ _ _ h => h) hHeld (Or.inl ⟨by rfl, ?_⟩) rfl ?_
              rotate_left
              · intro wq hSw
                go_simp
                try with_reducible rfl
              simp only [List.set_cons_zero, List.set_cons_succ]
              clear hq1 hq2 hh0 hhc hhN hNc hN0 hNh hcz hch hgi
              refine wpAnyH_ready (rs := [4, 11, 12]) (by kernel_rfl) (by simp) ?_
              refine AllReadyH.cons rfl (fun K hK => ?_) (AllReadyH.cons rfl (fun K hK => ?_) (AllReadyH.cons rfl (fun K hK => ?_) (AllReadyH.nil)))
              · refine step_tree (by kernel_rfl) 47 _ rfl _ _ (by kernel_rfl) (HC.out.1 wd hBwd) _ rfl ?_
                intro wx0 hbwx0
                have hBwx0 := hBwd.trans (hbwx0.mono hBwd.size)
                refine hK.out _ _ trivial (fun _ => ?_)
                clear hK K
                simp only [Act.put, List.setIfInBounds_toArray, List.set_cons_zero, List.set_cons_succ]
                refine wpAnyH_ready (rs := [10, 11, 12]) (by kernel_rfl) (by simp) ?_
                refine AllReadyH.cons rfl (fun K hK => ?_) (AllReadyH.cons rfl (fun K hK => ?_) (AllReadyH.cons rfl (fun K hK => ?_) (AllReadyH.nil)))
                · refine step_tree (by kernel_rfl) 53 _ rfl _ _ (by kernel_rfl) (HC.out.2.1 wx0 hBwx0) _ rfl ?_
                  intro wx1 hbwx1
                  have hBwx1 := hBwx0.trans (hbwx1.mono hBwx0.size)
                  refine hK.out _ _ trivial (fun _ => ?_)
                  clear hK K
                  simp only [Act.put, List.setIfInBounds_toArray, List.set_cons_zero, List.set_cons_succ]
                  refine wpAnyH_ready (rs := [11, 12]) (by kernel_rfl) (by simp) ?_
                  refine AllReadyH.cons rfl (fun K hK => ?_) (AllReadyH.cons rfl (fun K hK => ?_) (AllReadyH.nil))
                  · refine step_alloc_hash (by kernel_rfl) rfl _ rfl ?_
                    obtain ⟨wx2, hwwx2⟩ : ∃ x, x = wx1.alloc (.cells z32 25) := ⟨_, rfl⟩
                    obtain ⟨gA, hgA⟩ : ∃ x, x = wx1.heap.size := ⟨_, rfl⟩
                    rw [← hwwx2, ← hgA]
                    have hBwx2 : Below W.heap.size W wx2 := by rw [hwwx2]; exact hBwx1.alloc hBwx1.size _
                    have hZgAwx2 : Has wx2 gA 25 z32 := by rw [hwwx2, hgA]; exact Has.fresh _ _ _
                    have hLgA : W.heap.size ≤ gA := by rw [hgA]; exact hBwx1.size
                    clear hwwx2 hgA
                    refine hK.out _ _ trivial (fun _ => ?_)
                    clear hK K
                    simp only [Act.put, List.setIfInBounds_toArray, List.set_cons_zero, List.set_cons_succ]
                    refine wpAnyH_ready (rs := [12]) (by kernel_rfl) (by simp) ?_
                    refine AllReadyH.cons rfl (fun K hK => ?_) (AllReadyH.nil)
                    refine step_alloc_hash (by kernel_rfl) rfl _ rfl ?_
                    obtain ⟨wx3, hwwx3⟩ : ∃ x, x = wx2.alloc (.cells z32 25) := ⟨_, rfl⟩
                    obtain ⟨gB, hgB⟩ : ∃ x, x = wx2.heap.size := ⟨_, rfl⟩
                    rw [← hwwx3, ← hgB]
                    have hBwx3 : Below W.heap.size W wx3 := by rw [hwwx3]; exact hBwx2.alloc hBwx2.size _
                    have hZgBwx3 : Has wx3 gB 25 z32 := by rw [hwwx3, hgB]; exact Has.fresh _ _ _
                    have hLgB : W.heap.size ≤ gB := by rw [hgB]; exact hBwx2.size
                    have hne : gA ≠ gB := by
                      have := hZgAwx2.lt
                      rw [hgB]
                      omega
                    have hZgAwx3 : Has wx3 gA 25 z32 := by rw [hwwx3]; exact hZgAwx2.past _
                    clear hwwx3 hgB
                    refine hK.out _ _ trivial (fun _ => ?_)
                    clear hK K
                    simp only [Act.put, List.setIfInBounds_toArray, List.set_cons_zero, List.set_cons_succ]
                    refine wpAnyH_ready (rs := [13]) (by kernel_rfl) (by simp) ?_
                    refine AllReadyH.cons rfl (fun K hK => ?_) AllReadyH.nil
                    refine step_store_midR (by kernel_rfl) 25 (.tmp 4) (.tmp 48) rfl gA 0 (blist SA).toArray (by simp [Act.eval]) (by simp [Act.eval]) (hZgAwx3.there 0 _ (by rw [List.size_toArray, blist_length, HLS.out.1]; decide)) (size_hash' HLS.out.1) (one_hash SA) rfl ?_
                    obtain ⟨wy, hwwy⟩ : ∃ x, x = wx3.setCells gA 0 (blist SA).toArray.toList := ⟨_, rfl⟩
                    rw [← hwwy]
                    have hBwy : Below W.heap.size W wy := by rw [hwwy]; exact below_setAll hLgA _ 0 hBwx3
                    have hVgAwy : Has wy gA 25 (blist SA).toArray := by rw [hwwy]; exact hZgAwx3.whole_cs (by rw [List.size_toArray, blist_length, HLS.out.1]; rfl)
                    refine hK.out _ _ trivial (fun _ => ?_)
                    clear hK K
                    have hYB : Has wy gB 25 z32 := by rw [hwwy]; exact hZgBwx3.asideAll (fun e => hne e.symm) _ 0
                    refine wpAnyH_ready (rs := [14]) (by kernel_rfl) (by simp) ?_
                    refine AllReadyH.cons rfl (fun K hK => ?_) AllReadyH.nil
                    refine step_store_midR (by kernel_rfl) 25 (.tmp 5) (.tmp 54) rfl gB 0 (blist SB).toArray (by simp [Act.eval]) (by simp [Act.eval]) (hYB.there 0 _ (by rw [List.size_toArray, blist_length, HLS.out.2.1]; decide)) (size_hash' HLS.out.2.1) (one_hash SB) rfl ?_
                    obtain ⟨wz, hwwz⟩ : ∃ x, x = wy.setCells gB 0 (blist SB).toArray.toList := ⟨_, rfl⟩
                    rw [← hwwz]
                    have hBwz : Below W.heap.size W wz := by rw [hwwz]; exact below_setAll hLgB _ 0 hBwy
                    have hVgBwz : Has wz gB 25 (blist SB).toArray := by rw [hwwz]; exact hYB.whole_cs (by rw [List.size_toArray, blist_length, HLS.out.2.1]; rfl)
                    refine hK.out _ _ trivial (fun _ => ?_)
                    clear hK K
                    have hVA : Has wz gA 25 (blist SA).toArray := by rw [hwwz]; exact hVgAwy.asideAll hne _ 0
                    refine wpAnyH_done (by kernel_rfl) ?_ _
                    exact ⟨gA, gB, by kernel_rfl, by kernel_rfl, by kernel_rfl, by kernel_rfl, by kernel_rfl, by kernel_rfl, hVA, hVgBwz, hBwz⟩
                  · refine step_alloc_hash (by kernel_rfl) rfl _ rfl ?_
                    obtain ⟨wx2, hwwx2⟩ : ∃ x, x = wx1.alloc (.cells z32 25) := ⟨_, rfl⟩
                    obtain ⟨gB, hgB⟩ : ∃ x, x = wx1.heap.size := ⟨_, rfl⟩
                    rw [← hwwx2, ← hgB]
                    have hBwx2 : Below W.heap.size W wx2 := by rw [hwwx2]; exact hBwx1.alloc hBwx1.size _
                    have hZgBwx2 : Has wx2 gB 25 z32 := by rw [hwwx2, hgB]; exact Has.fresh _ _ _
                    have hLgB : W.heap.size ≤ gB := by rw [hgB]; exact hBwx1.size
                    clear hwwx2 hgB
                    refine hK.out _ _ trivial (fun _ => ?_)
                    clear hK K
                    simp only [Act.put, List.setIfInBounds_toArray, List.set_cons_zero, List.set_cons_succ]
                    refine wpAnyH_ready (rs := [11]) (by kernel_rfl) (by simp) ?_
                    refine AllReadyH.cons rfl (fun K hK => ?_) (AllReadyH.nil)
                    refine step_alloc_hash (by kernel_rfl) rfl _ rfl ?_
                    obtain ⟨wx3, hwwx3⟩ : ∃ x, x = wx2.alloc (.cells z32 25) := ⟨_, rfl⟩
                    obtain ⟨gA, hgA⟩ : ∃ x, x = wx2.heap.size := ⟨_, rfl⟩
                    rw [← hwwx3, ← hgA]
                    have hBwx3 : Below W.heap.size W wx3 := by rw [hwwx3]; exact hBwx2.alloc hBwx2.size _
                    have hZgAwx3 : Has wx3 gA 25 z32 := by rw [hwwx3, hgA]; exact Has.fresh _ _ _
                    have hLgA : W.heap.size ≤ gA := by rw [hgA]; exact hBwx2.size
                    have hne : gA ≠ gB := by
                      have := hZgBwx2.lt
                      rw [hgA]
                      omega
                    have hZgBwx3 : Has wx3 gB 25 z32 := by rw [hwwx3]; exact hZgBwx2.past _
                    clear hwwx3 hgA
                    refine hK.out _ _ trivial (fun _ => ?_)
                    clear hK K
                    simp only [Act.put, List.setIfInBounds_toArray, List.set_cons_zero, List.set_cons_succ]
                    refine wpAnyH_ready (rs := [13]) (by kernel_rfl) (by simp) ?_
                    refine AllReadyH.cons rfl (fun K hK => ?_) AllReadyH.nil
                    refine step_store_midR (by kernel_rfl) 25 (.tmp 4) (.tmp 48) rfl gA 0 (blist SA).toArray (by simp [Act.eval]) (by simp [Act.eval]) (hZgAwx3.there 0 _ (by rw [List.size_toArray, blist_length, HLS.out.1]; decide)) (size_hash' HLS.out.1) (one_hash SA) rfl ?_
                    obtain ⟨wy, hwwy⟩ : ∃ x, x = wx3.setCells gA 0 (blist SA).toArray.toList := ⟨_, rfl⟩
                    rw [← hwwy]
                    have hBwy : Below W.heap.size W wy := by rw [hwwy]; exact below_setAll hLgA _ 0 hBwx3
                    have hVgAwy : Has wy gA 25 (blist SA).toArray := by rw [hwwy]; exact hZgAwx3.whole_cs (by rw [List.size_toArray, blist_length, HLS.out.1]; rfl)
                    refine hK.out _ _ trivial (fun _ => ?_)
                    clear hK K
                    have hYB : Has wy gB 25 z32 := by rw [hwwy]; exact hZgBwx3.asideAll (fun e => hne e.symm) _ 0
                    refine wpAnyH_ready (rs := [14]) (by kernel_rfl) (by simp) ?_
                    refine AllReadyH.cons rfl (fun K hK => ?_) AllReadyH.nil
                    refine step_store_midR (by kernel_rfl) 25 (.tmp 5) (.tmp 54) rfl gB 0 (blist SB).toArray (by simp [Act.eval]) (by simp [Act.eval]) (hYB.there 0 _ (by rw [List.size_toArray, blist_length, HLS.out.2.1]; decide)) (size_hash' HLS.out.2.1) (one_hash SB) rfl ?_
                    obtain ⟨wz, hwwz⟩ : ∃ x, x = wy.setCells gB 0 (blist SB).toArray.toList := ⟨_, rfl⟩
                    rw [← hwwz]
                    have hBwz : Below W.heap.size W wz := by rw [hwwz]; exact below_setAll hLgB _ 0 hBwy
                    have hVgBwz : Has wz gB 25 (blist SB).toArray := by rw [hwwz]; exact hYB.whole_cs (by rw [List.size_toArray, blist_length, HLS.out.2.1]; rfl)
                    refine hK.out _ _ trivial (fun _ => ?_)
                    clear hK K
                    have hVA : Has wz gA 25 (blist SA).toArray := by rw [hwwz]; exact hVgAwy.asideAll hne _ 0
                    refine wpAnyH_done (by kernel_rfl) ?_ _
                    exact ⟨gA, gB, by kernel_rfl, by kernel_rfl, by kernel_rfl, by kernel_rfl, by kernel_rfl, by kernel_rfl, hVA, hVgBwz, hBwz⟩
                · refine step_alloc_hash (by kernel_rfl) rfl _ rfl ?_
                  obtain ⟨wx1, hwwx1⟩ : ∃ x, x = wx0.alloc (.cells z32 25) := ⟨_, rfl⟩
                  obtain ⟨gA, hgA⟩ : ∃ x, x = wx0.heap.size := ⟨_, rfl⟩
                  rw [← hwwx1, ← hgA]
                  have hBwx1 : Below W.heap.size W wx1 := by rw [hwwx1]; exact hBwx0.alloc hBwx0.size _
                  have hZgAwx1 : Has wx1 gA 25 z32 := by rw [hwwx1, hgA]; exact Has.fresh _ _ _
                  have hLgA : W.heap.size ≤ gA := by rw [hgA]; exact hBwx0.size
                  clear hwwx1 hgA
                  refine hK.out _ _ trivial (fun _ => ?_)
                  clear hK K
                  simp only [Act.put, List.setIfInBounds_toArray, List.set_cons_zero, List.set_cons_succ]
                  refine wpAnyH_ready (rs := [10, 12]) (by kernel_rfl) (by simp) ?_
                  refine AllReadyH.cons rfl (fun K hK => ?_) (AllReadyH.cons rfl (fun K hK => ?_) (AllReadyH.nil))
                  · refine step_tree (by kernel_rfl) 53 _ rfl _ _ (by kernel_rfl) (HC.out.2.1 wx1 hBwx1) _ rfl ?_
                    intro wx2 hbwx2
                    have hBwx2 := hBwx1.trans (hbwx2.mono hBwx1.size)
                    have hZgAwx2 := hZgAwx1.under hbwx2 hZgAwx1.lt
                    refine hK.out _ _ trivial (fun _ => ?_)
                    clear hK K
                    simp only [Act.put, List.setIfInBounds_toArray, List.set_cons_zero, List.set_cons_succ]
                    refine wpAnyH_ready (rs := [12]) (by kernel_rfl) (by simp) ?_
                    refine AllReadyH.cons rfl (fun K hK => ?_) (AllReadyH.nil)
                    refine step_alloc_hash (by kernel_rfl) rfl _ rfl ?_
                    obtain ⟨wx3, hwwx3⟩ : ∃ x, x = wx2.alloc (.cells z32 25) := ⟨_, rfl⟩
                    obtain ⟨gB, hgB⟩ : ∃ x, x = wx2.heap.size := ⟨_, rfl⟩
                    rw [← hwwx3, ← hgB]
                    have hBwx3 : Below W.heap.size W wx3 := by rw [hwwx3]; exact hBwx2.alloc hBwx2.size _
                    have hZgBwx3 : Has wx3 gB 25 z32 := by rw [hwwx3, hgB]; exact Has.fresh _ _ _
                    have hLgB : W.heap.size ≤ gB := by rw [hgB]; exact hBwx2.size
                    have hne : gA ≠ gB := by
                      have := hZgAwx2.lt
                      rw [hgB]
                      omega
                    have hZgAwx3 : Has wx3 gA 25 z32 := by rw [hwwx3]; exact hZgAwx2.past _
                    clear hwwx3 hgB
                    refine hK.out _ _ trivial (fun _ => ?_)
                    clear hK K
                    simp only [Act.put, List.setIfInBounds_toArray, List.set_cons_zero, List.set_cons_succ]
                    refine wpAnyH_ready (rs := [13]) (by kernel_rfl) (by simp) ?_
                    refine AllReadyH.cons rfl (fun K hK => ?_) AllReadyH.nil
                    refine step_store_midR (by kernel_rfl) 25 (.tmp 4) (.tmp 48) rfl gA 0 (blist SA).toArray (by simp [Act.eval]) (by simp [Act.eval]) (hZgAwx3.there 0 _ (by rw [List.size_toArray, blist_length, HLS.out.1]; decide)) (size_hash' HLS.out.1) (one_hash SA) rfl ?_
                    obtain ⟨wy, hwwy⟩ : ∃ x, x = wx3.setCells gA 0 (blist SA).toArray.toList := ⟨_, rfl⟩
                    rw [← hwwy]
                    have hBwy : Below W.heap.size W wy := by rw [hwwy]; exact below_setAll hLgA _ 0 hBwx3
                    have hVgAwy : Has wy gA 25 (blist SA).toArray := by rw [hwwy]; exact hZgAwx3.whole_cs (by rw [List.size_toArray, blist_length, HLS.out.1]; rfl)
                    refine hK.out _ _ trivial (fun _ => ?_)
                    clear hK K
                    have hYB : Has wy gB 25 z32 := by rw [hwwy]; exact hZgBwx3.asideAll (fun e => hne e.symm) _ 0
                    refine wpAnyH_ready (rs := [14]) (by kernel_rfl) (by simp) ?_
                    refine AllReadyH.cons rfl (fun K hK => ?_) AllReadyH.nil
                    refine step_store_midR (by kernel_rfl) 25 (.tmp 5) (.tmp 54) rfl gB 0 (blist SB).toArray (by simp [Act.eval]) (by simp [Act.eval]) (hYB.there 0 _ (by rw [List.size_toArray, blist_length, HLS.out.2.1]; decide)) (size_hash' HLS.out.2.1) (one_hash SB) rfl ?_
                    obtain ⟨wz, hwwz⟩ : ∃ x, x = wy.setCells gB 0 (blist SB).toArray.toList := ⟨_, rfl⟩
                    rw [← hwwz]
                    have hBwz : Below W.heap.size W wz := by rw [hwwz]; exact below_setAll hLgB _ 0 hBwy
                    have hVgBwz : Has wz gB 25 (blist SB).toArray := by rw [hwwz]; exact hYB.whole_cs (by rw [List.size_toArray, blist_length, HLS.out.2.1]; rfl)
                    refine hK.out _ _ trivial (fun _ => ?_)
                    clear hK K
                    have hVA : Has wz gA 25 (blist SA).toArray := by rw [hwwz]; exact hVgAwy.asideAll hne _ 0
                    refine wpAnyH_done (by kernel_rfl) ?_ _
                    exact ⟨gA, gB, by kernel_rfl, by kernel_rfl, by kernel_rfl, by kernel_rfl, by kernel_rfl, by kernel_rfl, hVA, hVgBwz, hBwz⟩
                  · refine step_alloc_hash (by kernel_rfl) rfl _ rfl ?_
                    obtain ⟨wx2, hwwx2⟩ : ∃ x, x = wx1.alloc (.cells z32 25) := ⟨_, rfl⟩
                    obtain ⟨gB, hgB⟩ : ∃ x, x = wx1.heap.size := ⟨_, rfl⟩
                    rw [← hwwx2, ← hgB]
                    have hBwx2 : Below W.heap.size W wx2 := by rw [hwwx2]; exact hBwx1.alloc hBwx1.size _
                    have hZgBwx2 : Has wx2 gB 25 z32 := by rw [hwwx2, hgB]; exact Has.fresh _ _ _
                    have hLgB : W.heap.size ≤ gB := by rw [hgB]; exact hBwx1.size
                    have hne : gA ≠ gB := by
                      have := hZgAwx1.lt
                      rw [hgB]
                      omega
                    have hZgAwx2 : Has wx2 gA 25 z32 := by rw [hwwx2]; exact hZgAwx1.past _
                    clear hwwx2 hgB
                    refine hK.out _ _ trivial (fun _ => ?_)
                    clear hK K
                    simp only [Act.put, List.setIfInBounds_toArray, List.set_cons_zero, List.set_cons_succ]
                    refine wpAnyH_ready (rs := [10]) (by kernel_rfl) (by simp) ?_
                    refine AllReadyH.cons rfl (fun K hK => ?_) (AllReadyH.nil)
                    refine step_tree (by kernel_rfl) 53 _ rfl _ _ (by kernel_rfl) (HC.out.2.1 wx2 hBwx2) _ rfl ?_
                    intro wx3 hbwx3
                    have hBwx3 := hBwx2.trans (hbwx3.mono hBwx2.size)
                    have hZgAwx3 := hZgAwx2.under hbwx3 hZgAwx2.lt
                    have hZgBwx3 := hZgBwx2.under hbwx3 hZgBwx2.lt
                    refine hK.out _ _ trivial (fun _ => ?_)
                    clear hK K
                    simp only [Act.put, List.setIfInBounds_toArray, List.set_cons_zero, List.set_cons_succ]
                    refine wpAnyH_ready (rs := [13]) (by kernel_rfl) (by simp) ?_
                    refine AllReadyH.cons rfl (fun K hK => ?_) AllReadyH.nil
                    refine step_store_midR (by kernel_rfl) 25 (.tmp 4) (.tmp 48) rfl gA 0 (blist SA).toArray (by simp [Act.eval]) (by simp [Act.eval]) (hZgAwx3.there 0 _ (by rw [List.size_toArray, blist_length, HLS.out.1]; decide)) (size_hash' HLS.out.1) (one_hash SA) rfl ?_
                    obtain ⟨wy, hwwy⟩ : ∃ x, x = wx3.setCells gA 0 (blist SA).toArray.toList := ⟨_, rfl⟩
                    rw [← hwwy]
                    have hBwy : Below W.heap.size W wy := by rw [hwwy]; exact below_setAll hLgA _ 0 hBwx3
                    have hVgAwy : Has wy gA 25 (blist SA).toArray := by rw [hwwy]; exact hZgAwx3.whole_cs (by rw [List.size_toArray, blist_length, HLS.out.1]; rfl)
                    refine hK.out _ _ trivial (fun _ => ?_)
                    clear hK K
                    have hYB : Has wy gB 25 z32 := by rw [hwwy]; exact hZgBwx3.asideAll (fun e => hne e.symm) _ 0
                    refine wpAnyH_ready (rs := [14]) (by kernel_rfl) (by simp) ?_
                    refine AllReadyH.cons rfl (fun K hK => ?_) AllReadyH.nil
                    refine step_store_midR (by kernel_rfl) 25 (.tmp 5) (.tmp 54) rfl gB 0 (blist SB).toArray (by simp [Act.eval]) (by simp [Act.eval]) (hYB.there 0 _ (by rw [List.size_toArray, blist_length, HLS.out.2.1]; decide)) (size_hash' HLS.out.2.1) (one_hash SB) rfl ?_
                    obtain ⟨wz, hwwz⟩ : ∃ x, x = wy.setCells gB 0 (blist SB).toArray.toList := ⟨_, rfl⟩
                    rw [← hwwz]
                    have hBwz : Below W.heap.size W wz := by rw [hwwz]; exact below_setAll hLgB _ 0 hBwy
                    have hVgBwz : Has wz gB 25 (blist SB).toArray := by rw [hwwz]; exact hYB.whole_cs (by rw [List.size_toArray, blist_length, HLS.out.2.1]; rfl)
                    refine hK.out _ _ trivial (fun _ => ?_)
                    clear hK K
                    have hVA : Has wz gA 25 (blist SA).toArray := by rw [hwwz]; exact hVgAwy.asideAll hne _ 0
                    refine wpAnyH_done (by kernel_rfl) ?_ _
                    exact ⟨gA, gB, by kernel_rfl, by kernel_rfl, by kernel_rfl, by kernel_rfl, by kernel_rfl, by kernel_rfl, hVA, hVgBwz, hBwz⟩
                · refine step_alloc_hash (by kernel_rfl) rfl _ rfl ?_
                  obtain ⟨wx1, hwwx1⟩ : ∃ x, x = wx0.alloc (.cells z32 25) := ⟨_, rfl⟩
                  obtain ⟨gB, hgB⟩ : ∃ x, x = wx0.heap.size := ⟨_, rfl⟩
                  rw [← hwwx1, ← hgB]
                  have hBwx1 : Below W.heap.size W wx1 := by rw [hwwx1]; exact hBwx0.alloc hBwx0.size _
                  have hZgBwx1 : Has wx1 gB 25 z32 := by rw [hwwx1, hgB]; exact Has.fresh _ _ _
                  have hLgB : W.heap.size ≤ gB := by rw [hgB]; exact hBwx0.size
                  clear hwwx1 hgB
                  refine hK.out _ _ trivial (fun _ => ?_)
                  clear hK K
                  simp only [Act.put, List.setIfInBounds_toArray, List.set_cons_zero, List.set_cons_succ]
                  refine wpAnyH_ready (rs := [10, 11]) (by kernel_rfl) (by simp) ?_
                  refine AllReadyH.cons rfl (fun K hK => ?_) (AllReadyH.cons rfl (fun K hK => ?_) (AllReadyH.nil))
                  · refine step_tree (by kernel_rfl) 53 _ rfl _ _ (by kernel_rfl) (HC.out.2.1 wx1 hBwx1) _ rfl ?_
                    intro wx2 hbwx2
                    have hBwx2 := hBwx1.trans (hbwx2.mono hBwx1.size)
                    have hZgBwx2 := hZgBwx1.under hbwx2 hZgBwx1.lt
                    refine hK.out _ _ trivial (fun _ => ?_)
                    clear hK K
                    simp only [Act.put, List.setIfInBounds_toArray, List.set_cons_zero, List.set_cons_succ]
                    refine wpAnyH_ready (rs := [11]) (by kernel_rfl) (by simp) ?_
                    refine AllReadyH.cons rfl (fun K hK => ?_) (AllReadyH.nil)
                    refine step_alloc_hash (by kernel_rfl) rfl _ rfl ?_
                    obtain ⟨wx3, hwwx3⟩ : ∃ x, x = wx2.alloc (.cells z32 25) := ⟨_, rfl⟩
                    obtain ⟨gA, hgA⟩ : ∃ x, x = wx2.heap.size := ⟨_, rfl⟩
                    rw [← hwwx3, ← hgA]
                    have hBwx3 : Below W.heap.size W wx3 := by rw [hwwx3]; exact hBwx2.alloc hBwx2.size _
                    have hZgAwx3 : Has wx3 gA 25 z32 := by rw [hwwx3, hgA]; exact Has.fresh _ _ _
                    have hLgA : W.heap.size ≤ gA := by rw [hgA]; exact hBwx2.size
                    have hne : gA ≠ gB := by
                      have := hZgBwx2.lt
                      rw [hgA]
                      omega
                    have hZgBwx3 : Has wx3 gB 25 z32 := by rw [hwwx3]; exact hZgBwx2.past _
                    clear hwwx3 hgA
                    refine hK.out _ _ trivial (fun _ => ?_)
                    clear hK K
                    simp only [Act.put, List.setIfInBounds_toArray, List.set_cons_zero, List.set_cons_succ]
                    refine wpAnyH_ready (rs := [13]) (by kernel_rfl) (by simp) ?_
                    refine AllReadyH.cons rfl (fun K hK => ?_) AllReadyH.nil
                    refine step_store_midR (by kernel_rfl) 25 (.tmp 4) (.tmp 48) rfl gA 0 (blist SA).toArray (by simp [Act.eval]) (by simp [Act.eval]) (hZgAwx3.there 0 _ (by rw [List.size_toArray, blist_length, HLS.out.1]; decide)) (size_hash' HLS.out.1) (one_hash SA) rfl ?_
                    obtain ⟨wy, hwwy⟩ : ∃ x, x = wx3.setCells gA 0 (blist SA).toArray.toList := ⟨_, rfl⟩
                    rw [← hwwy]
                    have hBwy : Below W.heap.size W wy := by rw [hwwy]; exact below_setAll hLgA _ 0 hBwx3
                    have hVgAwy : Has wy gA 25 (blist SA).toArray := by rw [hwwy]; exact hZgAwx3.whole_cs (by rw [List.size_toArray, blist_length, HLS.out.1]; rfl)
                    refine hK.out _ _ trivial (fun _ => ?_)
                    clear hK K
                    have hYB : Has wy gB 25 z32 := by rw [hwwy]; exact hZgBwx3.asideAll (fun e => hne e.symm) _ 0
                    refine wpAnyH_ready (rs := [14]) (by kernel_rfl) (by simp) ?_
                    refine AllReadyH.cons rfl (fun K hK => ?_) AllReadyH.nil
                    refine step_store_midR (by kernel_rfl) 25 (.tmp 5) (.tmp 54) rfl gB 0 (blist SB).toArray (by simp [Act.eval]) (by simp [Act.eval]) (hYB.there 0 _ (by rw [List.size_toArray, blist_length, HLS.out.2.1]; decide)) (size_hash' HLS.out.2.1) (one_hash SB) rfl ?_
                    obtain ⟨wz, hwwz⟩ : ∃ x, x = wy.setCells gB 0 (blist SB).toArray.toList := ⟨_, rfl⟩
                    rw [← hwwz]
                    have hBwz : Below W.heap.size W wz := by rw [hwwz]; exact below_setAll hLgB _ 0 hBwy
                    have hVgBwz : Has wz gB 25 (blist SB).toArray := by rw [hwwz]; exact hYB.whole_cs (by rw [List.size_toArray, blist_length, HLS.out.2.1]; rfl)
                    refine hK.out _ _ trivial (fun _ => ?_)
                    clear hK K
                    have hVA : Has wz gA 25 (blist SA).toArray := by rw [hwwz]; exact hVgAwy.asideAll hne _ 0
                    refine wpAnyH_done (by kernel_rfl) ?_ _
                    exact ⟨gA, gB, by kernel_rfl, by kernel_rfl, by kernel_rfl, by kernel_rfl, by kernel_rfl, by kernel_rfl, hVA, hVgBwz, hBwz⟩
                  · refine step_alloc_hash (by kernel_rfl) rfl _ rfl ?_
                    obtain ⟨wx2, hwwx2⟩ : ∃ x, x = wx1.alloc (.cells z32 25) := ⟨_, rfl⟩
                    obtain ⟨gA, hgA⟩ : ∃ x, x = wx1.heap.size := ⟨_, rfl⟩
                    rw [← hwwx2, ← hgA]
                    have hBwx2 : Below W.heap.size W wx2 := by rw [hwwx2]; exact hBwx1.alloc hBwx1.size _
                    have hZgAwx2 : Has wx2 gA 25 z32 := by rw [hwwx2, hgA]; exact Has.fresh _ _ _
                    have hLgA : W.heap.size ≤ gA := by rw [hgA]; exact hBwx1.size
                    have hne : gA ≠ gB := by
                      have := hZgBwx1.lt
                      rw [hgA]
                      omega
                    have hZgBwx2 : Has wx2 gB 25 z32 := by rw [hwwx2]; exact hZgBwx1.past _
                    clear hwwx2 hgA
                    refine hK.out _ _ trivial (fun _ => ?_)
                    clear hK K
                    simp only [Act.put, List.setIfInBounds_toArray, List.set_cons_zero, List.set_cons_succ]
                    refine wpAnyH_ready (rs := [10]) (by kernel_rfl) (by simp) ?_
                    refine AllReadyH.cons rfl (fun K hK => ?_) (AllReadyH.nil)
                    refine step_tree (by kernel_rfl) 53 _ rfl _ _ (by kernel_rfl) (HC.out.2.1 wx2 hBwx2) _ rfl ?_
                    intro wx3 hbwx3
                    have hBwx3 := hBwx2.trans (hbwx3.mono hBwx2.size)
                    have hZgBwx3 := hZgBwx2.under hbwx3 hZgBwx2.lt
                    have hZgAwx3 := hZgAwx2.under hbwx3 hZgAwx2.lt
                    refine hK.out _ _ trivial (fun _ => ?_)
                    clear hK K
                    simp only [Act.put, List.setIfInBounds_toArray, List.set_cons_zero, List.set_cons_succ]
                    refine wpAnyH_ready (rs := [13]) (by kernel_rfl) (by simp) ?_
                    refine AllReadyH.cons rfl (fun K hK => ?_) AllReadyH.nil
                    refine step_store_midR (by kernel_rfl) 25 (.tmp 4) (.tmp 48) rfl gA 0 (blist SA).toArray (by simp [Act.eval]) (by simp [Act.eval]) (hZgAwx3.there 0 _ (by rw [List.size_toArray, blist_length, HLS.out.1]; decide)) (size_hash' HLS.out.1) (one_hash SA) rfl ?_
                    obtain ⟨wy, hwwy⟩ : ∃ x, x = wx3.setCells gA 0 (blist SA).toArray.toList := ⟨_, rfl⟩
                    rw [← hwwy]
                    have hBwy : Below W.heap.size W wy := by rw [hwwy]; exact below_setAll hLgA _ 0 hBwx3
                    have hVgAwy : Has wy gA 25 (blist SA).toArray := by rw [hwwy]; exact hZgAwx3.whole_cs (by rw [List.size_toArray, blist_length, HLS.out.1]; rfl)
                    refine hK.out _ _ trivial (fun _ => ?_)
                    clear hK K
                    have hYB : Has wy gB 25 z32 := by rw [hwwy]; exact hZgBwx3.asideAll (fun e => hne e.symm) _ 0
                    refine wpAnyH_ready (rs := [14]) (by kernel_rfl) (by simp) ?_
                    refine AllReadyH.cons rfl (fun K hK => ?_) AllReadyH.nil
                    refine step_store_midR (by kernel_rfl) 25 (.tmp 5) (.tmp 54) rfl gB 0 (blist SB).toArray (by simp [Act.eval]) (by simp [Act.eval]) (hYB.there 0 _ (by rw [List.size_toArray, blist_length, HLS.out.2.1]; decide)) (size_hash' HLS.out.2.1) (one_hash SB) rfl ?_
                    obtain ⟨wz, hwwz⟩ : ∃ x, x = wy.setCells gB 0 (blist SB).toArray.toList := ⟨_, rfl⟩
                    rw [← hwwz]
                    have hBwz : Below W.heap.size W wz := by rw [hwwz]; exact below_setAll hLgB _ 0 hBwy
                    have hVgBwz : Has wz gB 25 (blist SB).toArray := by rw [hwwz]; exact hYB.whole_cs (by rw [List.size_toArray, blist_length, HLS.out.2.1]; rfl)
                    refine hK.out _ _ trivial (fun _ => ?_)
                    clear hK K
                    have hVA : Has wz gA 25 (blist SA).toArray := by rw [hwwz]; exact hVgAwy.asideAll hne _ 0
                    refine wpAnyH_done (by kernel_rfl) ?_ _
                    exact ⟨gA, gB, by kernel_rfl, by kernel_rfl, by kernel_rfl, by kernel_rfl, by kernel_rfl, by kernel_rfl, hVA, hVgBwz, hBwz⟩
              · refine step_alloc_hash (by kernel_rfl) rfl _ rfl ?_
                obtain ⟨wx0, hwwx0⟩ : ∃ x, x = wd.alloc (.cells z32 25) := ⟨_, rfl⟩
                obtain ⟨gA, hgA⟩ : ∃ x, x = wd.heap.size := ⟨_, rfl⟩
                rw [← hwwx0, ← hgA]
                have hBwx0 : Below W.heap.size W wx0 := by rw [hwwx0]; exact hBwd.alloc hBwd.size _
                have hZgAwx0 : Has wx0 gA 25 z32 := by rw [hwwx0, hgA]; exact Has.fresh _ _ _
                have hLgA : W.heap.size ≤ gA := by rw [hgA]; exact hBwd.size
                clear hwwx0 hgA
                refine hK.out _ _ trivial (fun _ => ?_)
                clear hK K
                simp only [Act.put, List.setIfInBounds_toArray, List.set_cons_zero, List.set_cons_succ]
                refine wpAnyH_ready (rs := [4, 12]) (by kernel_rfl) (by simp) ?_
                refine AllReadyH.cons rfl (fun K hK => ?_) (AllReadyH.cons rfl (fun K hK => ?_) (AllReadyH.nil))
                · refine step_tree (by kernel_rfl) 47 _ rfl _ _ (by kernel_rfl) (HC.out.1 wx0 hBwx0) _ rfl ?_
                  intro wx1 hbwx1
                  have hBwx1 := hBwx0.trans (hbwx1.mono hBwx0.size)
                  have hZgAwx1 := hZgAwx0.under hbwx1 hZgAwx0.lt
                  refine hK.out _ _ trivial (fun _ => ?_)
                  clear hK K
                  simp only [Act.put, List.setIfInBounds_toArray, List.set_cons_zero, List.set_cons_succ]
                  refine wpAnyH_ready (rs := [10, 12]) (by kernel_rfl) (by simp) ?_
                  refine AllReadyH.cons rfl (fun K hK => ?_) (AllReadyH.cons rfl (fun K hK => ?_) (AllReadyH.nil))
                  · refine step_tree (by kernel_rfl) 53 _ rfl _ _ (by kernel_rfl) (HC.out.2.1 wx1 hBwx1) _ rfl ?_
                    intro wx2 hbwx2
                    have hBwx2 := hBwx1.trans (hbwx2.mono hBwx1.size)
                    have hZgAwx2 := hZgAwx1.under hbwx2 hZgAwx1.lt
                    refine hK.out _ _ trivial (fun _ => ?_)
                    clear hK K
                    simp only [Act.put, List.setIfInBounds_toArray, List.set_cons_zero, List.set_cons_succ]
                    refine wpAnyH_ready (rs := [12]) (by kernel_rfl) (by simp) ?_
                    refine AllReadyH.cons rfl (fun K hK => ?_) (AllReadyH.nil)
                    refine step_alloc_hash (by kernel_rfl) rfl _ rfl ?_
                    obtain ⟨wx3, hwwx3⟩ : ∃ x, x = wx2.alloc (.cells z32 25) := ⟨_, rfl⟩
                    obtain ⟨gB, hgB⟩ : ∃ x, x = wx2.heap.size := ⟨_, rfl⟩
                    rw [← hwwx3, ← hgB]
                    have hBwx3 : Below W.heap.size W wx3 := by rw [hwwx3]; exact hBwx2.alloc hBwx2.size _
                    have hZgBwx3 : Has wx3 gB 25 z32 := by rw [hwwx3, hgB]; exact Has.fresh _ _ _
                    have hLgB : W.heap.size ≤ gB := by rw [hgB]; exact hBwx2.size
                    have hne : gA ≠ gB := by
                      have := hZgAwx2.lt
                      rw [hgB]
                      omega
                    have hZgAwx3 : Has wx3 gA 25 z32 := by rw [hwwx3]; exact hZgAwx2.past _
                    clear hwwx3 hgB
                    refine hK.out _ _ trivial (fun _ => ?_)
                    clear hK K
                    simp only [Act.put, List.setIfInBounds_toArray, List.set_cons_zero, List.set_cons_succ]
                    refine wpAnyH_ready (rs := [13]) (by kernel_rfl) (by simp) ?_
                    refine AllReadyH.cons rfl (fun K hK => ?_) AllReadyH.nil
                    refine step_store_midR (by kernel_rfl) 25 (.tmp 4) (.tmp 48) rfl gA 0 (blist SA).toArray (by simp [Act.eval]) (by simp [Act.eval]) (hZgAwx3.there 0 _ (by rw [List.size_toArray, blist_length, HLS.out.1]; decide)) (size_hash' HLS.out.1) (one_hash SA) rfl ?_
                    obtain ⟨wy, hwwy⟩ : ∃ x, x = wx3.setCells gA 0 (blist SA).toArray.toList := ⟨_, rfl⟩
                    rw [← hwwy]
                    have hBwy : Below W.heap.size W wy := by rw [hwwy]; exact below_setAll hLgA _ 0 hBwx3
                    have hVgAwy : Has wy gA 25 (blist SA).toArray := by rw [hwwy]; exact hZgAwx3.whole_cs (by rw [List.size_toArray, blist_length, HLS.out.1]; rfl)
                    refine hK.out _ _ trivial (fun _ => ?_)
                    clear hK K
                    have hYB : Has wy gB 25 z32 := by rw [hwwy]; exact hZgBwx3.asideAll (fun e => hne e.symm) _ 0
                    refine wpAnyH_ready (rs := [14]) (by kernel_rfl) (by simp) ?_
                    refine AllReadyH.cons rfl (fun K hK => ?_) AllReadyH.nil
                    refine step_store_midR (by kernel_rfl) 25 (.tmp 5) (.tmp 54) rfl gB 0 (blist SB).toArray (by simp [Act.eval]) (by simp [Act.eval]) (hYB.there 0 _ (by rw [List.size_toArray, blist_length, HLS.out.2.1]; decide)) (size_hash' HLS.out.2.1) (one_hash SB) rfl ?_
                    obtain ⟨wz, hwwz⟩ : ∃ x, x = wy.setCells gB 0 (blist SB).toArray.toList := ⟨_, rfl⟩
                    rw [← hwwz]
                    have hBwz : Below W.heap.size W wz := by rw [hwwz]; exact below_setAll hLgB _ 0 hBwy
                    have hVgBwz : Has wz gB 25 (blist SB).toArray := by rw [hwwz]; exact hYB.whole_cs (by rw [List.size_toArray, blist_length, HLS.out.2.1]; rfl)
                    refine hK.out _ _ trivial (fun _ => ?_)
                    clear hK K
                    have hVA : Has wz gA 25 (blist SA).toArray := by rw [hwwz]; exact hVgAwy.asideAll hne _ 0
                    refine wpAnyH_done (by kernel_rfl) ?_ _
                    exact ⟨gA, gB, by kernel_rfl, by kernel_rfl, by kernel_rfl, by kernel_rfl, by kernel_rfl, by kernel_rfl, hVA, hVgBwz, hBwz⟩
                  · refine step_alloc_hash (by kernel_rfl) rfl _ rfl ?_
                    obtain ⟨wx2, hwwx2⟩ : ∃ x, x = wx1.alloc (.cells z32 25) := ⟨_, rfl⟩
                    obtain ⟨gB, hgB⟩ : ∃ x, x = wx1.heap.size := ⟨_, rfl⟩
                    rw [← hwwx2, ← hgB]
                    have hBwx2 : Below W.heap.size W wx2 := by rw [hwwx2]; exact hBwx1.alloc hBwx1.size _
                    have hZgBwx2 : Has wx2 gB 25 z32 := by rw [hwwx2, hgB]; exact Has.fresh _ _ _
                    have hLgB : W.heap.size ≤ gB := by rw [hgB]; exact hBwx1.size
                    have hne : gA ≠ gB := by
                      have := hZgAwx1.lt
                      rw [hgB]
                      omega
                    have hZgAwx2 : Has wx2 gA 25 z32 := by rw [hwwx2]; exact hZgAwx1.past _
                    clear hwwx2 hgB
                    refine hK.out _ _ trivial (fun _ => ?_)
                    clear hK K
                    simp only [Act.put, List.setIfInBounds_toArray, List.set_cons_zero, List.set_cons_succ]
                    refine wpAnyH_ready (rs := [10]) (by kernel_rfl) (by simp) ?_
                    refine AllReadyH.cons rfl (fun K hK => ?_) (AllReadyH.nil)
                    refine step_tree (by kernel_rfl) 53 _ rfl _ _ (by kernel_rfl) (HC.out.2.1 wx2 hBwx2) _ rfl ?_
                    intro wx3 hbwx3
                    have hBwx3 := hBwx2.trans (hbwx3.mono hBwx2.size)
                    have hZgAwx3 := hZgAwx2.under hbwx3 hZgAwx2.lt
                    have hZgBwx3 := hZgBwx2.under hbwx3 hZgBwx2.lt
                    refine hK.out _ _ trivial (fun _ => ?_)
                    clear hK K
                    simp only [Act.put, List.setIfInBounds_toArray, List.set_cons_zero, List.set_cons_succ]
                    refine wpAnyH_ready (rs := [13]) (by kernel_rfl) (by simp) ?_
                    refine AllReadyH.cons rfl (fun K hK => ?_) AllReadyH.nil
                    refine step_store_midR (by kernel_rfl) 25 (.tmp 4) (.tmp 48) rfl gA 0 (blist SA).toArray (by simp [Act.eval]) (by simp [Act.eval]) (hZgAwx3.there 0 _ (by rw [List.size_toArray, blist_length, HLS.out.1]; decide)) (size_hash' HLS.out.1) (one_hash SA) rfl ?_
                    obtain ⟨wy, hwwy⟩ : ∃ x, x = wx3.setCells gA 0 (blist SA).toArray.toList := ⟨_, rfl⟩
                    rw [← hwwy]
                    have hBwy : Below W.heap.size W wy := by rw [hwwy]; exact below_setAll hLgA _ 0 hBwx3
                    have hVgAwy : Has wy gA 25 (blist SA).toArray := by rw [hwwy]; exact hZgAwx3.whole_cs (by rw [List.size_toArray, blist_length, HLS.out.1]; rfl)
                    refine hK.out _ _ trivial (fun _ => ?_)
                    clear hK K
                    have hYB : Has wy gB 25 z32 := by rw [hwwy]; exact hZgBwx3.asideAll (fun e => hne e.symm) _ 0
                    refine wpAnyH_ready (rs := [14]) (by kernel_rfl) (by simp) ?_
                    refine AllReadyH.cons rfl (fun K hK => ?_) AllReadyH.nil
                    refine step_store_midR (by kernel_rfl) 25 (.tmp 5) (.tmp 54) rfl gB 0 (blist SB).toArray (by simp [Act.eval]) (by simp [Act.eval]) (hYB.there 0 _ (by rw [List.size_toArray, blist_length, HLS.out.2.1]; decide)) (size_hash' HLS.out.2.1) (one_hash SB) rfl ?_
                    obtain ⟨wz, hwwz⟩ : ∃ x, x = wy.setCells gB 0 (blist SB).toArray.toList := ⟨_, rfl⟩
                    rw [← hwwz]
                    have hBwz : Below W.heap.size W wz := by rw [hwwz]; exact below_setAll hLgB _ 0 hBwy
                    have hVgBwz : Has wz gB 25 (blist SB).toArray := by rw [hwwz]; exact hYB.whole_cs (by rw [List.size_toArray, blist_length, HLS.out.2.1]; rfl)
                    refine hK.out _ _ trivial (fun _ => ?_)
                    clear hK K
                    have hVA : Has wz gA 25 (blist SA).toArray := by rw [hwwz]; exact hVgAwy.asideAll hne _ 0
                    refine wpAnyH_done (by kernel_rfl) ?_ _
                    exact ⟨gA, gB, by kernel_rfl, by kernel_rfl, by kernel_rfl, by kernel_rfl, by kernel_rfl, by kernel_rfl, hVA, hVgBwz, hBwz⟩
                · refine step_alloc_hash (by kernel_rfl) rfl _ rfl ?_
                  obtain ⟨wx1, hwwx1⟩ : ∃ x, x = wx0.alloc (.cells z32 25) := ⟨_, rfl⟩
                  obtain ⟨gB, hgB⟩ : ∃ x, x = wx0.heap.size := ⟨_, rfl⟩
                  rw [← hwwx1, ← hgB]
                  have hBwx1 : Below W.heap.size W wx1 := by rw [hwwx1]; exact hBwx0.alloc hBwx0.size _
                  have hZgBwx1 : Has wx1 gB 25 z32 := by rw [hwwx1, hgB]; exact Has.fresh _ _ _
                  have hLgB : W.heap.size ≤ gB := by rw [hgB]; exact hBwx0.size
                  have hne : gA ≠ gB := by
                    have := hZgAwx0.lt
                    rw [hgB]
                    omega
                  have hZgAwx1 : Has wx1 gA 25 z32 := by rw [hwwx1]; exact hZgAwx0.past _
                  clear hwwx1 hgB
                  refine hK.out _ _ trivial (fun _ => ?_)
                  clear hK K
                  simp only [Act.put, List.setIfInBounds_toArray, List.set_cons_zero, List.set_cons_succ]
                  refine wpAnyH_ready (rs := [4]) (by kernel_rfl) (by simp) ?_
                  refine AllReadyH.cons rfl (fun K hK => ?_) (AllReadyH.nil)
                  refine step_tree (by kernel_rfl) 47 _ rfl _ _ (by kernel_rfl) (HC.out.1 wx1 hBwx1) _ rfl ?_
                  intro wx2 hbwx2
                  have hBwx2 := hBwx1.trans (hbwx2.mono hBwx1.size)
                  have hZgAwx2 := hZgAwx1.under hbwx2 hZgAwx1.lt
                  have hZgBwx2 := hZgBwx1.under hbwx2 hZgBwx1.lt
                  refine hK.out _ _ trivial (fun _ => ?_)
                  clear hK K
                  simp only [Act.put, List.setIfInBounds_toArray, List.set_cons_zero, List.set_cons_succ]
                  refine wpAnyH_ready (rs := [10]) (by kernel_rfl) (by simp) ?_
                  refine AllReadyH.cons rfl (fun K hK => ?_) (AllReadyH.nil)
                  refine step_tree (by kernel_rfl) 53 _ rfl _ _ (by kernel_rfl) (HC.out.2.1 wx2 hBwx2) _ rfl ?_
                  intro wx3 hbwx3
                  have hBwx3 := hBwx2.trans (hbwx3.mono hBwx2.size)
                  have hZgAwx3 := hZgAwx2.under hbwx3 hZgAwx2.lt
                  have hZgBwx3 := hZgBwx2.under hbwx3 hZgBwx2.lt
                  refine hK.out _ _ trivial (fun _ => ?_)
                  clear hK K
                  simp only [Act.put, List.setIfInBounds_toArray, List.set_cons_zero, List.set_cons_succ]
                  refine wpAnyH_ready (rs := [13]) (by kernel_rfl) (by simp) ?_
                  refine AllReadyH.cons rfl (fun K hK => ?_) AllReadyH.nil
                  refine step_store_midR (by kernel_rfl) 25 (.tmp 4) (.tmp 48) rfl gA 0 (blist SA).toArray (by simp [Act.eval]) (by simp [Act.eval]) (hZgAwx3.there 0 _ (by rw [List.size_toArray, blist_length, HLS.out.1]; decide)) (size_hash' HLS.out.1) (one_hash SA) rfl ?_
                  obtain ⟨wy, hwwy⟩ : ∃ x, x = wx3.setCells gA 0 (blist SA).toArray.toList := ⟨_, rfl⟩
                  rw [← hwwy]
                  have hBwy : Below W.heap.size W wy := by rw [hwwy]; exact below_setAll hLgA _ 0 hBwx3
                  have hVgAwy : Has wy gA 25 (blist SA).toArray := by rw [hwwy]; exact hZgAwx3.whole_cs (by rw [List.size_toArray, blist_length, HLS.out.1]; rfl)
                  refine hK.out _ _ trivial (fun _ => ?_)
                  clear hK K
                  have hYB : Has wy gB 25 z32 := by rw [hwwy]; exact hZgBwx3.asideAll (fun e => hne e.symm) _ 0
                  refine wpAnyH_ready (rs := [14]) (by kernel_rfl) (by simp) ?_
                  refine AllReadyH.cons rfl (fun K hK => ?_) AllReadyH.nil
                  refine step_store_midR (by kernel_rfl) 25 (.tmp 5) (.tmp 54) rfl gB 0 (blist SB).toArray (by simp [Act.eval]) (by simp [Act.eval]) (hYB.there 0 _ (by rw [List.size_toArray, blist_length, HLS.out.2.1]; decide)) (size_hash' HLS.out.2.1) (one_hash SB) rfl ?_
                  obtain ⟨wz, hwwz⟩ : ∃ x, x = wy.setCells gB 0 (blist SB).toArray.toList := ⟨_, rfl⟩
                  rw [← hwwz]
                  have hBwz : Below W.heap.size W wz := by rw [hwwz]; exact below_setAll hLgB _ 0 hBwy
                  have hVgBwz : Has wz gB 25 (blist SB).toArray := by rw [hwwz]; exact hYB.whole_cs (by rw [List.size_toArray, blist_length, HLS.out.2.1]; rfl)
                  refine hK.out _ _ trivial (fun _ => ?_)
                  clear hK K
                  have hVA : Has wz gA 25 (blist SA).toArray := by rw [hwwz]; exact hVgAwy.asideAll hne _ 0
                  refine wpAnyH_done (by kernel_rfl) ?_ _
                  exact ⟨gA, gB, by kernel_rfl, by kernel_rfl, by kernel_rfl, by kernel_rfl, by kernel_rfl, by kernel_rfl, hVA, hVgBwz, hBwz⟩
              · refine step_alloc_hash (by kernel_rfl) rfl _ rfl ?_
                obtain ⟨wx0, hwwx0⟩ : ∃ x, x = wd.alloc (.cells z32 25) := ⟨_, rfl⟩
                obtain ⟨gB, hgB⟩ : ∃ x, x = wd.heap.size := ⟨_, rfl⟩
                rw [← hwwx0, ← hgB]
                have hBwx0 : Below W.heap.size W wx0 := by rw [hwwx0]; exact hBwd.alloc hBwd.size _
                have hZgBwx0 : Has wx0 gB 25 z32 := by rw [hwwx0, hgB]; exact Has.fresh _ _ _
                have hLgB : W.heap.size ≤ gB := by rw [hgB]; exact hBwd.size
                clear hwwx0 hgB
                refine hK.out _ _ trivial (fun _ => ?_)
                clear hK K
                simp only [Act.put, List.setIfInBounds_toArray, List.set_cons_zero, List.set_cons_succ]
                refine wpAnyH_ready (rs := [4, 11]) (by kernel_rfl) (by simp) ?_
                refine AllReadyH.cons rfl (fun K hK => ?_) (AllReadyH.cons rfl (fun K hK => ?_) (AllReadyH.nil))
                · refine step_tree (by kernel_rfl) 47 _ rfl _ _ (by kernel_rfl) (HC.out.1 wx0 hBwx0) _ rfl ?_
                  intro wx1 hbwx1
                  have hBwx1 := hBwx0.trans (hbwx1.mono hBwx0.size)
                  have hZgBwx1 := hZgBwx0.under hbwx1 hZgBwx0.lt
                  refine hK.out _ _ trivial (fun _ => ?_)
                  clear hK K
                  simp only [Act.put, List.setIfInBounds_toArray, List.set_cons_zero, List.set_cons_succ]
                  refine wpAnyH_ready (rs := [10, 11]) (by kernel_rfl) (by simp) ?_
                  refine AllReadyH.cons rfl (fun K hK => ?_) (AllReadyH.cons rfl (fun K hK => ?_) (AllReadyH.nil))
                  · refine step_tree (by kernel_rfl) 53 _ rfl _ _ (by kernel_rfl) (HC.out.2.1 wx1 hBwx1) _ rfl ?_
                    intro wx2 hbwx2
                    have hBwx2 := hBwx1.trans (hbwx2.mono hBwx1.size)
                    have hZgBwx2 := hZgBwx1.under hbwx2 hZgBwx1.lt
                    refine hK.out _ _ trivial (fun _ => ?_)
                    clear hK K
                    simp only [Act.put, List.setIfInBounds_toArray, List.set_cons_zero, List.set_cons_succ]
                    refine wpAnyH_ready (rs := [11]) (by kernel_rfl) (by simp) ?_
                    refine AllReadyH.cons rfl (fun K hK => ?_) (AllReadyH.nil)
                    refine step_alloc_hash (by kernel_rfl) rfl _ rfl ?_
                    obtain ⟨wx3, hwwx3⟩ : ∃ x, x = wx2.alloc (.cells z32 25) := ⟨_, rfl⟩
                    obtain ⟨gA, hgA⟩ : ∃ x, x = wx2.heap.size := ⟨_, rfl⟩
                    rw [← hwwx3, ← hgA]
                    have hBwx3 : Below W.heap.size W wx3 := by rw [hwwx3]; exact hBwx2.alloc hBwx2.size _
                    have hZgAwx3 : Has wx3 gA 25 z32 := by rw [hwwx3, hgA]; exact Has.fresh _ _ _
                    have hLgA : W.heap.size ≤ gA := by rw [hgA]; exact hBwx2.size
                    have hne : gA ≠ gB := by
                      have := hZgBwx2.lt
                      rw [hgA]
                      omega
                    have hZgBwx3 : Has wx3 gB 25 z32 := by rw [hwwx3]; exact hZgBwx2.past _
                    clear hwwx3 hgA
                    refine hK.out _ _ trivial (fun _ => ?_)
                    clear hK K
                    simp only [Act.put, List.setIfInBounds_toArray, List.set_cons_zero, List.set_cons_succ]
                    refine wpAnyH_ready (rs := [13]) (by kernel_rfl) (by simp) ?_
                    refine AllReadyH.cons rfl (fun K hK => ?_) AllReadyH.nil
                    refine step_store_midR (by kernel_rfl) 25 (.tmp 4) (.tmp 48) rfl gA 0 (blist SA).toArray (by simp [Act.eval]) (by simp [Act.eval]) (hZgAwx3.there 0 _ (by rw [List.size_toArray, blist_length, HLS.out.1]; decide)) (size_hash' HLS.out.1) (one_hash SA) rfl ?_
                    obtain ⟨wy, hwwy⟩ : ∃ x, x = wx3.setCells gA 0 (blist SA).toArray.toList := ⟨_, rfl⟩
                    rw [← hwwy]
                    have hBwy : Below W.heap.size W wy := by rw [hwwy]; exact below_setAll hLgA _ 0 hBwx3
                    have hVgAwy : Has wy gA 25 (blist SA).toArray := by rw [hwwy]; exact hZgAwx3.whole_cs (by rw [List.size_toArray, blist_length, HLS.out.1]; rfl)
                    refine hK.out _ _ trivial (fun _ => ?_)
                    clear hK K
                    have hYB : Has wy gB 25 z32 := by rw [hwwy]; exact hZgBwx3.asideAll (fun e => hne e.symm) _ 0
                    refine wpAnyH_ready (rs := [14]) (by kernel_rfl) (by simp) ?_
                    refine AllReadyH.cons rfl (fun K hK => ?_) AllReadyH.nil
                    refine step_store_midR (by kernel_rfl) 25 (.tmp 5) (.tmp 54) rfl gB 0 (blist SB).toArray (by simp [Act.eval]) (by simp [Act.eval]) (hYB.there 0 _ (by rw [List.size_toArray, blist_length, HLS.out.2.1]; decide)) (size_hash' HLS.out.2.1) (one_hash SB) rfl ?_
                    obtain ⟨wz, hwwz⟩ : ∃ x, x = wy.setCells gB 0 (blist SB).toArray.toList := ⟨_, rfl⟩
                    rw [← hwwz]
                    have hBwz : Below W.heap.size W wz := by rw [hwwz]; exact below_setAll hLgB _ 0 hBwy
                    have hVgBwz : Has wz gB 25 (blist SB).toArray := by rw [hwwz]; exact hYB.whole_cs (by rw [List.size_toArray, blist_length, HLS.out.2.1]; rfl)
                    refine hK.out _ _ trivial (fun _ => ?_)
                    clear hK K
                    have hVA : Has wz gA 25 (blist SA).toArray := by rw [hwwz]; exact hVgAwy.asideAll hne _ 0
                    refine wpAnyH_done (by kernel_rfl) ?_ _
                    exact ⟨gA, gB, by kernel_rfl, by kernel_rfl, by kernel_rfl, by kernel_rfl, by kernel_rfl, by kernel_rfl, hVA, hVgBwz, hBwz⟩
                  · refine step_alloc_hash (by kernel_rfl) rfl _ rfl ?_
                    obtain ⟨wx2, hwwx2⟩ : ∃ x, x = wx1.alloc (.cells z32 25) := ⟨_, rfl⟩
                    obtain ⟨gA, hgA⟩ : ∃ x, x = wx1.heap.size := ⟨_, rfl⟩
                    rw [← hwwx2, ← hgA]
                    have hBwx2 : Below W.heap.size W wx2 := by rw [hwwx2]; exact hBwx1.alloc hBwx1.size _
                    have hZgAwx2 : Has wx2 gA 25 z32 := by rw [hwwx2, hgA]; exact Has.fresh _ _ _
                    have hLgA : W.heap.size ≤ gA := by rw [hgA]; exact hBwx1.size
                    have hne : gA ≠ gB := by
                      have := hZgBwx1.lt
                      rw [hgA]
                      omega
                    have hZgBwx2 : Has wx2 gB 25 z32 := by rw [hwwx2]; exact hZgBwx1.past _
                    clear hwwx2 hgA
                    refine hK.out _ _ trivial (fun _ => ?_)
                    clear hK K
                    simp only [Act.put, List.setIfInBounds_toArray, List.set_cons_zero, List.set_cons_succ]
                    refine wpAnyH_ready (rs := [10]) (by kernel_rfl) (by simp) ?_
                    refine AllReadyH.cons rfl (fun K hK => ?_) (AllReadyH.nil)
                    refine step_tree (by kernel_rfl) 53 _ rfl _ _ (by kernel_rfl) (HC.out.2.1 wx2 hBwx2) _ rfl ?_
                    intro wx3 hbwx3
                    have hBwx3 := hBwx2.trans (hbwx3.mono hBwx2.size)
                    have hZgBwx3 := hZgBwx2.under hbwx3 hZgBwx2.lt
                    have hZgAwx3 := hZgAwx2.under hbwx3 hZgAwx2.lt
                    refine hK.out _ _ trivial (fun _ => ?_)
                    clear hK K
                    simp only [Act.put, List.setIfInBounds_toArray, List.set_cons_zero, List.set_cons_succ]
                    refine wpAnyH_ready (rs := [13]) (by kernel_rfl) (by simp) ?_
                    refine AllReadyH.cons rfl (fun K hK => ?_) AllReadyH.nil
                    refine step_store_midR (by kernel_rfl) 25 (.tmp 4) (.tmp 48) rfl gA 0 (blist SA).toArray (by simp [Act.eval]) (by simp [Act.eval]) (hZgAwx3.there 0 _ (by rw [List.size_toArray, blist_length, HLS.out.1]; decide)) (size_hash' HLS.out.1) (one_hash SA) rfl ?_
                    obtain ⟨wy, hwwy⟩ : ∃ x, x = wx3.setCells gA 0 (blist SA).toArray.toList := ⟨_, rfl⟩
                    rw [← hwwy]
                    have hBwy : Below W.heap.size W wy := by rw [hwwy]; exact below_setAll hLgA _ 0 hBwx3
                    have hVgAwy : Has wy gA 25 (blist SA).toArray := by rw [hwwy]; exact hZgAwx3.whole_cs (by rw [List.size_toArray, blist_length, HLS.out.1]; rfl)
                    refine hK.out _ _ trivial (fun _ => ?_)
                    clear hK K
                    have hYB : Has wy gB 25 z32 := by rw [hwwy]; exact hZgBwx3.asideAll (fun e => hne e.symm) _ 0
                    refine wpAnyH_ready (rs := [14]) (by kernel_rfl) (by simp) ?_
                    refine AllReadyH.cons rfl (fun K hK => ?_) AllReadyH.nil
                    refine step_store_midR (by kernel_rfl) 25 (.tmp 5) (.tmp 54) rfl gB 0 (blist SB).toArray (by simp [Act.eval]) (by simp [Act.eval]) (hYB.there 0 _ (by rw [List.size_toArray, blist_length, HLS.out.2.1]; decide)) (size_hash' HLS.out.2.1) (one_hash SB) rfl ?_
                    obtain ⟨wz, hwwz⟩ : ∃ x, x = wy.setCells gB 0 (blist SB).toArray.toList := ⟨_, rfl⟩
                    rw [← hwwz]
                    have hBwz : Below W.heap.size W wz := by rw [hwwz]; exact below_setAll hLgB _ 0 hBwy
                    have hVgBwz : Has wz gB 25 (blist SB).toArray := by rw [hwwz]; exact hYB.whole_cs (by rw [List.size_toArray, blist_length, HLS.out.2.1]; rfl)
                    refine hK.out _ _ trivial (fun _ => ?_)
                    clear hK K
                    have hVA : Has wz gA 25 (blist SA).toArray := by rw [hwwz]; exact hVgAwy.asideAll hne _ 0
                    refine wpAnyH_done (by kernel_rfl) ?_ _
                    exact ⟨gA, gB, by kernel_rfl, by kernel_rfl, by kernel_rfl, by kernel_rfl, by kernel_rfl, by kernel_rfl, hVA, hVgBwz, hBwz⟩
                · refine step_alloc_hash (by kernel_rfl) rfl _ rfl ?_
                  obtain ⟨wx1, hwwx1⟩ : ∃ x, x = wx0.alloc (.cells z32 25) := ⟨_, rfl⟩
                  obtain ⟨gA, hgA⟩ : ∃ x, x = wx0.heap.size := ⟨_, rfl⟩
                  rw [← hwwx1, ← hgA]
                  have hBwx1 : Below W.heap.size W wx1 := by rw [hwwx1]; exact hBwx0.alloc hBwx0.size _
                  have hZgAwx1 : Has wx1 gA 25 z32 := by rw [hwwx1, hgA]; exact Has.fresh _ _ _
                  have hLgA : W.heap.size ≤ gA := by rw [hgA]; exact hBwx0.size
                  have hne : gA ≠ gB := by
                    have := hZgBwx0.lt
                    rw [hgA]
                    omega
                  have hZgBwx1 : Has wx1 gB 25 z32 := by rw [hwwx1]; exact hZgBwx0.past _
                  clear hwwx1 hgA
                  refine hK.out _ _ trivial (fun _ => ?_)
                  clear hK K
                  simp only [Act.put, List.setIfInBounds_toArray, List.set_cons_zero, List.set_cons_succ]
                  refine wpAnyH_ready (rs := [4]) (by kernel_rfl) (by simp) ?_
                  refine AllReadyH.cons rfl (fun K hK => ?_) (AllReadyH.nil)
                  refine step_tree (by kernel_rfl) 47 _ rfl _ _ (by kernel_rfl) (HC.out.1 wx1 hBwx1) _ rfl ?_
                  intro wx2 hbwx2
                  have hBwx2 := hBwx1.trans (hbwx2.mono hBwx1.size)
                  have hZgBwx2 := hZgBwx1.under hbwx2 hZgBwx1.lt
                  have hZgAwx2 := hZgAwx1.under hbwx2 hZgAwx1.lt
                  refine hK.out _ _ trivial (fun _ => ?_)
                  clear hK K
                  simp only [Act.put, List.setIfInBounds_toArray, List.set_cons_zero, List.set_cons_succ]
                  refine wpAnyH_ready (rs := [10]) (by kernel_rfl) (by simp) ?_
                  refine AllReadyH.cons rfl (fun K hK => ?_) (AllReadyH.nil)
                  refine step_tree (by kernel_rfl) 53 _ rfl _ _ (by kernel_rfl) (HC.out.2.1 wx2 hBwx2) _ rfl ?_
                  intro wx3 hbwx3
                  have hBwx3 := hBwx2.trans (hbwx3.mono hBwx2.size)
                  have hZgBwx3 := hZgBwx2.under hbwx3 hZgBwx2.lt
                  have hZgAwx3 := hZgAwx2.under hbwx3 hZgAwx2.lt
                  refine hK.out _ _ trivial (fun _ => ?_)
                  clear hK K
                  simp only [Act.put, List.setIfInBounds_toArray, List.set_cons_zero, List.set_cons_succ]
                  refine wpAnyH_ready (rs := [13]) (by kernel_rfl) (by simp) ?_
                  refine AllReadyH.cons rfl (fun K hK => ?_) AllReadyH.nil
                  refine step_store_midR (by kernel_rfl) 25 (.tmp 4) (.tmp 48) rfl gA 0 (blist SA).toArray (by simp [Act.eval]) (by simp [Act.eval]) (hZgAwx3.there 0 _ (by rw [List.size_toArray, blist_length, HLS.out.1]; decide)) (size_hash' HLS.out.1) (one_hash SA) rfl ?_
                  obtain ⟨wy, hwwy⟩ : ∃ x, x = wx3.setCells gA 0 (blist SA).toArray.toList := ⟨_, rfl⟩
                  rw [← hwwy]
                  have hBwy : Below W.heap.size W wy := by rw [hwwy]; exact below_setAll hLgA _ 0 hBwx3
                  have hVgAwy : Has wy gA 25 (blist SA).toArray := by rw [hwwy]; exact hZgAwx3.whole_cs (by rw [List.size_toArray, blist_length, HLS.out.1]; rfl)
                  refine hK.out _ _ trivial (fun _ => ?_)
                  clear hK K
                  have hYB : Has wy gB 25 z32 := by rw [hwwy]; exact hZgBwx3.asideAll (fun e => hne e.symm) _ 0
                  refine wpAnyH_ready (rs := [14]) (by kernel_rfl) (by simp) ?_
                  refine AllReadyH.cons rfl (fun K hK => ?_) AllReadyH.nil
                  refine step_store_midR (by kernel_rfl) 25 (.tmp 5) (.tmp 54) rfl gB 0 (blist SB).toArray (by simp [Act.eval]) (by simp [Act.eval]) (hYB.there 0 _ (by rw [List.size_toArray, blist_length, HLS.out.2.1]; decide)) (size_hash' HLS.out.2.1) (one_hash SB) rfl ?_
                  obtain ⟨wz, hwwz⟩ : ∃ x, x = wy.setCells gB 0 (blist SB).toArray.toList := ⟨_, rfl⟩
                  rw [← hwwz]
                  have hBwz : Below W.heap.size W wz := by rw [hwwz]; exact below_setAll hLgB _ 0 hBwy
                  have hVgBwz : Has wz gB 25 (blist SB).toArray := by rw [hwwz]; exact hYB.whole_cs (by rw [List.size_toArray, blist_length, HLS.out.2.1]; rfl)
                  refine hK.out _ _ trivial (fun _ => ?_)
                  clear hK K
                  have hVA : Has wz gA 25 (blist SA).toArray := by rw [hwwz]; exact hVgAwy.asideAll hne _ 0
                  refine wpAnyH_done (by kernel_rfl) ?_ _
                  exact ⟨gA, gB, by kernel_rfl, by kernel_rfl, by kernel_rfl, by kernel_rfl, by kernel_rfl, by kernel_rfl, hVA, hVgBwz, hBwz⟩
            · rintro ⟨tm, df⟩ w' ⟨gA, gB, rfl, h64, h0, h3, h4, h5, hVA, hVB, hB8⟩
              obtain ⟨f, hf, k0, k3, k4, k5⟩ : ∃ f : Nat → Value, tm = (f 0 :: f 1 :: f 2 :: f 3 :: f 4 :: f 5 :: f 6 :: f 7 :: f 8 :: f 9 :: f 10 :: f 11 :: f 12 :: f 13 :: f 14 :: f 15 :: f 16 :: f 17 :: f 18 :: f 19 :: f 20 :: f 21 :: f 22 :: f 23 :: f 24 :: f 25 :: f 26 :: f 27 :: f 28 :: f 29 :: f 30 :: f 31 :: f 32 :: f 33 :: f 34 :: f 35 :: f 36 :: f 37 :: f 38 :: f 39 :: f 40 :: f 41 :: f 42 :: f 43 :: f 44 :: f 45 :: f 46 :: f 47 :: f 48 :: f 49 :: f 50 :: f 51 :: f 52 :: f 53 :: f 54 :: f 55 :: f 56 :: f 57 :: f 58 :: f 59 :: f 60 :: f 61 :: f 62 :: f 63 :: []).toArray ∧ f 0 = .slice (some y) n c ∧ f 3 = .int .i64 (N : Int) ∧ f 4 = .pointer (some ⟨gA, 0, none⟩) ∧ f 5 = .pointer (some ⟨gB, 0, none⟩) := ⟨fun i => tm.getD i undef, arr_lit tm 64 h64, h0, h3, h4, h5⟩
              clear h64 h0 h3 h4 h5
              subst hf
              rw [k0, k3, k4, k5]
              clear k0 k3 k4 k5
              go_wp2_with fail
              refine wp_region_held_drew (S := fun _ => True) (by kernel_rfl) trivial (fun hHeld => ?_)
              obtain ⟨wd, hwd⟩ : ∃ x, x = w'.drew := ⟨_, rfl⟩
              rw [← hwd]
              have hBwd : Below W.heap.size W wd := by rw [hwd]; exact hB8.drew
              have hVAwd : Has wd gA 25 (blist SA).toArray := by rw [hwd]; exact hVA.draw
              have hVBwd : Has wd gB 25 (blist SB).toArray := by rw [hwd]; exact hVB.draw
              clear hwd
              refine take_at (v := ?_) 0 55 rfl rfl (by kernel_rfl) (by kernel_rfl) (by kernel_rfl) (fun _ _ _ h => h) hHeld (Or.inl ⟨by rfl, ?_⟩) rfl ?_
              rotate_left
              · intro wq hSw
                go_simp
                try with_reducible rfl
              simp only [List.set_cons_zero, List.set_cons_succ]
              refine take_at (v := ?_) 1 56 rfl rfl (by kernel_rfl) (by kernel_rfl) (by kernel_rfl) (fun _ _ _ h => h) hHeld (Or.inl ⟨by rfl, ?_⟩) rfl ?_
              rotate_left
              · intro wq hSw
                go_simp
                try with_reducible rfl
              simp only [List.set_cons_zero, List.set_cons_succ]
              refine take_at (v := ?_) 2 57 rfl rfl (by kernel_rfl) (by kernel_rfl) (by kernel_rfl) (fun _ _ _ h => h) hHeld (Or.inl ⟨by rfl, ?_⟩) rfl ?_
              rotate_left
              · intro wq hSw
                go_simp
                try with_reducible rfl
              simp only [List.set_cons_zero, List.set_cons_succ]
              refine take_at (v := ?_) 4 59 rfl rfl (by kernel_rfl) (by kernel_rfl) (by kernel_rfl) (fun _ _ _ h => h) hHeld (Or.inl ⟨by rfl, ?_⟩) rfl ?_
              rotate_left
              · intro wq hSw
                go_simp
                try with_reducible rfl
              simp only [List.set_cons_zero, List.set_cons_succ]
              refine take_at (v := ?_) 5 60 rfl rfl (by kernel_rfl) (by kernel_rfl) (by kernel_rfl) (fun _ _ _ h => h) hHeld (Or.inl ⟨by rfl, ?_⟩) rfl ?_
              rotate_left
              · intro wq hSw
                go_simp
                try with_reducible rfl
              simp only [List.set_cons_zero, List.set_cons_succ]
              refine wpAnyH_ready (rs := [3, 6]) (by kernel_rfl) (by simp) ?_
              refine AllReadyH.cons rfl (fun K hK => ?_) (AllReadyH.cons rfl (fun K hK => ?_) (AllReadyH.nil))
              · go_simp
                go_at_call 15
                refine (HC.out.2.2.1 wd hBwd).mono ?_
                rintro e wv0 ⟨rfl, hbwv0⟩
                have hBwv0 := hBwd.trans (hbwv0.mono hBwd.size)
                have hVAwv0 := hVAwd.under hbwv0 hVAwd.lt
                have hVBwv0 := hVBwd.under hbwv0 hVBwd.lt
                refine hK.out _ _ trivial (fun _ => ?_)
                clear hK K
                try simp only [Act.put, List.setIfInBounds_toArray, List.set_cons_zero, List.set_cons_succ]
                refine wpAnyH_ready (rs := [6]) (by kernel_rfl) (by simp) ?_
                refine AllReadyH.cons rfl (fun K hK => ?_) (AllReadyH.nil)
                go_simp
                obtain ⟨wv1, hwwv1⟩ : ∃ x, x = wv0.alloc (.cells #[.slice (some ⟨gA, 0, none⟩) 32 32, .slice (some ⟨gB, 0, none⟩) 32 32] 22) := ⟨_, rfl⟩
                obtain ⟨gP, hgP⟩ : ∃ x, x = wv0.heap.size := ⟨_, rfl⟩
                rw [← hwwv1, ← hgP]
                have hBwv1 : Below W.heap.size W wv1 := by rw [hwwv1]; exact hBwv0.alloc hBwv0.size _
                have hPwv1 : Parts wv1 (some ⟨gP, 0, none⟩) 2 [SA, SB] := by rw [hwwv1, hgP]; exact parts_two 22 (bytes_of_hasR hVAwv0 HLS.out.1) (Nat.le_refl _) (fun e => by cases e) (bytes_of_hasR hVBwv0 HLS.out.2.1) (Nat.le_refl _) (fun e => by cases e)
                clear hwwv1 hgP
                refine hK.out _ _ trivial (fun _ => ?_)
                clear hK K
                try simp only [Act.put, List.setIfInBounds_toArray, List.set_cons_zero, List.set_cons_succ]
                refine wpAnyH_ready (rs := [7]) (by kernel_rfl) (by simp) ?_
                refine AllReadyH.cons rfl (fun K hK => ?_) AllReadyH.nil
                go_simp
                go_at_call 11
                refine (HC.out.2.2.2 _ wv1 hBwv1 hPwv1).mono ?_
                rintro e wr ⟨rfl, hbr⟩
                have hBr := hBwv1.trans (hbr.mono hBwv1.size)
                refine hK.out _ _ trivial (fun _ => ?_)
                clear hK K
                try simp only [Act.put, List.setIfInBounds_toArray, List.set_cons_zero, List.set_cons_succ]
                refine take_at 8 63 rfl rfl (by kernel_rfl) (by kernel_rfl) (by kernel_rfl) (fun _ _ _ h => h) hHeld (yieldsIf_eql_same (by rfl) 25 5 25 32 (.tmp 58) (.tmp 62) rfl D (by rfl) (by rfl) (by kernel_rfl) Tryd.underlying25 Tryd.underlying5 (by kernel_rfl) HLS.out.2.2) rfl ?_
                simp only [List.set_cons_zero, List.set_cons_succ]
                refine take_at (v := ?_) 9 2 rfl rfl (by kernel_rfl) (by kernel_rfl) (by kernel_rfl) (fun _ _ _ h => h) hHeld (Or.inl ⟨by rfl, ?_⟩) rfl ?_
                rotate_left
                · intro wq hSw
                  go_simp
                  try with_reducible rfl
                simp only [List.set_cons_zero, List.set_cons_succ]
                refine wpAnyH_done (by kernel_rfl) ?_ _
                go_wp2_with fail
                go_ret
                exact ⟨rfl, hBr⟩
              · go_simp
                obtain ⟨wv0, hwwv0⟩ : ∃ x, x = wd.alloc (.cells #[.slice (some ⟨gA, 0, none⟩) 32 32, .slice (some ⟨gB, 0, none⟩) 32 32] 22) := ⟨_, rfl⟩
                obtain ⟨gP, hgP⟩ : ∃ x, x = wd.heap.size := ⟨_, rfl⟩
                rw [← hwwv0, ← hgP]
                have hBwv0 : Below W.heap.size W wv0 := by rw [hwwv0]; exact hBwd.alloc hBwd.size _
                have hPwv0 : Parts wv0 (some ⟨gP, 0, none⟩) 2 [SA, SB] := by rw [hwwv0, hgP]; exact parts_two 22 (bytes_of_hasR hVAwd HLS.out.1) (Nat.le_refl _) (fun e => by cases e) (bytes_of_hasR hVBwd HLS.out.2.1) (Nat.le_refl _) (fun e => by cases e)
                clear hwwv0 hgP
                refine hK.out _ _ trivial (fun _ => ?_)
                clear hK K
                try simp only [Act.put, List.setIfInBounds_toArray, List.set_cons_zero, List.set_cons_succ]
                refine wpAnyH_ready (rs := [3]) (by kernel_rfl) (by simp) ?_
                refine AllReadyH.cons rfl (fun K hK => ?_) (AllReadyH.nil)
                go_simp
                go_at_call 15
                refine (HC.out.2.2.1 wv0 hBwv0).mono ?_
                rintro e wv1 ⟨rfl, hbwv1⟩
                have hBwv1 := hBwv0.trans (hbwv1.mono hBwv0.size)
                have hPwv1 := hPwv0.below hbwv1
                refine hK.out _ _ trivial (fun _ => ?_)
                clear hK K
                try simp only [Act.put, List.setIfInBounds_toArray, List.set_cons_zero, List.set_cons_succ]
                refine wpAnyH_ready (rs := [7]) (by kernel_rfl) (by simp) ?_
                refine AllReadyH.cons rfl (fun K hK => ?_) AllReadyH.nil
                go_simp
                go_at_call 11
                refine (HC.out.2.2.2 _ wv1 hBwv1 hPwv1).mono ?_
                rintro e wr ⟨rfl, hbr⟩
                have hBr := hBwv1.trans (hbr.mono hBwv1.size)
                refine hK.out _ _ trivial (fun _ => ?_)
                clear hK K
                try simp only [Act.put, List.setIfInBounds_toArray, List.set_cons_zero, List.set_cons_succ]
                refine take_at 8 63 rfl rfl (by kernel_rfl) (by kernel_rfl) (by kernel_rfl) (fun _ _ _ h => h) hHeld (yieldsIf_eql_same (by rfl) 25 5 25 32 (.tmp 58) (.tmp 62) rfl D (by rfl) (by rfl) (by kernel_rfl) Tryd.underlying25 Tryd.underlying5 (by kernel_rfl) HLS.out.2.2) rfl ?_
                simp only [List.set_cons_zero, List.set_cons_succ]
                refine take_at (v := ?_) 9 2 rfl rfl (by kernel_rfl) (by kernel_rfl) (by kernel_rfl) (fun _ _ _ h => h) hHeld (Or.inl ⟨by rfl, ?_⟩) rfl ?_
                rotate_left
                · intro wq hSw
                  go_simp
                  try with_reducible rfl
                simp only [List.set_cons_zero, List.set_cons_succ]
                refine wpAnyH_done (by kernel_rfl) ?_ _
                go_wp2_with fail
                go_ret
                exact ⟨rfl, hBr⟩
          · have hgi : ¬ ((2 : Int) * (N : Int) ≤ (n : Int)) := by omega
            have hN2 : N = 2 ∨ N = 4 ∨ N = 8 := by omega
            have hNn : N ≤ n := by omega
            obtain ⟨h, hh⟩ : ∃ h, h = N / 2 := ⟨_, rfl⟩
            have hN2h : N = 2 * h := by omega
            have hh4 : h ≤ 4 := by omega
            have hh1 : 1 ≤ h := by omega
            obtain ⟨y, rfl, _⟩ := HR.out.1.2.2.2 0 (by omega)
            have hnc := HR.out.2.1
            have hq1 : (N : Int).tdiv 2 = (h : Int) := by rw [hh]; rfl
            have hq2 : (N : Int) / 2 = (h : Int) := by omega
            have hh0 : (0 : Int) ≤ (h : Int) := by omega
            have hhw : IntKind.i64.wrap (h : Int) = (h : Int) := IntWalk.i64_in _ (by omega)
            have hhc : (h : Int) ≤ (c : Int) := by omega
            have hhN : (h : Int) ≤ (N : Int) := by omega
            have hNc : (N : Int) ≤ (c : Int) := by omega
            have hN0 : (0 : Int) ≤ (N : Int) := by omega
            have hn2i : ¬ ((n : Int) < 2) := by omega
            have hNh : N - h = h := by omega
            have hcz : ¬ (c = 0) := by omega
            have hch : ¬ (c = h) := by omega
            have hAL : ∀ l, l ∈ L → l.length = 32 := HR.out.1.2.2.1
            obtain ⟨SA, hSA⟩ : ∃ s, s = Dg.tree ((L.drop 0).take h) := ⟨_, rfl⟩
            obtain ⟨SB, hSB⟩ : ∃ s, s = Dg.tree ((L.drop h).take h) := ⟨_, rfl⟩
            obtain ⟨D, hD⟩ : ∃ s, s = Dg.double (SA ++ SB) := ⟨_, rfl⟩
            have hAl : SA.length = 32 := by rw [hSA]; exact Dg.tree_l fun l hl => hAL l (List.mem_of_mem_drop (List.mem_of_mem_take hl))
            have hBl : SB.length = 32 := by rw [hSB]; exact Dg.tree_l fun l hl => hAL l (List.mem_of_mem_drop (List.mem_of_mem_take hl))
            have hDl : D.length = 32 := by rw [hD]; exact Dg.double_len _
            have hSC : Dg.tree ((L.drop 0).take N) = D := by
              have hl : ((L.drop 0).take N).length = N := by rw [List.length_take, List.length_drop, HR.out.1.1]; omega
              rw [Dg.tree_half hN2 hl, hD, hSA, hSB, ← hh]
              congr 3
              · rw [List.take_take, Nat.min_eq_left (by omega)]
              · rw [List.drop_take, hNh]; rfl
            have hTA : ∀ w', Below W.heap.size W w' → Calls Tryd.prog 15 #[.slice (some y) h c] w' fun e w'' => e = .returned (.agg (blist SA).toArray) ∧ Below w'.heap.size w' w'' := fun w' hb => by
              have hp := (HR.out.1.below hb).part 0 h (by omega)
              rw [Nat.zero_mul, Addr.add_zero'] at hp
              rw [hSA]
              exact ok.tree (some y) h c _ w' (ok.stay HKD.out hb) hp (by omega) (fun e => by cases e) (by omega)
            have hTB : ∀ w', Below W.heap.size W w' → Calls Tryd.prog 15 #[.slice (some (y.add (h * 32))) h (c - h)] w' fun e w'' => e = .returned (.agg (blist SB).toArray) ∧ Below w'.heap.size w' w'' := fun w' hb => by
              have hp := (HR.out.1.below hb).part h h (by omega)
              rw [hSB]
              exact ok.tree _ h (c - h) _ w' (ok.stay HKD.out hb) hp (by omega) (fun e => by cases e) (by omega)
            have hTC : ∀ w', Below W.heap.size W w' → Calls Tryd.prog 15 #[.slice (some y) N c] w' fun e w'' => e = .returned (.agg (blist D).toArray) ∧ Below w'.heap.size w' w'' := fun w' hb => by
              have hp := (HR.out.1.below hb).part 0 N (by omega)
              rw [Nat.zero_mul, Addr.add_zero'] at hp
              rw [← hSC]
              exact ok.tree (some y) N c _ w' (ok.stay HKD.out hb) hp (by omega) (fun e => by cases e) (by omega)
            have hDD : ∀ (b : Addr) w', Below W.heap.size W w' → Parts w' (some b) 2 [SA, SB] → Calls Tryd.prog 11 #[.slice (some b) 2 2] w' fun e w'' => e = .returned (.agg (blist D).toArray) ∧ Below w'.heap.size w' w'' := fun b w' hb hP => by
              have := ok.double (some b) 2 2 [SA, SB] w' (ok.stay HKD.out hb) hP (Nat.le_refl _) (fun e => by cases e) (by omega) (by simp [hAl, hBl])
              rwa [show [SA, SB].flatten = SA ++ SB by simp, ← hD] at this
            have HC := Lib.hid (And.intro hTA (And.intro hTB (And.intro hTC hDD)))
            have HLS := Lib.hid (And.intro hAl (And.intro hBl hDl))
            have HG := Lib.hid (And.intro hgo (And.intro hN2 (And.intro hNn hN2h)))
            have HC2 := Lib.hid hc2
            clear hTA hTB hTC hDD hAl hBl hDl hSC hSA hSB hD hAL hnc hgo hN hN2 hN2h hh hNn hn0 hn1 hc2
            go_upto_region 8 with fail
            refine wp_region_post (fun a' w' => ∃ gA gB : Nat, a'.defers = [] ∧ a'.tmps.size = 64 ∧ a'.tmps.getD 0 undef = .slice (some y) n c ∧ a'.tmps.getD 3 undef = .int .i64 (N : Int) ∧ a'.tmps.getD 4 undef = .pointer (some ⟨gA, 0, none⟩) ∧ a'.tmps.getD 5 undef = .pointer (some ⟨gB, 0, none⟩) ∧ Has w' gA 25 (blist SA).toArray ∧ Has w' gB 25 (blist SB).toArray ∧ Below W.heap.size W w') ?_ ?_
            · refine wp_region_held_drew (S := fun _ => True) (by kernel_rfl) trivial (fun hHeld => ?_)
              obtain ⟨wd, hwd⟩ : ∃ x, x = w1.drew := ⟨_, rfl⟩
              rw [← hwd]
              have hBwd : Below W.heap.size W wd := by rw [hwd]; exact hb1.drew
              clear hwd
              refine take_at (v := ?_) 0 44 rfl rfl (by kernel_rfl) (by kernel_rfl) (by kernel_rfl) (fun _ _ _ h => h) hHeld (Or.inl ⟨by rfl, ?_⟩) rfl ?_
              rotate_left
              · intro wq hSw
                go_simp
                try with_reducible rfl
              simp only [List.set_cons_zero, List.set_cons_succ]
              refine take_at (v := ?_) 1 45 rfl rfl (by kernel_rfl) (by kernel_rfl) (by kernel_rfl) (fun _ _ _ h => h) hHeld (Or.inl ⟨by rfl, ?_⟩) rfl ?_
              rotate_left
              · intro wq hSw
                go_simp
                try with_reducible rfl
              simp only [List.set_cons_zero, List.set_cons_succ]
              refine take_at (v := ?_) 2 46 rfl rfl (by kernel_rfl) (by kernel_rfl) (by kernel_rfl) (fun _ _ _ h => h) hHeld (Or.inl ⟨by rfl, ?_⟩) rfl ?_
              rotate_left
              · intro wq hSw
                go_simp
                try with_reducible rfl
              simp only [List.set_cons_zero, List.set_cons_succ]
              refine take_at (v := ?_) 3 47 rfl rfl (by kernel_rfl) (by kernel_rfl) (by kernel_rfl) (fun _ _ _ h => h) hHeld (Or.inl ⟨by rfl, ?_⟩) rfl ?_
              rotate_left
              · intro wq hSw
                go_simp
                try with_reducible rfl
              simp only [List.set_cons_zero, List.set_cons_succ]
              refine take_at (v := ?_) 5 49 rfl rfl (by kernel_rfl) (by kernel_rfl) (by kernel_rfl) (fun _ _ _ h => h) hHeld (Or.inl ⟨by rfl, ?_⟩) rfl ?_
              rotate_left
              · intro wq hSw
                go_simp
                try with_reducible rfl
              simp only [List.set_cons_zero, List.set_cons_succ]
              refine take_at (v := ?_) 6 50 rfl rfl (by kernel_rfl) (by kernel_rfl) (by kernel_rfl) (fun _ _ _ h => h) hHeld (Or.inl ⟨by rfl, ?_⟩) rfl ?_
              rotate_left
              · intro wq hSw
                go_simp
                try with_reducible rfl
              simp only [List.set_cons_zero, List.set_cons_succ]
              refine take_at (v := ?_) 7 51 rfl rfl (by kernel_rfl) (by kernel_rfl) (by kernel_rfl) (fun _ _ _ h => h) hHeld (Or.inl ⟨by rfl, ?_⟩) rfl ?_
              rotate_left
              · intro wq hSw
                go_simp
                try with_reducible rfl
              simp only [List.set_cons_zero, List.set_cons_succ]
              refine take_at (v := ?_) 8 52 rfl rfl (by kernel_rfl) (by kernel_rfl) (by kernel_rfl) (fun _ _ _ h => h) hHeld (Or.inl ⟨by rfl, ?_⟩) rfl ?_
              rotate_left
              · intro wq hSw
                go_simp
                try with_reducible rfl
              simp only [List.set_cons_zero, List.set_cons_succ]
              refine take_at (v := ?_) 9 53 rfl rfl (by kernel_rfl) (by kernel_rfl) (by kernel_rfl) (fun _ _ _ h => h) hHeld (Or.inl ⟨by rfl, ?_⟩) rfl ?_
              rotate_left
              · intro wq hSw
                go_simp
                try with_reducible rfl
              simp only [List.set_cons_zero, List.set_cons_succ]
              clear hq1 hq2 hh0 hhc hhN hNc hN0 hNh hcz hch hgi
              refine wpAnyH_ready (rs := [4, 11, 12]) (by kernel_rfl) (by simp) ?_
              refine AllReadyH.cons rfl (fun K hK => ?_) (AllReadyH.cons rfl (fun K hK => ?_) (AllReadyH.cons rfl (fun K hK => ?_) (AllReadyH.nil)))
              · refine step_tree (by kernel_rfl) 47 _ rfl _ _ (by kernel_rfl) (HC.out.1 wd hBwd) _ rfl ?_
                intro wx0 hbwx0
                have hBwx0 := hBwd.trans (hbwx0.mono hBwd.size)
                refine hK.out _ _ trivial (fun _ => ?_)
                clear hK K
                simp only [Act.put, List.setIfInBounds_toArray, List.set_cons_zero, List.set_cons_succ]
                refine wpAnyH_ready (rs := [10, 11, 12]) (by kernel_rfl) (by simp) ?_
                refine AllReadyH.cons rfl (fun K hK => ?_) (AllReadyH.cons rfl (fun K hK => ?_) (AllReadyH.cons rfl (fun K hK => ?_) (AllReadyH.nil)))
                · refine step_tree (by kernel_rfl) 53 _ rfl _ _ (by kernel_rfl) (HC.out.2.1 wx0 hBwx0) _ rfl ?_
                  intro wx1 hbwx1
                  have hBwx1 := hBwx0.trans (hbwx1.mono hBwx0.size)
                  refine hK.out _ _ trivial (fun _ => ?_)
                  clear hK K
                  simp only [Act.put, List.setIfInBounds_toArray, List.set_cons_zero, List.set_cons_succ]
                  refine wpAnyH_ready (rs := [11, 12]) (by kernel_rfl) (by simp) ?_
                  refine AllReadyH.cons rfl (fun K hK => ?_) (AllReadyH.cons rfl (fun K hK => ?_) (AllReadyH.nil))
                  · refine step_alloc_hash (by kernel_rfl) rfl _ rfl ?_
                    obtain ⟨wx2, hwwx2⟩ : ∃ x, x = wx1.alloc (.cells z32 25) := ⟨_, rfl⟩
                    obtain ⟨gA, hgA⟩ : ∃ x, x = wx1.heap.size := ⟨_, rfl⟩
                    rw [← hwwx2, ← hgA]
                    have hBwx2 : Below W.heap.size W wx2 := by rw [hwwx2]; exact hBwx1.alloc hBwx1.size _
                    have hZgAwx2 : Has wx2 gA 25 z32 := by rw [hwwx2, hgA]; exact Has.fresh _ _ _
                    have hLgA : W.heap.size ≤ gA := by rw [hgA]; exact hBwx1.size
                    clear hwwx2 hgA
                    refine hK.out _ _ trivial (fun _ => ?_)
                    clear hK K
                    simp only [Act.put, List.setIfInBounds_toArray, List.set_cons_zero, List.set_cons_succ]
                    refine wpAnyH_ready (rs := [12]) (by kernel_rfl) (by simp) ?_
                    refine AllReadyH.cons rfl (fun K hK => ?_) (AllReadyH.nil)
                    refine step_alloc_hash (by kernel_rfl) rfl _ rfl ?_
                    obtain ⟨wx3, hwwx3⟩ : ∃ x, x = wx2.alloc (.cells z32 25) := ⟨_, rfl⟩
                    obtain ⟨gB, hgB⟩ : ∃ x, x = wx2.heap.size := ⟨_, rfl⟩
                    rw [← hwwx3, ← hgB]
                    have hBwx3 : Below W.heap.size W wx3 := by rw [hwwx3]; exact hBwx2.alloc hBwx2.size _
                    have hZgBwx3 : Has wx3 gB 25 z32 := by rw [hwwx3, hgB]; exact Has.fresh _ _ _
                    have hLgB : W.heap.size ≤ gB := by rw [hgB]; exact hBwx2.size
                    have hne : gA ≠ gB := by
                      have := hZgAwx2.lt
                      rw [hgB]
                      omega
                    have hZgAwx3 : Has wx3 gA 25 z32 := by rw [hwwx3]; exact hZgAwx2.past _
                    clear hwwx3 hgB
                    refine hK.out _ _ trivial (fun _ => ?_)
                    clear hK K
                    simp only [Act.put, List.setIfInBounds_toArray, List.set_cons_zero, List.set_cons_succ]
                    refine wpAnyH_ready (rs := [13]) (by kernel_rfl) (by simp) ?_
                    refine AllReadyH.cons rfl (fun K hK => ?_) AllReadyH.nil
                    refine step_store_midR (by kernel_rfl) 25 (.tmp 4) (.tmp 48) rfl gA 0 (blist SA).toArray (by simp [Act.eval]) (by simp [Act.eval]) (hZgAwx3.there 0 _ (by rw [List.size_toArray, blist_length, HLS.out.1]; decide)) (size_hash' HLS.out.1) (one_hash SA) rfl ?_
                    obtain ⟨wy, hwwy⟩ : ∃ x, x = wx3.setCells gA 0 (blist SA).toArray.toList := ⟨_, rfl⟩
                    rw [← hwwy]
                    have hBwy : Below W.heap.size W wy := by rw [hwwy]; exact below_setAll hLgA _ 0 hBwx3
                    have hVgAwy : Has wy gA 25 (blist SA).toArray := by rw [hwwy]; exact hZgAwx3.whole_cs (by rw [List.size_toArray, blist_length, HLS.out.1]; rfl)
                    refine hK.out _ _ trivial (fun _ => ?_)
                    clear hK K
                    have hYB : Has wy gB 25 z32 := by rw [hwwy]; exact hZgBwx3.asideAll (fun e => hne e.symm) _ 0
                    refine wpAnyH_ready (rs := [14]) (by kernel_rfl) (by simp) ?_
                    refine AllReadyH.cons rfl (fun K hK => ?_) AllReadyH.nil
                    refine step_store_midR (by kernel_rfl) 25 (.tmp 5) (.tmp 54) rfl gB 0 (blist SB).toArray (by simp [Act.eval]) (by simp [Act.eval]) (hYB.there 0 _ (by rw [List.size_toArray, blist_length, HLS.out.2.1]; decide)) (size_hash' HLS.out.2.1) (one_hash SB) rfl ?_
                    obtain ⟨wz, hwwz⟩ : ∃ x, x = wy.setCells gB 0 (blist SB).toArray.toList := ⟨_, rfl⟩
                    rw [← hwwz]
                    have hBwz : Below W.heap.size W wz := by rw [hwwz]; exact below_setAll hLgB _ 0 hBwy
                    have hVgBwz : Has wz gB 25 (blist SB).toArray := by rw [hwwz]; exact hYB.whole_cs (by rw [List.size_toArray, blist_length, HLS.out.2.1]; rfl)
                    refine hK.out _ _ trivial (fun _ => ?_)
                    clear hK K
                    have hVA : Has wz gA 25 (blist SA).toArray := by rw [hwwz]; exact hVgAwy.asideAll hne _ 0
                    refine wpAnyH_done (by kernel_rfl) ?_ _
                    exact ⟨gA, gB, by kernel_rfl, by kernel_rfl, by kernel_rfl, by kernel_rfl, by kernel_rfl, by kernel_rfl, hVA, hVgBwz, hBwz⟩
                  · refine step_alloc_hash (by kernel_rfl) rfl _ rfl ?_
                    obtain ⟨wx2, hwwx2⟩ : ∃ x, x = wx1.alloc (.cells z32 25) := ⟨_, rfl⟩
                    obtain ⟨gB, hgB⟩ : ∃ x, x = wx1.heap.size := ⟨_, rfl⟩
                    rw [← hwwx2, ← hgB]
                    have hBwx2 : Below W.heap.size W wx2 := by rw [hwwx2]; exact hBwx1.alloc hBwx1.size _
                    have hZgBwx2 : Has wx2 gB 25 z32 := by rw [hwwx2, hgB]; exact Has.fresh _ _ _
                    have hLgB : W.heap.size ≤ gB := by rw [hgB]; exact hBwx1.size
                    clear hwwx2 hgB
                    refine hK.out _ _ trivial (fun _ => ?_)
                    clear hK K
                    simp only [Act.put, List.setIfInBounds_toArray, List.set_cons_zero, List.set_cons_succ]
                    refine wpAnyH_ready (rs := [11]) (by kernel_rfl) (by simp) ?_
                    refine AllReadyH.cons rfl (fun K hK => ?_) (AllReadyH.nil)
                    refine step_alloc_hash (by kernel_rfl) rfl _ rfl ?_
                    obtain ⟨wx3, hwwx3⟩ : ∃ x, x = wx2.alloc (.cells z32 25) := ⟨_, rfl⟩
                    obtain ⟨gA, hgA⟩ : ∃ x, x = wx2.heap.size := ⟨_, rfl⟩
                    rw [← hwwx3, ← hgA]
                    have hBwx3 : Below W.heap.size W wx3 := by rw [hwwx3]; exact hBwx2.alloc hBwx2.size _
                    have hZgAwx3 : Has wx3 gA 25 z32 := by rw [hwwx3, hgA]; exact Has.fresh _ _ _
                    have hLgA : W.heap.size ≤ gA := by rw [hgA]; exact hBwx2.size
                    have hne : gA ≠ gB := by
                      have := hZgBwx2.lt
                      rw [hgA]
                      omega
                    have hZgBwx3 : Has wx3 gB 25 z32 := by rw [hwwx3]; exact hZgBwx2.past _
                    clear hwwx3 hgA
                    refine hK.out _ _ trivial (fun _ => ?_)
                    clear hK K
                    simp only [Act.put, List.setIfInBounds_toArray, List.set_cons_zero, List.set_cons_succ]
                    refine wpAnyH_ready (rs := [13]) (by kernel_rfl) (by simp) ?_
                    refine AllReadyH.cons rfl (fun K hK => ?_) AllReadyH.nil
                    refine step_store_midR (by kernel_rfl) 25 (.tmp 4) (.tmp 48) rfl gA 0 (blist SA).toArray (by simp [Act.eval]) (by simp [Act.eval]) (hZgAwx3.there 0 _ (by rw [List.size_toArray, blist_length, HLS.out.1]; decide)) (size_hash' HLS.out.1) (one_hash SA) rfl ?_
                    obtain ⟨wy, hwwy⟩ : ∃ x, x = wx3.setCells gA 0 (blist SA).toArray.toList := ⟨_, rfl⟩
                    rw [← hwwy]
                    have hBwy : Below W.heap.size W wy := by rw [hwwy]; exact below_setAll hLgA _ 0 hBwx3
                    have hVgAwy : Has wy gA 25 (blist SA).toArray := by rw [hwwy]; exact hZgAwx3.whole_cs (by rw [List.size_toArray, blist_length, HLS.out.1]; rfl)
                    refine hK.out _ _ trivial (fun _ => ?_)
                    clear hK K
                    have hYB : Has wy gB 25 z32 := by rw [hwwy]; exact hZgBwx3.asideAll (fun e => hne e.symm) _ 0
                    refine wpAnyH_ready (rs := [14]) (by kernel_rfl) (by simp) ?_
                    refine AllReadyH.cons rfl (fun K hK => ?_) AllReadyH.nil
                    refine step_store_midR (by kernel_rfl) 25 (.tmp 5) (.tmp 54) rfl gB 0 (blist SB).toArray (by simp [Act.eval]) (by simp [Act.eval]) (hYB.there 0 _ (by rw [List.size_toArray, blist_length, HLS.out.2.1]; decide)) (size_hash' HLS.out.2.1) (one_hash SB) rfl ?_
                    obtain ⟨wz, hwwz⟩ : ∃ x, x = wy.setCells gB 0 (blist SB).toArray.toList := ⟨_, rfl⟩
                    rw [← hwwz]
                    have hBwz : Below W.heap.size W wz := by rw [hwwz]; exact below_setAll hLgB _ 0 hBwy
                    have hVgBwz : Has wz gB 25 (blist SB).toArray := by rw [hwwz]; exact hYB.whole_cs (by rw [List.size_toArray, blist_length, HLS.out.2.1]; rfl)
                    refine hK.out _ _ trivial (fun _ => ?_)
                    clear hK K
                    have hVA : Has wz gA 25 (blist SA).toArray := by rw [hwwz]; exact hVgAwy.asideAll hne _ 0
                    refine wpAnyH_done (by kernel_rfl) ?_ _
                    exact ⟨gA, gB, by kernel_rfl, by kernel_rfl, by kernel_rfl, by kernel_rfl, by kernel_rfl, by kernel_rfl, hVA, hVgBwz, hBwz⟩
                · refine step_alloc_hash (by kernel_rfl) rfl _ rfl ?_
                  obtain ⟨wx1, hwwx1⟩ : ∃ x, x = wx0.alloc (.cells z32 25) := ⟨_, rfl⟩
                  obtain ⟨gA, hgA⟩ : ∃ x, x = wx0.heap.size := ⟨_, rfl⟩
                  rw [← hwwx1, ← hgA]
                  have hBwx1 : Below W.heap.size W wx1 := by rw [hwwx1]; exact hBwx0.alloc hBwx0.size _
                  have hZgAwx1 : Has wx1 gA 25 z32 := by rw [hwwx1, hgA]; exact Has.fresh _ _ _
                  have hLgA : W.heap.size ≤ gA := by rw [hgA]; exact hBwx0.size
                  clear hwwx1 hgA
                  refine hK.out _ _ trivial (fun _ => ?_)
                  clear hK K
                  simp only [Act.put, List.setIfInBounds_toArray, List.set_cons_zero, List.set_cons_succ]
                  refine wpAnyH_ready (rs := [10, 12]) (by kernel_rfl) (by simp) ?_
                  refine AllReadyH.cons rfl (fun K hK => ?_) (AllReadyH.cons rfl (fun K hK => ?_) (AllReadyH.nil))
                  · refine step_tree (by kernel_rfl) 53 _ rfl _ _ (by kernel_rfl) (HC.out.2.1 wx1 hBwx1) _ rfl ?_
                    intro wx2 hbwx2
                    have hBwx2 := hBwx1.trans (hbwx2.mono hBwx1.size)
                    have hZgAwx2 := hZgAwx1.under hbwx2 hZgAwx1.lt
                    refine hK.out _ _ trivial (fun _ => ?_)
                    clear hK K
                    simp only [Act.put, List.setIfInBounds_toArray, List.set_cons_zero, List.set_cons_succ]
                    refine wpAnyH_ready (rs := [12]) (by kernel_rfl) (by simp) ?_
                    refine AllReadyH.cons rfl (fun K hK => ?_) (AllReadyH.nil)
                    refine step_alloc_hash (by kernel_rfl) rfl _ rfl ?_
                    obtain ⟨wx3, hwwx3⟩ : ∃ x, x = wx2.alloc (.cells z32 25) := ⟨_, rfl⟩
                    obtain ⟨gB, hgB⟩ : ∃ x, x = wx2.heap.size := ⟨_, rfl⟩
                    rw [← hwwx3, ← hgB]
                    have hBwx3 : Below W.heap.size W wx3 := by rw [hwwx3]; exact hBwx2.alloc hBwx2.size _
                    have hZgBwx3 : Has wx3 gB 25 z32 := by rw [hwwx3, hgB]; exact Has.fresh _ _ _
                    have hLgB : W.heap.size ≤ gB := by rw [hgB]; exact hBwx2.size
                    have hne : gA ≠ gB := by
                      have := hZgAwx2.lt
                      rw [hgB]
                      omega
                    have hZgAwx3 : Has wx3 gA 25 z32 := by rw [hwwx3]; exact hZgAwx2.past _
                    clear hwwx3 hgB
                    refine hK.out _ _ trivial (fun _ => ?_)
                    clear hK K
                    simp only [Act.put, List.setIfInBounds_toArray, List.set_cons_zero, List.set_cons_succ]
                    refine wpAnyH_ready (rs := [13]) (by kernel_rfl) (by simp) ?_
                    refine AllReadyH.cons rfl (fun K hK => ?_) AllReadyH.nil
                    refine step_store_midR (by kernel_rfl) 25 (.tmp 4) (.tmp 48) rfl gA 0 (blist SA).toArray (by simp [Act.eval]) (by simp [Act.eval]) (hZgAwx3.there 0 _ (by rw [List.size_toArray, blist_length, HLS.out.1]; decide)) (size_hash' HLS.out.1) (one_hash SA) rfl ?_
                    obtain ⟨wy, hwwy⟩ : ∃ x, x = wx3.setCells gA 0 (blist SA).toArray.toList := ⟨_, rfl⟩
                    rw [← hwwy]
                    have hBwy : Below W.heap.size W wy := by rw [hwwy]; exact below_setAll hLgA _ 0 hBwx3
                    have hVgAwy : Has wy gA 25 (blist SA).toArray := by rw [hwwy]; exact hZgAwx3.whole_cs (by rw [List.size_toArray, blist_length, HLS.out.1]; rfl)
                    refine hK.out _ _ trivial (fun _ => ?_)
                    clear hK K
                    have hYB : Has wy gB 25 z32 := by rw [hwwy]; exact hZgBwx3.asideAll (fun e => hne e.symm) _ 0
                    refine wpAnyH_ready (rs := [14]) (by kernel_rfl) (by simp) ?_
                    refine AllReadyH.cons rfl (fun K hK => ?_) AllReadyH.nil
                    refine step_store_midR (by kernel_rfl) 25 (.tmp 5) (.tmp 54) rfl gB 0 (blist SB).toArray (by simp [Act.eval]) (by simp [Act.eval]) (hYB.there 0 _ (by rw [List.size_toArray, blist_length, HLS.out.2.1]; decide)) (size_hash' HLS.out.2.1) (one_hash SB) rfl ?_
                    obtain ⟨wz, hwwz⟩ : ∃ x, x = wy.setCells gB 0 (blist SB).toArray.toList := ⟨_, rfl⟩
                    rw [← hwwz]
                    have hBwz : Below W.heap.size W wz := by rw [hwwz]; exact below_setAll hLgB _ 0 hBwy
                    have hVgBwz : Has wz gB 25 (blist SB).toArray := by rw [hwwz]; exact hYB.whole_cs (by rw [List.size_toArray, blist_length, HLS.out.2.1]; rfl)
                    refine hK.out _ _ trivial (fun _ => ?_)
                    clear hK K
                    have hVA : Has wz gA 25 (blist SA).toArray := by rw [hwwz]; exact hVgAwy.asideAll hne _ 0
                    refine wpAnyH_done (by kernel_rfl) ?_ _
                    exact ⟨gA, gB, by kernel_rfl, by kernel_rfl, by kernel_rfl, by kernel_rfl, by kernel_rfl, by kernel_rfl, hVA, hVgBwz, hBwz⟩
                  · refine step_alloc_hash (by kernel_rfl) rfl _ rfl ?_
                    obtain ⟨wx2, hwwx2⟩ : ∃ x, x = wx1.alloc (.cells z32 25) := ⟨_, rfl⟩
                    obtain ⟨gB, hgB⟩ : ∃ x, x = wx1.heap.size := ⟨_, rfl⟩
                    rw [← hwwx2, ← hgB]
                    have hBwx2 : Below W.heap.size W wx2 := by rw [hwwx2]; exact hBwx1.alloc hBwx1.size _
                    have hZgBwx2 : Has wx2 gB 25 z32 := by rw [hwwx2, hgB]; exact Has.fresh _ _ _
                    have hLgB : W.heap.size ≤ gB := by rw [hgB]; exact hBwx1.size
                    have hne : gA ≠ gB := by
                      have := hZgAwx1.lt
                      rw [hgB]
                      omega
                    have hZgAwx2 : Has wx2 gA 25 z32 := by rw [hwwx2]; exact hZgAwx1.past _
                    clear hwwx2 hgB
                    refine hK.out _ _ trivial (fun _ => ?_)
                    clear hK K
                    simp only [Act.put, List.setIfInBounds_toArray, List.set_cons_zero, List.set_cons_succ]
                    refine wpAnyH_ready (rs := [10]) (by kernel_rfl) (by simp) ?_
                    refine AllReadyH.cons rfl (fun K hK => ?_) (AllReadyH.nil)
                    refine step_tree (by kernel_rfl) 53 _ rfl _ _ (by kernel_rfl) (HC.out.2.1 wx2 hBwx2) _ rfl ?_
                    intro wx3 hbwx3
                    have hBwx3 := hBwx2.trans (hbwx3.mono hBwx2.size)
                    have hZgAwx3 := hZgAwx2.under hbwx3 hZgAwx2.lt
                    have hZgBwx3 := hZgBwx2.under hbwx3 hZgBwx2.lt
                    refine hK.out _ _ trivial (fun _ => ?_)
                    clear hK K
                    simp only [Act.put, List.setIfInBounds_toArray, List.set_cons_zero, List.set_cons_succ]
                    refine wpAnyH_ready (rs := [13]) (by kernel_rfl) (by simp) ?_
                    refine AllReadyH.cons rfl (fun K hK => ?_) AllReadyH.nil
                    refine step_store_midR (by kernel_rfl) 25 (.tmp 4) (.tmp 48) rfl gA 0 (blist SA).toArray (by simp [Act.eval]) (by simp [Act.eval]) (hZgAwx3.there 0 _ (by rw [List.size_toArray, blist_length, HLS.out.1]; decide)) (size_hash' HLS.out.1) (one_hash SA) rfl ?_
                    obtain ⟨wy, hwwy⟩ : ∃ x, x = wx3.setCells gA 0 (blist SA).toArray.toList := ⟨_, rfl⟩
                    rw [← hwwy]
                    have hBwy : Below W.heap.size W wy := by rw [hwwy]; exact below_setAll hLgA _ 0 hBwx3
                    have hVgAwy : Has wy gA 25 (blist SA).toArray := by rw [hwwy]; exact hZgAwx3.whole_cs (by rw [List.size_toArray, blist_length, HLS.out.1]; rfl)
                    refine hK.out _ _ trivial (fun _ => ?_)
                    clear hK K
                    have hYB : Has wy gB 25 z32 := by rw [hwwy]; exact hZgBwx3.asideAll (fun e => hne e.symm) _ 0
                    refine wpAnyH_ready (rs := [14]) (by kernel_rfl) (by simp) ?_
                    refine AllReadyH.cons rfl (fun K hK => ?_) AllReadyH.nil
                    refine step_store_midR (by kernel_rfl) 25 (.tmp 5) (.tmp 54) rfl gB 0 (blist SB).toArray (by simp [Act.eval]) (by simp [Act.eval]) (hYB.there 0 _ (by rw [List.size_toArray, blist_length, HLS.out.2.1]; decide)) (size_hash' HLS.out.2.1) (one_hash SB) rfl ?_
                    obtain ⟨wz, hwwz⟩ : ∃ x, x = wy.setCells gB 0 (blist SB).toArray.toList := ⟨_, rfl⟩
                    rw [← hwwz]
                    have hBwz : Below W.heap.size W wz := by rw [hwwz]; exact below_setAll hLgB _ 0 hBwy
                    have hVgBwz : Has wz gB 25 (blist SB).toArray := by rw [hwwz]; exact hYB.whole_cs (by rw [List.size_toArray, blist_length, HLS.out.2.1]; rfl)
                    refine hK.out _ _ trivial (fun _ => ?_)
                    clear hK K
                    have hVA : Has wz gA 25 (blist SA).toArray := by rw [hwwz]; exact hVgAwy.asideAll hne _ 0
                    refine wpAnyH_done (by kernel_rfl) ?_ _
                    exact ⟨gA, gB, by kernel_rfl, by kernel_rfl, by kernel_rfl, by kernel_rfl, by kernel_rfl, by kernel_rfl, hVA, hVgBwz, hBwz⟩
                · refine step_alloc_hash (by kernel_rfl) rfl _ rfl ?_
                  obtain ⟨wx1, hwwx1⟩ : ∃ x, x = wx0.alloc (.cells z32 25) := ⟨_, rfl⟩
                  obtain ⟨gB, hgB⟩ : ∃ x, x = wx0.heap.size := ⟨_, rfl⟩
                  rw [← hwwx1, ← hgB]
                  have hBwx1 : Below W.heap.size W wx1 := by rw [hwwx1]; exact hBwx0.alloc hBwx0.size _
                  have hZgBwx1 : Has wx1 gB 25 z32 := by rw [hwwx1, hgB]; exact Has.fresh _ _ _
                  have hLgB : W.heap.size ≤ gB := by rw [hgB]; exact hBwx0.size
                  clear hwwx1 hgB
                  refine hK.out _ _ trivial (fun _ => ?_)
                  clear hK K
                  simp only [Act.put, List.setIfInBounds_toArray, List.set_cons_zero, List.set_cons_succ]
                  refine wpAnyH_ready (rs := [10, 11]) (by kernel_rfl) (by simp) ?_
                  refine AllReadyH.cons rfl (fun K hK => ?_) (AllReadyH.cons rfl (fun K hK => ?_) (AllReadyH.nil))
                  · refine step_tree (by kernel_rfl) 53 _ rfl _ _ (by kernel_rfl) (HC.out.2.1 wx1 hBwx1) _ rfl ?_
                    intro wx2 hbwx2
                    have hBwx2 := hBwx1.trans (hbwx2.mono hBwx1.size)
                    have hZgBwx2 := hZgBwx1.under hbwx2 hZgBwx1.lt
                    refine hK.out _ _ trivial (fun _ => ?_)
                    clear hK K
                    simp only [Act.put, List.setIfInBounds_toArray, List.set_cons_zero, List.set_cons_succ]
                    refine wpAnyH_ready (rs := [11]) (by kernel_rfl) (by simp) ?_
                    refine AllReadyH.cons rfl (fun K hK => ?_) (AllReadyH.nil)
                    refine step_alloc_hash (by kernel_rfl) rfl _ rfl ?_
                    obtain ⟨wx3, hwwx3⟩ : ∃ x, x = wx2.alloc (.cells z32 25) := ⟨_, rfl⟩
                    obtain ⟨gA, hgA⟩ : ∃ x, x = wx2.heap.size := ⟨_, rfl⟩
                    rw [← hwwx3, ← hgA]
                    have hBwx3 : Below W.heap.size W wx3 := by rw [hwwx3]; exact hBwx2.alloc hBwx2.size _
                    have hZgAwx3 : Has wx3 gA 25 z32 := by rw [hwwx3, hgA]; exact Has.fresh _ _ _
                    have hLgA : W.heap.size ≤ gA := by rw [hgA]; exact hBwx2.size
                    have hne : gA ≠ gB := by
                      have := hZgBwx2.lt
                      rw [hgA]
                      omega
                    have hZgBwx3 : Has wx3 gB 25 z32 := by rw [hwwx3]; exact hZgBwx2.past _
                    clear hwwx3 hgA
                    refine hK.out _ _ trivial (fun _ => ?_)
                    clear hK K
                    simp only [Act.put, List.setIfInBounds_toArray, List.set_cons_zero, List.set_cons_succ]
                    refine wpAnyH_ready (rs := [13]) (by kernel_rfl) (by simp) ?_
                    refine AllReadyH.cons rfl (fun K hK => ?_) AllReadyH.nil
                    refine step_store_midR (by kernel_rfl) 25 (.tmp 4) (.tmp 48) rfl gA 0 (blist SA).toArray (by simp [Act.eval]) (by simp [Act.eval]) (hZgAwx3.there 0 _ (by rw [List.size_toArray, blist_length, HLS.out.1]; decide)) (size_hash' HLS.out.1) (one_hash SA) rfl ?_
                    obtain ⟨wy, hwwy⟩ : ∃ x, x = wx3.setCells gA 0 (blist SA).toArray.toList := ⟨_, rfl⟩
                    rw [← hwwy]
                    have hBwy : Below W.heap.size W wy := by rw [hwwy]; exact below_setAll hLgA _ 0 hBwx3
                    have hVgAwy : Has wy gA 25 (blist SA).toArray := by rw [hwwy]; exact hZgAwx3.whole_cs (by rw [List.size_toArray, blist_length, HLS.out.1]; rfl)
                    refine hK.out _ _ trivial (fun _ => ?_)
                    clear hK K
                    have hYB : Has wy gB 25 z32 := by rw [hwwy]; exact hZgBwx3.asideAll (fun e => hne e.symm) _ 0
                    refine wpAnyH_ready (rs := [14]) (by kernel_rfl) (by simp) ?_
                    refine AllReadyH.cons rfl (fun K hK => ?_) AllReadyH.nil
                    refine step_store_midR (by kernel_rfl) 25 (.tmp 5) (.tmp 54) rfl gB 0 (blist SB).toArray (by simp [Act.eval]) (by simp [Act.eval]) (hYB.there 0 _ (by rw [List.size_toArray, blist_length, HLS.out.2.1]; decide)) (size_hash' HLS.out.2.1) (one_hash SB) rfl ?_
                    obtain ⟨wz, hwwz⟩ : ∃ x, x = wy.setCells gB 0 (blist SB).toArray.toList := ⟨_, rfl⟩
                    rw [← hwwz]
                    have hBwz : Below W.heap.size W wz := by rw [hwwz]; exact below_setAll hLgB _ 0 hBwy
                    have hVgBwz : Has wz gB 25 (blist SB).toArray := by rw [hwwz]; exact hYB.whole_cs (by rw [List.size_toArray, blist_length, HLS.out.2.1]; rfl)
                    refine hK.out _ _ trivial (fun _ => ?_)
                    clear hK K
                    have hVA : Has wz gA 25 (blist SA).toArray := by rw [hwwz]; exact hVgAwy.asideAll hne _ 0
                    refine wpAnyH_done (by kernel_rfl) ?_ _
                    exact ⟨gA, gB, by kernel_rfl, by kernel_rfl, by kernel_rfl, by kernel_rfl, by kernel_rfl, by kernel_rfl, hVA, hVgBwz, hBwz⟩
                  · refine step_alloc_hash (by kernel_rfl) rfl _ rfl ?_
                    obtain ⟨wx2, hwwx2⟩ : ∃ x, x = wx1.alloc (.cells z32 25) := ⟨_, rfl⟩
                    obtain ⟨gA, hgA⟩ : ∃ x, x = wx1.heap.size := ⟨_, rfl⟩
                    rw [← hwwx2, ← hgA]
                    have hBwx2 : Below W.heap.size W wx2 := by rw [hwwx2]; exact hBwx1.alloc hBwx1.size _
                    have hZgAwx2 : Has wx2 gA 25 z32 := by rw [hwwx2, hgA]; exact Has.fresh _ _ _
                    have hLgA : W.heap.size ≤ gA := by rw [hgA]; exact hBwx1.size
                    have hne : gA ≠ gB := by
                      have := hZgBwx1.lt
                      rw [hgA]
                      omega
                    have hZgBwx2 : Has wx2 gB 25 z32 := by rw [hwwx2]; exact hZgBwx1.past _
                    clear hwwx2 hgA
                    refine hK.out _ _ trivial (fun _ => ?_)
                    clear hK K
                    simp only [Act.put, List.setIfInBounds_toArray, List.set_cons_zero, List.set_cons_succ]
                    refine wpAnyH_ready (rs := [10]) (by kernel_rfl) (by simp) ?_
                    refine AllReadyH.cons rfl (fun K hK => ?_) (AllReadyH.nil)
                    refine step_tree (by kernel_rfl) 53 _ rfl _ _ (by kernel_rfl) (HC.out.2.1 wx2 hBwx2) _ rfl ?_
                    intro wx3 hbwx3
                    have hBwx3 := hBwx2.trans (hbwx3.mono hBwx2.size)
                    have hZgBwx3 := hZgBwx2.under hbwx3 hZgBwx2.lt
                    have hZgAwx3 := hZgAwx2.under hbwx3 hZgAwx2.lt
                    refine hK.out _ _ trivial (fun _ => ?_)
                    clear hK K
                    simp only [Act.put, List.setIfInBounds_toArray, List.set_cons_zero, List.set_cons_succ]
                    refine wpAnyH_ready (rs := [13]) (by kernel_rfl) (by simp) ?_
                    refine AllReadyH.cons rfl (fun K hK => ?_) AllReadyH.nil
                    refine step_store_midR (by kernel_rfl) 25 (.tmp 4) (.tmp 48) rfl gA 0 (blist SA).toArray (by simp [Act.eval]) (by simp [Act.eval]) (hZgAwx3.there 0 _ (by rw [List.size_toArray, blist_length, HLS.out.1]; decide)) (size_hash' HLS.out.1) (one_hash SA) rfl ?_
                    obtain ⟨wy, hwwy⟩ : ∃ x, x = wx3.setCells gA 0 (blist SA).toArray.toList := ⟨_, rfl⟩
                    rw [← hwwy]
                    have hBwy : Below W.heap.size W wy := by rw [hwwy]; exact below_setAll hLgA _ 0 hBwx3
                    have hVgAwy : Has wy gA 25 (blist SA).toArray := by rw [hwwy]; exact hZgAwx3.whole_cs (by rw [List.size_toArray, blist_length, HLS.out.1]; rfl)
                    refine hK.out _ _ trivial (fun _ => ?_)
                    clear hK K
                    have hYB : Has wy gB 25 z32 := by rw [hwwy]; exact hZgBwx3.asideAll (fun e => hne e.symm) _ 0
                    refine wpAnyH_ready (rs := [14]) (by kernel_rfl) (by simp) ?_
                    refine AllReadyH.cons rfl (fun K hK => ?_) AllReadyH.nil
                    refine step_store_midR (by kernel_rfl) 25 (.tmp 5) (.tmp 54) rfl gB 0 (blist SB).toArray (by simp [Act.eval]) (by simp [Act.eval]) (hYB.there 0 _ (by rw [List.size_toArray, blist_length, HLS.out.2.1]; decide)) (size_hash' HLS.out.2.1) (one_hash SB) rfl ?_
                    obtain ⟨wz, hwwz⟩ : ∃ x, x = wy.setCells gB 0 (blist SB).toArray.toList := ⟨_, rfl⟩
                    rw [← hwwz]
                    have hBwz : Below W.heap.size W wz := by rw [hwwz]; exact below_setAll hLgB _ 0 hBwy
                    have hVgBwz : Has wz gB 25 (blist SB).toArray := by rw [hwwz]; exact hYB.whole_cs (by rw [List.size_toArray, blist_length, HLS.out.2.1]; rfl)
                    refine hK.out _ _ trivial (fun _ => ?_)
                    clear hK K
                    have hVA : Has wz gA 25 (blist SA).toArray := by rw [hwwz]; exact hVgAwy.asideAll hne _ 0
                    refine wpAnyH_done (by kernel_rfl) ?_ _
                    exact ⟨gA, gB, by kernel_rfl, by kernel_rfl, by kernel_rfl, by kernel_rfl, by kernel_rfl, by kernel_rfl, hVA, hVgBwz, hBwz⟩
              · refine step_alloc_hash (by kernel_rfl) rfl _ rfl ?_
                obtain ⟨wx0, hwwx0⟩ : ∃ x, x = wd.alloc (.cells z32 25) := ⟨_, rfl⟩
                obtain ⟨gA, hgA⟩ : ∃ x, x = wd.heap.size := ⟨_, rfl⟩
                rw [← hwwx0, ← hgA]
                have hBwx0 : Below W.heap.size W wx0 := by rw [hwwx0]; exact hBwd.alloc hBwd.size _
                have hZgAwx0 : Has wx0 gA 25 z32 := by rw [hwwx0, hgA]; exact Has.fresh _ _ _
                have hLgA : W.heap.size ≤ gA := by rw [hgA]; exact hBwd.size
                clear hwwx0 hgA
                refine hK.out _ _ trivial (fun _ => ?_)
                clear hK K
                simp only [Act.put, List.setIfInBounds_toArray, List.set_cons_zero, List.set_cons_succ]
                refine wpAnyH_ready (rs := [4, 12]) (by kernel_rfl) (by simp) ?_
                refine AllReadyH.cons rfl (fun K hK => ?_) (AllReadyH.cons rfl (fun K hK => ?_) (AllReadyH.nil))
                · refine step_tree (by kernel_rfl) 47 _ rfl _ _ (by kernel_rfl) (HC.out.1 wx0 hBwx0) _ rfl ?_
                  intro wx1 hbwx1
                  have hBwx1 := hBwx0.trans (hbwx1.mono hBwx0.size)
                  have hZgAwx1 := hZgAwx0.under hbwx1 hZgAwx0.lt
                  refine hK.out _ _ trivial (fun _ => ?_)
                  clear hK K
                  simp only [Act.put, List.setIfInBounds_toArray, List.set_cons_zero, List.set_cons_succ]
                  refine wpAnyH_ready (rs := [10, 12]) (by kernel_rfl) (by simp) ?_
                  refine AllReadyH.cons rfl (fun K hK => ?_) (AllReadyH.cons rfl (fun K hK => ?_) (AllReadyH.nil))
                  · refine step_tree (by kernel_rfl) 53 _ rfl _ _ (by kernel_rfl) (HC.out.2.1 wx1 hBwx1) _ rfl ?_
                    intro wx2 hbwx2
                    have hBwx2 := hBwx1.trans (hbwx2.mono hBwx1.size)
                    have hZgAwx2 := hZgAwx1.under hbwx2 hZgAwx1.lt
                    refine hK.out _ _ trivial (fun _ => ?_)
                    clear hK K
                    simp only [Act.put, List.setIfInBounds_toArray, List.set_cons_zero, List.set_cons_succ]
                    refine wpAnyH_ready (rs := [12]) (by kernel_rfl) (by simp) ?_
                    refine AllReadyH.cons rfl (fun K hK => ?_) (AllReadyH.nil)
                    refine step_alloc_hash (by kernel_rfl) rfl _ rfl ?_
                    obtain ⟨wx3, hwwx3⟩ : ∃ x, x = wx2.alloc (.cells z32 25) := ⟨_, rfl⟩
                    obtain ⟨gB, hgB⟩ : ∃ x, x = wx2.heap.size := ⟨_, rfl⟩
                    rw [← hwwx3, ← hgB]
                    have hBwx3 : Below W.heap.size W wx3 := by rw [hwwx3]; exact hBwx2.alloc hBwx2.size _
                    have hZgBwx3 : Has wx3 gB 25 z32 := by rw [hwwx3, hgB]; exact Has.fresh _ _ _
                    have hLgB : W.heap.size ≤ gB := by rw [hgB]; exact hBwx2.size
                    have hne : gA ≠ gB := by
                      have := hZgAwx2.lt
                      rw [hgB]
                      omega
                    have hZgAwx3 : Has wx3 gA 25 z32 := by rw [hwwx3]; exact hZgAwx2.past _
                    clear hwwx3 hgB
                    refine hK.out _ _ trivial (fun _ => ?_)
                    clear hK K
                    simp only [Act.put, List.setIfInBounds_toArray, List.set_cons_zero, List.set_cons_succ]
                    refine wpAnyH_ready (rs := [13]) (by kernel_rfl) (by simp) ?_
                    refine AllReadyH.cons rfl (fun K hK => ?_) AllReadyH.nil
                    refine step_store_midR (by kernel_rfl) 25 (.tmp 4) (.tmp 48) rfl gA 0 (blist SA).toArray (by simp [Act.eval]) (by simp [Act.eval]) (hZgAwx3.there 0 _ (by rw [List.size_toArray, blist_length, HLS.out.1]; decide)) (size_hash' HLS.out.1) (one_hash SA) rfl ?_
                    obtain ⟨wy, hwwy⟩ : ∃ x, x = wx3.setCells gA 0 (blist SA).toArray.toList := ⟨_, rfl⟩
                    rw [← hwwy]
                    have hBwy : Below W.heap.size W wy := by rw [hwwy]; exact below_setAll hLgA _ 0 hBwx3
                    have hVgAwy : Has wy gA 25 (blist SA).toArray := by rw [hwwy]; exact hZgAwx3.whole_cs (by rw [List.size_toArray, blist_length, HLS.out.1]; rfl)
                    refine hK.out _ _ trivial (fun _ => ?_)
                    clear hK K
                    have hYB : Has wy gB 25 z32 := by rw [hwwy]; exact hZgBwx3.asideAll (fun e => hne e.symm) _ 0
                    refine wpAnyH_ready (rs := [14]) (by kernel_rfl) (by simp) ?_
                    refine AllReadyH.cons rfl (fun K hK => ?_) AllReadyH.nil
                    refine step_store_midR (by kernel_rfl) 25 (.tmp 5) (.tmp 54) rfl gB 0 (blist SB).toArray (by simp [Act.eval]) (by simp [Act.eval]) (hYB.there 0 _ (by rw [List.size_toArray, blist_length, HLS.out.2.1]; decide)) (size_hash' HLS.out.2.1) (one_hash SB) rfl ?_
                    obtain ⟨wz, hwwz⟩ : ∃ x, x = wy.setCells gB 0 (blist SB).toArray.toList := ⟨_, rfl⟩
                    rw [← hwwz]
                    have hBwz : Below W.heap.size W wz := by rw [hwwz]; exact below_setAll hLgB _ 0 hBwy
                    have hVgBwz : Has wz gB 25 (blist SB).toArray := by rw [hwwz]; exact hYB.whole_cs (by rw [List.size_toArray, blist_length, HLS.out.2.1]; rfl)
                    refine hK.out _ _ trivial (fun _ => ?_)
                    clear hK K
                    have hVA : Has wz gA 25 (blist SA).toArray := by rw [hwwz]; exact hVgAwy.asideAll hne _ 0
                    refine wpAnyH_done (by kernel_rfl) ?_ _
                    exact ⟨gA, gB, by kernel_rfl, by kernel_rfl, by kernel_rfl, by kernel_rfl, by kernel_rfl, by kernel_rfl, hVA, hVgBwz, hBwz⟩
                  · refine step_alloc_hash (by kernel_rfl) rfl _ rfl ?_
                    obtain ⟨wx2, hwwx2⟩ : ∃ x, x = wx1.alloc (.cells z32 25) := ⟨_, rfl⟩
                    obtain ⟨gB, hgB⟩ : ∃ x, x = wx1.heap.size := ⟨_, rfl⟩
                    rw [← hwwx2, ← hgB]
                    have hBwx2 : Below W.heap.size W wx2 := by rw [hwwx2]; exact hBwx1.alloc hBwx1.size _
                    have hZgBwx2 : Has wx2 gB 25 z32 := by rw [hwwx2, hgB]; exact Has.fresh _ _ _
                    have hLgB : W.heap.size ≤ gB := by rw [hgB]; exact hBwx1.size
                    have hne : gA ≠ gB := by
                      have := hZgAwx1.lt
                      rw [hgB]
                      omega
                    have hZgAwx2 : Has wx2 gA 25 z32 := by rw [hwwx2]; exact hZgAwx1.past _
                    clear hwwx2 hgB
                    refine hK.out _ _ trivial (fun _ => ?_)
                    clear hK K
                    simp only [Act.put, List.setIfInBounds_toArray, List.set_cons_zero, List.set_cons_succ]
                    refine wpAnyH_ready (rs := [10]) (by kernel_rfl) (by simp) ?_
                    refine AllReadyH.cons rfl (fun K hK => ?_) (AllReadyH.nil)
                    refine step_tree (by kernel_rfl) 53 _ rfl _ _ (by kernel_rfl) (HC.out.2.1 wx2 hBwx2) _ rfl ?_
                    intro wx3 hbwx3
                    have hBwx3 := hBwx2.trans (hbwx3.mono hBwx2.size)
                    have hZgAwx3 := hZgAwx2.under hbwx3 hZgAwx2.lt
                    have hZgBwx3 := hZgBwx2.under hbwx3 hZgBwx2.lt
                    refine hK.out _ _ trivial (fun _ => ?_)
                    clear hK K
                    simp only [Act.put, List.setIfInBounds_toArray, List.set_cons_zero, List.set_cons_succ]
                    refine wpAnyH_ready (rs := [13]) (by kernel_rfl) (by simp) ?_
                    refine AllReadyH.cons rfl (fun K hK => ?_) AllReadyH.nil
                    refine step_store_midR (by kernel_rfl) 25 (.tmp 4) (.tmp 48) rfl gA 0 (blist SA).toArray (by simp [Act.eval]) (by simp [Act.eval]) (hZgAwx3.there 0 _ (by rw [List.size_toArray, blist_length, HLS.out.1]; decide)) (size_hash' HLS.out.1) (one_hash SA) rfl ?_
                    obtain ⟨wy, hwwy⟩ : ∃ x, x = wx3.setCells gA 0 (blist SA).toArray.toList := ⟨_, rfl⟩
                    rw [← hwwy]
                    have hBwy : Below W.heap.size W wy := by rw [hwwy]; exact below_setAll hLgA _ 0 hBwx3
                    have hVgAwy : Has wy gA 25 (blist SA).toArray := by rw [hwwy]; exact hZgAwx3.whole_cs (by rw [List.size_toArray, blist_length, HLS.out.1]; rfl)
                    refine hK.out _ _ trivial (fun _ => ?_)
                    clear hK K
                    have hYB : Has wy gB 25 z32 := by rw [hwwy]; exact hZgBwx3.asideAll (fun e => hne e.symm) _ 0
                    refine wpAnyH_ready (rs := [14]) (by kernel_rfl) (by simp) ?_
                    refine AllReadyH.cons rfl (fun K hK => ?_) AllReadyH.nil
                    refine step_store_midR (by kernel_rfl) 25 (.tmp 5) (.tmp 54) rfl gB 0 (blist SB).toArray (by simp [Act.eval]) (by simp [Act.eval]) (hYB.there 0 _ (by rw [List.size_toArray, blist_length, HLS.out.2.1]; decide)) (size_hash' HLS.out.2.1) (one_hash SB) rfl ?_
                    obtain ⟨wz, hwwz⟩ : ∃ x, x = wy.setCells gB 0 (blist SB).toArray.toList := ⟨_, rfl⟩
                    rw [← hwwz]
                    have hBwz : Below W.heap.size W wz := by rw [hwwz]; exact below_setAll hLgB _ 0 hBwy
                    have hVgBwz : Has wz gB 25 (blist SB).toArray := by rw [hwwz]; exact hYB.whole_cs (by rw [List.size_toArray, blist_length, HLS.out.2.1]; rfl)
                    refine hK.out _ _ trivial (fun _ => ?_)
                    clear hK K
                    have hVA : Has wz gA 25 (blist SA).toArray := by rw [hwwz]; exact hVgAwy.asideAll hne _ 0
                    refine wpAnyH_done (by kernel_rfl) ?_ _
                    exact ⟨gA, gB, by kernel_rfl, by kernel_rfl, by kernel_rfl, by kernel_rfl, by kernel_rfl, by kernel_rfl, hVA, hVgBwz, hBwz⟩
                · refine step_alloc_hash (by kernel_rfl) rfl _ rfl ?_
                  obtain ⟨wx1, hwwx1⟩ : ∃ x, x = wx0.alloc (.cells z32 25) := ⟨_, rfl⟩
                  obtain ⟨gB, hgB⟩ : ∃ x, x = wx0.heap.size := ⟨_, rfl⟩
                  rw [← hwwx1, ← hgB]
                  have hBwx1 : Below W.heap.size W wx1 := by rw [hwwx1]; exact hBwx0.alloc hBwx0.size _
                  have hZgBwx1 : Has wx1 gB 25 z32 := by rw [hwwx1, hgB]; exact Has.fresh _ _ _
                  have hLgB : W.heap.size ≤ gB := by rw [hgB]; exact hBwx0.size
                  have hne : gA ≠ gB := by
                    have := hZgAwx0.lt
                    rw [hgB]
                    omega
                  have hZgAwx1 : Has wx1 gA 25 z32 := by rw [hwwx1]; exact hZgAwx0.past _
                  clear hwwx1 hgB
                  refine hK.out _ _ trivial (fun _ => ?_)
                  clear hK K
                  simp only [Act.put, List.setIfInBounds_toArray, List.set_cons_zero, List.set_cons_succ]
                  refine wpAnyH_ready (rs := [4]) (by kernel_rfl) (by simp) ?_
                  refine AllReadyH.cons rfl (fun K hK => ?_) (AllReadyH.nil)
                  refine step_tree (by kernel_rfl) 47 _ rfl _ _ (by kernel_rfl) (HC.out.1 wx1 hBwx1) _ rfl ?_
                  intro wx2 hbwx2
                  have hBwx2 := hBwx1.trans (hbwx2.mono hBwx1.size)
                  have hZgAwx2 := hZgAwx1.under hbwx2 hZgAwx1.lt
                  have hZgBwx2 := hZgBwx1.under hbwx2 hZgBwx1.lt
                  refine hK.out _ _ trivial (fun _ => ?_)
                  clear hK K
                  simp only [Act.put, List.setIfInBounds_toArray, List.set_cons_zero, List.set_cons_succ]
                  refine wpAnyH_ready (rs := [10]) (by kernel_rfl) (by simp) ?_
                  refine AllReadyH.cons rfl (fun K hK => ?_) (AllReadyH.nil)
                  refine step_tree (by kernel_rfl) 53 _ rfl _ _ (by kernel_rfl) (HC.out.2.1 wx2 hBwx2) _ rfl ?_
                  intro wx3 hbwx3
                  have hBwx3 := hBwx2.trans (hbwx3.mono hBwx2.size)
                  have hZgAwx3 := hZgAwx2.under hbwx3 hZgAwx2.lt
                  have hZgBwx3 := hZgBwx2.under hbwx3 hZgBwx2.lt
                  refine hK.out _ _ trivial (fun _ => ?_)
                  clear hK K
                  simp only [Act.put, List.setIfInBounds_toArray, List.set_cons_zero, List.set_cons_succ]
                  refine wpAnyH_ready (rs := [13]) (by kernel_rfl) (by simp) ?_
                  refine AllReadyH.cons rfl (fun K hK => ?_) AllReadyH.nil
                  refine step_store_midR (by kernel_rfl) 25 (.tmp 4) (.tmp 48) rfl gA 0 (blist SA).toArray (by simp [Act.eval]) (by simp [Act.eval]) (hZgAwx3.there 0 _ (by rw [List.size_toArray, blist_length, HLS.out.1]; decide)) (size_hash' HLS.out.1) (one_hash SA) rfl ?_
                  obtain ⟨wy, hwwy⟩ : ∃ x, x = wx3.setCells gA 0 (blist SA).toArray.toList := ⟨_, rfl⟩
                  rw [← hwwy]
                  have hBwy : Below W.heap.size W wy := by rw [hwwy]; exact below_setAll hLgA _ 0 hBwx3
                  have hVgAwy : Has wy gA 25 (blist SA).toArray := by rw [hwwy]; exact hZgAwx3.whole_cs (by rw [List.size_toArray, blist_length, HLS.out.1]; rfl)
                  refine hK.out _ _ trivial (fun _ => ?_)
                  clear hK K
                  have hYB : Has wy gB 25 z32 := by rw [hwwy]; exact hZgBwx3.asideAll (fun e => hne e.symm) _ 0
                  refine wpAnyH_ready (rs := [14]) (by kernel_rfl) (by simp) ?_
                  refine AllReadyH.cons rfl (fun K hK => ?_) AllReadyH.nil
                  refine step_store_midR (by kernel_rfl) 25 (.tmp 5) (.tmp 54) rfl gB 0 (blist SB).toArray (by simp [Act.eval]) (by simp [Act.eval]) (hYB.there 0 _ (by rw [List.size_toArray, blist_length, HLS.out.2.1]; decide)) (size_hash' HLS.out.2.1) (one_hash SB) rfl ?_
                  obtain ⟨wz, hwwz⟩ : ∃ x, x = wy.setCells gB 0 (blist SB).toArray.toList := ⟨_, rfl⟩
                  rw [← hwwz]
                  have hBwz : Below W.heap.size W wz := by rw [hwwz]; exact below_setAll hLgB _ 0 hBwy
                  have hVgBwz : Has wz gB 25 (blist SB).toArray := by rw [hwwz]; exact hYB.whole_cs (by rw [List.size_toArray, blist_length, HLS.out.2.1]; rfl)
                  refine hK.out _ _ trivial (fun _ => ?_)
                  clear hK K
                  have hVA : Has wz gA 25 (blist SA).toArray := by rw [hwwz]; exact hVgAwy.asideAll hne _ 0
                  refine wpAnyH_done (by kernel_rfl) ?_ _
                  exact ⟨gA, gB, by kernel_rfl, by kernel_rfl, by kernel_rfl, by kernel_rfl, by kernel_rfl, by kernel_rfl, hVA, hVgBwz, hBwz⟩
              · refine step_alloc_hash (by kernel_rfl) rfl _ rfl ?_
                obtain ⟨wx0, hwwx0⟩ : ∃ x, x = wd.alloc (.cells z32 25) := ⟨_, rfl⟩
                obtain ⟨gB, hgB⟩ : ∃ x, x = wd.heap.size := ⟨_, rfl⟩
                rw [← hwwx0, ← hgB]
                have hBwx0 : Below W.heap.size W wx0 := by rw [hwwx0]; exact hBwd.alloc hBwd.size _
                have hZgBwx0 : Has wx0 gB 25 z32 := by rw [hwwx0, hgB]; exact Has.fresh _ _ _
                have hLgB : W.heap.size ≤ gB := by rw [hgB]; exact hBwd.size
                clear hwwx0 hgB
                refine hK.out _ _ trivial (fun _ => ?_)
                clear hK K
                simp only [Act.put, List.setIfInBounds_toArray, List.set_cons_zero, List.set_cons_succ]
                refine wpAnyH_ready (rs := [4, 11]) (by kernel_rfl) (by simp) ?_
                refine AllReadyH.cons rfl (fun K hK => ?_) (AllReadyH.cons rfl (fun K hK => ?_) (AllReadyH.nil))
                · refine step_tree (by kernel_rfl) 47 _ rfl _ _ (by kernel_rfl) (HC.out.1 wx0 hBwx0) _ rfl ?_
                  intro wx1 hbwx1
                  have hBwx1 := hBwx0.trans (hbwx1.mono hBwx0.size)
                  have hZgBwx1 := hZgBwx0.under hbwx1 hZgBwx0.lt
                  refine hK.out _ _ trivial (fun _ => ?_)
                  clear hK K
                  simp only [Act.put, List.setIfInBounds_toArray, List.set_cons_zero, List.set_cons_succ]
                  refine wpAnyH_ready (rs := [10, 11]) (by kernel_rfl) (by simp) ?_
                  refine AllReadyH.cons rfl (fun K hK => ?_) (AllReadyH.cons rfl (fun K hK => ?_) (AllReadyH.nil))
                  · refine step_tree (by kernel_rfl) 53 _ rfl _ _ (by kernel_rfl) (HC.out.2.1 wx1 hBwx1) _ rfl ?_
                    intro wx2 hbwx2
                    have hBwx2 := hBwx1.trans (hbwx2.mono hBwx1.size)
                    have hZgBwx2 := hZgBwx1.under hbwx2 hZgBwx1.lt
                    refine hK.out _ _ trivial (fun _ => ?_)
                    clear hK K
                    simp only [Act.put, List.setIfInBounds_toArray, List.set_cons_zero, List.set_cons_succ]
                    refine wpAnyH_ready (rs := [11]) (by kernel_rfl) (by simp) ?_
                    refine AllReadyH.cons rfl (fun K hK => ?_) (AllReadyH.nil)
                    refine step_alloc_hash (by kernel_rfl) rfl _ rfl ?_
                    obtain ⟨wx3, hwwx3⟩ : ∃ x, x = wx2.alloc (.cells z32 25) := ⟨_, rfl⟩
                    obtain ⟨gA, hgA⟩ : ∃ x, x = wx2.heap.size := ⟨_, rfl⟩
                    rw [← hwwx3, ← hgA]
                    have hBwx3 : Below W.heap.size W wx3 := by rw [hwwx3]; exact hBwx2.alloc hBwx2.size _
                    have hZgAwx3 : Has wx3 gA 25 z32 := by rw [hwwx3, hgA]; exact Has.fresh _ _ _
                    have hLgA : W.heap.size ≤ gA := by rw [hgA]; exact hBwx2.size
                    have hne : gA ≠ gB := by
                      have := hZgBwx2.lt
                      rw [hgA]
                      omega
                    have hZgBwx3 : Has wx3 gB 25 z32 := by rw [hwwx3]; exact hZgBwx2.past _
                    clear hwwx3 hgA
                    refine hK.out _ _ trivial (fun _ => ?_)
                    clear hK K
                    simp only [Act.put, List.setIfInBounds_toArray, List.set_cons_zero, List.set_cons_succ]
                    refine wpAnyH_ready (rs := [13]) (by kernel_rfl) (by simp) ?_
                    refine AllReadyH.cons rfl (fun K hK => ?_) AllReadyH.nil
                    refine step_store_midR (by kernel_rfl) 25 (.tmp 4) (.tmp 48) rfl gA 0 (blist SA).toArray (by simp [Act.eval]) (by simp [Act.eval]) (hZgAwx3.there 0 _ (by rw [List.size_toArray, blist_length, HLS.out.1]; decide)) (size_hash' HLS.out.1) (one_hash SA) rfl ?_
                    obtain ⟨wy, hwwy⟩ : ∃ x, x = wx3.setCells gA 0 (blist SA).toArray.toList := ⟨_, rfl⟩
                    rw [← hwwy]
                    have hBwy : Below W.heap.size W wy := by rw [hwwy]; exact below_setAll hLgA _ 0 hBwx3
                    have hVgAwy : Has wy gA 25 (blist SA).toArray := by rw [hwwy]; exact hZgAwx3.whole_cs (by rw [List.size_toArray, blist_length, HLS.out.1]; rfl)
                    refine hK.out _ _ trivial (fun _ => ?_)
                    clear hK K
                    have hYB : Has wy gB 25 z32 := by rw [hwwy]; exact hZgBwx3.asideAll (fun e => hne e.symm) _ 0
                    refine wpAnyH_ready (rs := [14]) (by kernel_rfl) (by simp) ?_
                    refine AllReadyH.cons rfl (fun K hK => ?_) AllReadyH.nil
                    refine step_store_midR (by kernel_rfl) 25 (.tmp 5) (.tmp 54) rfl gB 0 (blist SB).toArray (by simp [Act.eval]) (by simp [Act.eval]) (hYB.there 0 _ (by rw [List.size_toArray, blist_length, HLS.out.2.1]; decide)) (size_hash' HLS.out.2.1) (one_hash SB) rfl ?_
                    obtain ⟨wz, hwwz⟩ : ∃ x, x = wy.setCells gB 0 (blist SB).toArray.toList := ⟨_, rfl⟩
                    rw [← hwwz]
                    have hBwz : Below W.heap.size W wz := by rw [hwwz]; exact below_setAll hLgB _ 0 hBwy
                    have hVgBwz : Has wz gB 25 (blist SB).toArray := by rw [hwwz]; exact hYB.whole_cs (by rw [List.size_toArray, blist_length, HLS.out.2.1]; rfl)
                    refine hK.out _ _ trivial (fun _ => ?_)
                    clear hK K
                    have hVA : Has wz gA 25 (blist SA).toArray := by rw [hwwz]; exact hVgAwy.asideAll hne _ 0
                    refine wpAnyH_done (by kernel_rfl) ?_ _
                    exact ⟨gA, gB, by kernel_rfl, by kernel_rfl, by kernel_rfl, by kernel_rfl, by kernel_rfl, by kernel_rfl, hVA, hVgBwz, hBwz⟩
                  · refine step_alloc_hash (by kernel_rfl) rfl _ rfl ?_
                    obtain ⟨wx2, hwwx2⟩ : ∃ x, x = wx1.alloc (.cells z32 25) := ⟨_, rfl⟩
                    obtain ⟨gA, hgA⟩ : ∃ x, x = wx1.heap.size := ⟨_, rfl⟩
                    rw [← hwwx2, ← hgA]
                    have hBwx2 : Below W.heap.size W wx2 := by rw [hwwx2]; exact hBwx1.alloc hBwx1.size _
                    have hZgAwx2 : Has wx2 gA 25 z32 := by rw [hwwx2, hgA]; exact Has.fresh _ _ _
                    have hLgA : W.heap.size ≤ gA := by rw [hgA]; exact hBwx1.size
                    have hne : gA ≠ gB := by
                      have := hZgBwx1.lt
                      rw [hgA]
                      omega
                    have hZgBwx2 : Has wx2 gB 25 z32 := by rw [hwwx2]; exact hZgBwx1.past _
                    clear hwwx2 hgA
                    refine hK.out _ _ trivial (fun _ => ?_)
                    clear hK K
                    simp only [Act.put, List.setIfInBounds_toArray, List.set_cons_zero, List.set_cons_succ]
                    refine wpAnyH_ready (rs := [10]) (by kernel_rfl) (by simp) ?_
                    refine AllReadyH.cons rfl (fun K hK => ?_) (AllReadyH.nil)
                    refine step_tree (by kernel_rfl) 53 _ rfl _ _ (by kernel_rfl) (HC.out.2.1 wx2 hBwx2) _ rfl ?_
                    intro wx3 hbwx3
                    have hBwx3 := hBwx2.trans (hbwx3.mono hBwx2.size)
                    have hZgBwx3 := hZgBwx2.under hbwx3 hZgBwx2.lt
                    have hZgAwx3 := hZgAwx2.under hbwx3 hZgAwx2.lt
                    refine hK.out _ _ trivial (fun _ => ?_)
                    clear hK K
                    simp only [Act.put, List.setIfInBounds_toArray, List.set_cons_zero, List.set_cons_succ]
                    refine wpAnyH_ready (rs := [13]) (by kernel_rfl) (by simp) ?_
                    refine AllReadyH.cons rfl (fun K hK => ?_) AllReadyH.nil
                    refine step_store_midR (by kernel_rfl) 25 (.tmp 4) (.tmp 48) rfl gA 0 (blist SA).toArray (by simp [Act.eval]) (by simp [Act.eval]) (hZgAwx3.there 0 _ (by rw [List.size_toArray, blist_length, HLS.out.1]; decide)) (size_hash' HLS.out.1) (one_hash SA) rfl ?_
                    obtain ⟨wy, hwwy⟩ : ∃ x, x = wx3.setCells gA 0 (blist SA).toArray.toList := ⟨_, rfl⟩
                    rw [← hwwy]
                    have hBwy : Below W.heap.size W wy := by rw [hwwy]; exact below_setAll hLgA _ 0 hBwx3
                    have hVgAwy : Has wy gA 25 (blist SA).toArray := by rw [hwwy]; exact hZgAwx3.whole_cs (by rw [List.size_toArray, blist_length, HLS.out.1]; rfl)
                    refine hK.out _ _ trivial (fun _ => ?_)
                    clear hK K
                    have hYB : Has wy gB 25 z32 := by rw [hwwy]; exact hZgBwx3.asideAll (fun e => hne e.symm) _ 0
                    refine wpAnyH_ready (rs := [14]) (by kernel_rfl) (by simp) ?_
                    refine AllReadyH.cons rfl (fun K hK => ?_) AllReadyH.nil
                    refine step_store_midR (by kernel_rfl) 25 (.tmp 5) (.tmp 54) rfl gB 0 (blist SB).toArray (by simp [Act.eval]) (by simp [Act.eval]) (hYB.there 0 _ (by rw [List.size_toArray, blist_length, HLS.out.2.1]; decide)) (size_hash' HLS.out.2.1) (one_hash SB) rfl ?_
                    obtain ⟨wz, hwwz⟩ : ∃ x, x = wy.setCells gB 0 (blist SB).toArray.toList := ⟨_, rfl⟩
                    rw [← hwwz]
                    have hBwz : Below W.heap.size W wz := by rw [hwwz]; exact below_setAll hLgB _ 0 hBwy
                    have hVgBwz : Has wz gB 25 (blist SB).toArray := by rw [hwwz]; exact hYB.whole_cs (by rw [List.size_toArray, blist_length, HLS.out.2.1]; rfl)
                    refine hK.out _ _ trivial (fun _ => ?_)
                    clear hK K
                    have hVA : Has wz gA 25 (blist SA).toArray := by rw [hwwz]; exact hVgAwy.asideAll hne _ 0
                    refine wpAnyH_done (by kernel_rfl) ?_ _
                    exact ⟨gA, gB, by kernel_rfl, by kernel_rfl, by kernel_rfl, by kernel_rfl, by kernel_rfl, by kernel_rfl, hVA, hVgBwz, hBwz⟩
                · refine step_alloc_hash (by kernel_rfl) rfl _ rfl ?_
                  obtain ⟨wx1, hwwx1⟩ : ∃ x, x = wx0.alloc (.cells z32 25) := ⟨_, rfl⟩
                  obtain ⟨gA, hgA⟩ : ∃ x, x = wx0.heap.size := ⟨_, rfl⟩
                  rw [← hwwx1, ← hgA]
                  have hBwx1 : Below W.heap.size W wx1 := by rw [hwwx1]; exact hBwx0.alloc hBwx0.size _
                  have hZgAwx1 : Has wx1 gA 25 z32 := by rw [hwwx1, hgA]; exact Has.fresh _ _ _
                  have hLgA : W.heap.size ≤ gA := by rw [hgA]; exact hBwx0.size
                  have hne : gA ≠ gB := by
                    have := hZgBwx0.lt
                    rw [hgA]
                    omega
                  have hZgBwx1 : Has wx1 gB 25 z32 := by rw [hwwx1]; exact hZgBwx0.past _
                  clear hwwx1 hgA
                  refine hK.out _ _ trivial (fun _ => ?_)
                  clear hK K
                  simp only [Act.put, List.setIfInBounds_toArray, List.set_cons_zero, List.set_cons_succ]
                  refine wpAnyH_ready (rs := [4]) (by kernel_rfl) (by simp) ?_
                  refine AllReadyH.cons rfl (fun K hK => ?_) (AllReadyH.nil)
                  refine step_tree (by kernel_rfl) 47 _ rfl _ _ (by kernel_rfl) (HC.out.1 wx1 hBwx1) _ rfl ?_
                  intro wx2 hbwx2
                  have hBwx2 := hBwx1.trans (hbwx2.mono hBwx1.size)
                  have hZgBwx2 := hZgBwx1.under hbwx2 hZgBwx1.lt
                  have hZgAwx2 := hZgAwx1.under hbwx2 hZgAwx1.lt
                  refine hK.out _ _ trivial (fun _ => ?_)
                  clear hK K
                  simp only [Act.put, List.setIfInBounds_toArray, List.set_cons_zero, List.set_cons_succ]
                  refine wpAnyH_ready (rs := [10]) (by kernel_rfl) (by simp) ?_
                  refine AllReadyH.cons rfl (fun K hK => ?_) (AllReadyH.nil)
                  refine step_tree (by kernel_rfl) 53 _ rfl _ _ (by kernel_rfl) (HC.out.2.1 wx2 hBwx2) _ rfl ?_
                  intro wx3 hbwx3
                  have hBwx3 := hBwx2.trans (hbwx3.mono hBwx2.size)
                  have hZgBwx3 := hZgBwx2.under hbwx3 hZgBwx2.lt
                  have hZgAwx3 := hZgAwx2.under hbwx3 hZgAwx2.lt
                  refine hK.out _ _ trivial (fun _ => ?_)
                  clear hK K
                  simp only [Act.put, List.setIfInBounds_toArray, List.set_cons_zero, List.set_cons_succ]
                  refine wpAnyH_ready (rs := [13]) (by kernel_rfl) (by simp) ?_
                  refine AllReadyH.cons rfl (fun K hK => ?_) AllReadyH.nil
                  refine step_store_midR (by kernel_rfl) 25 (.tmp 4) (.tmp 48) rfl gA 0 (blist SA).toArray (by simp [Act.eval]) (by simp [Act.eval]) (hZgAwx3.there 0 _ (by rw [List.size_toArray, blist_length, HLS.out.1]; decide)) (size_hash' HLS.out.1) (one_hash SA) rfl ?_
                  obtain ⟨wy, hwwy⟩ : ∃ x, x = wx3.setCells gA 0 (blist SA).toArray.toList := ⟨_, rfl⟩
                  rw [← hwwy]
                  have hBwy : Below W.heap.size W wy := by rw [hwwy]; exact below_setAll hLgA _ 0 hBwx3
                  have hVgAwy : Has wy gA 25 (blist SA).toArray := by rw [hwwy]; exact hZgAwx3.whole_cs (by rw [List.size_toArray, blist_length, HLS.out.1]; rfl)
                  refine hK.out _ _ trivial (fun _ => ?_)
                  clear hK K
                  have hYB : Has wy gB 25 z32 := by rw [hwwy]; exact hZgBwx3.asideAll (fun e => hne e.symm) _ 0
                  refine wpAnyH_ready (rs := [14]) (by kernel_rfl) (by simp) ?_
                  refine AllReadyH.cons rfl (fun K hK => ?_) AllReadyH.nil
                  refine step_store_midR (by kernel_rfl) 25 (.tmp 5) (.tmp 54) rfl gB 0 (blist SB).toArray (by simp [Act.eval]) (by simp [Act.eval]) (hYB.there 0 _ (by rw [List.size_toArray, blist_length, HLS.out.2.1]; decide)) (size_hash' HLS.out.2.1) (one_hash SB) rfl ?_
                  obtain ⟨wz, hwwz⟩ : ∃ x, x = wy.setCells gB 0 (blist SB).toArray.toList := ⟨_, rfl⟩
                  rw [← hwwz]
                  have hBwz : Below W.heap.size W wz := by rw [hwwz]; exact below_setAll hLgB _ 0 hBwy
                  have hVgBwz : Has wz gB 25 (blist SB).toArray := by rw [hwwz]; exact hYB.whole_cs (by rw [List.size_toArray, blist_length, HLS.out.2.1]; rfl)
                  refine hK.out _ _ trivial (fun _ => ?_)
                  clear hK K
                  have hVA : Has wz gA 25 (blist SA).toArray := by rw [hwwz]; exact hVgAwy.asideAll hne _ 0
                  refine wpAnyH_done (by kernel_rfl) ?_ _
                  exact ⟨gA, gB, by kernel_rfl, by kernel_rfl, by kernel_rfl, by kernel_rfl, by kernel_rfl, by kernel_rfl, hVA, hVgBwz, hBwz⟩
            · rintro ⟨tm, df⟩ w' ⟨gA, gB, rfl, h64, h0, h3, h4, h5, hVA, hVB, hB8⟩
              obtain ⟨f, hf, k0, k3, k4, k5⟩ : ∃ f : Nat → Value, tm = (f 0 :: f 1 :: f 2 :: f 3 :: f 4 :: f 5 :: f 6 :: f 7 :: f 8 :: f 9 :: f 10 :: f 11 :: f 12 :: f 13 :: f 14 :: f 15 :: f 16 :: f 17 :: f 18 :: f 19 :: f 20 :: f 21 :: f 22 :: f 23 :: f 24 :: f 25 :: f 26 :: f 27 :: f 28 :: f 29 :: f 30 :: f 31 :: f 32 :: f 33 :: f 34 :: f 35 :: f 36 :: f 37 :: f 38 :: f 39 :: f 40 :: f 41 :: f 42 :: f 43 :: f 44 :: f 45 :: f 46 :: f 47 :: f 48 :: f 49 :: f 50 :: f 51 :: f 52 :: f 53 :: f 54 :: f 55 :: f 56 :: f 57 :: f 58 :: f 59 :: f 60 :: f 61 :: f 62 :: f 63 :: []).toArray ∧ f 0 = .slice (some y) n c ∧ f 3 = .int .i64 (N : Int) ∧ f 4 = .pointer (some ⟨gA, 0, none⟩) ∧ f 5 = .pointer (some ⟨gB, 0, none⟩) := ⟨fun i => tm.getD i undef, arr_lit tm 64 h64, h0, h3, h4, h5⟩
              clear h64 h0 h3 h4 h5
              subst hf
              rw [k0, k3, k4, k5]
              clear k0 k3 k4 k5
              go_wp2_with fail
              refine wp_region_held_drew (S := fun _ => True) (by kernel_rfl) trivial (fun hHeld => ?_)
              obtain ⟨wd, hwd⟩ : ∃ x, x = w'.drew := ⟨_, rfl⟩
              rw [← hwd]
              have hBwd : Below W.heap.size W wd := by rw [hwd]; exact hB8.drew
              have hVAwd : Has wd gA 25 (blist SA).toArray := by rw [hwd]; exact hVA.draw
              have hVBwd : Has wd gB 25 (blist SB).toArray := by rw [hwd]; exact hVB.draw
              clear hwd
              refine take_at (v := ?_) 0 55 rfl rfl (by kernel_rfl) (by kernel_rfl) (by kernel_rfl) (fun _ _ _ h => h) hHeld (Or.inl ⟨by rfl, ?_⟩) rfl ?_
              rotate_left
              · intro wq hSw
                go_simp
                try with_reducible rfl
              simp only [List.set_cons_zero, List.set_cons_succ]
              refine take_at (v := ?_) 1 56 rfl rfl (by kernel_rfl) (by kernel_rfl) (by kernel_rfl) (fun _ _ _ h => h) hHeld (Or.inl ⟨by rfl, ?_⟩) rfl ?_
              rotate_left
              · intro wq hSw
                go_simp
                try with_reducible rfl
              simp only [List.set_cons_zero, List.set_cons_succ]
              refine take_at (v := ?_) 2 57 rfl rfl (by kernel_rfl) (by kernel_rfl) (by kernel_rfl) (fun _ _ _ h => h) hHeld (Or.inl ⟨by rfl, ?_⟩) rfl ?_
              rotate_left
              · intro wq hSw
                go_simp
                try with_reducible rfl
              simp only [List.set_cons_zero, List.set_cons_succ]
              refine take_at (v := ?_) 4 59 rfl rfl (by kernel_rfl) (by kernel_rfl) (by kernel_rfl) (fun _ _ _ h => h) hHeld (Or.inl ⟨by rfl, ?_⟩) rfl ?_
              rotate_left
              · intro wq hSw
                go_simp
                try with_reducible rfl
              simp only [List.set_cons_zero, List.set_cons_succ]
              refine take_at (v := ?_) 5 60 rfl rfl (by kernel_rfl) (by kernel_rfl) (by kernel_rfl) (fun _ _ _ h => h) hHeld (Or.inl ⟨by rfl, ?_⟩) rfl ?_
              rotate_left
              · intro wq hSw
                go_simp
                try with_reducible rfl
              simp only [List.set_cons_zero, List.set_cons_succ]
              refine wpAnyH_ready (rs := [3, 6]) (by kernel_rfl) (by simp) ?_
              refine AllReadyH.cons rfl (fun K hK => ?_) (AllReadyH.cons rfl (fun K hK => ?_) (AllReadyH.nil))
              · go_simp
                go_at_call 15
                refine (HC.out.2.2.1 wd hBwd).mono ?_
                rintro e wv0 ⟨rfl, hbwv0⟩
                have hBwv0 := hBwd.trans (hbwv0.mono hBwd.size)
                have hVAwv0 := hVAwd.under hbwv0 hVAwd.lt
                have hVBwv0 := hVBwd.under hbwv0 hVBwd.lt
                refine hK.out _ _ trivial (fun _ => ?_)
                clear hK K
                try simp only [Act.put, List.setIfInBounds_toArray, List.set_cons_zero, List.set_cons_succ]
                refine wpAnyH_ready (rs := [6]) (by kernel_rfl) (by simp) ?_
                refine AllReadyH.cons rfl (fun K hK => ?_) (AllReadyH.nil)
                go_simp
                obtain ⟨wv1, hwwv1⟩ : ∃ x, x = wv0.alloc (.cells #[.slice (some ⟨gA, 0, none⟩) 32 32, .slice (some ⟨gB, 0, none⟩) 32 32] 22) := ⟨_, rfl⟩
                obtain ⟨gP, hgP⟩ : ∃ x, x = wv0.heap.size := ⟨_, rfl⟩
                rw [← hwwv1, ← hgP]
                have hBwv1 : Below W.heap.size W wv1 := by rw [hwwv1]; exact hBwv0.alloc hBwv0.size _
                have hPwv1 : Parts wv1 (some ⟨gP, 0, none⟩) 2 [SA, SB] := by rw [hwwv1, hgP]; exact parts_two 22 (bytes_of_hasR hVAwv0 HLS.out.1) (Nat.le_refl _) (fun e => by cases e) (bytes_of_hasR hVBwv0 HLS.out.2.1) (Nat.le_refl _) (fun e => by cases e)
                clear hwwv1 hgP
                refine hK.out _ _ trivial (fun _ => ?_)
                clear hK K
                try simp only [Act.put, List.setIfInBounds_toArray, List.set_cons_zero, List.set_cons_succ]
                refine wpAnyH_ready (rs := [7]) (by kernel_rfl) (by simp) ?_
                refine AllReadyH.cons rfl (fun K hK => ?_) AllReadyH.nil
                go_simp
                go_at_call 11
                refine (HC.out.2.2.2 _ wv1 hBwv1 hPwv1).mono ?_
                rintro e wr ⟨rfl, hbr⟩
                have hBr := hBwv1.trans (hbr.mono hBwv1.size)
                refine hK.out _ _ trivial (fun _ => ?_)
                clear hK K
                try simp only [Act.put, List.setIfInBounds_toArray, List.set_cons_zero, List.set_cons_succ]
                refine take_at 8 63 rfl rfl (by kernel_rfl) (by kernel_rfl) (by kernel_rfl) (fun _ _ _ h => h) hHeld (yieldsIf_eql_same (by rfl) 25 5 25 32 (.tmp 58) (.tmp 62) rfl D (by rfl) (by rfl) (by kernel_rfl) Tryd.underlying25 Tryd.underlying5 (by kernel_rfl) HLS.out.2.2) rfl ?_
                simp only [List.set_cons_zero, List.set_cons_succ]
                refine take_at (v := ?_) 9 2 rfl rfl (by kernel_rfl) (by kernel_rfl) (by kernel_rfl) (fun _ _ _ h => h) hHeld (Or.inl ⟨by rfl, ?_⟩) rfl ?_
                rotate_left
                · intro wq hSw
                  go_simp
                  try with_reducible rfl
                simp only [List.set_cons_zero, List.set_cons_succ]
                refine wpAnyH_done (by kernel_rfl) ?_ _
                go_wp2_with fail
                go_ret
                exact ⟨rfl, hBr⟩
              · go_simp
                obtain ⟨wv0, hwwv0⟩ : ∃ x, x = wd.alloc (.cells #[.slice (some ⟨gA, 0, none⟩) 32 32, .slice (some ⟨gB, 0, none⟩) 32 32] 22) := ⟨_, rfl⟩
                obtain ⟨gP, hgP⟩ : ∃ x, x = wd.heap.size := ⟨_, rfl⟩
                rw [← hwwv0, ← hgP]
                have hBwv0 : Below W.heap.size W wv0 := by rw [hwwv0]; exact hBwd.alloc hBwd.size _
                have hPwv0 : Parts wv0 (some ⟨gP, 0, none⟩) 2 [SA, SB] := by rw [hwwv0, hgP]; exact parts_two 22 (bytes_of_hasR hVAwd HLS.out.1) (Nat.le_refl _) (fun e => by cases e) (bytes_of_hasR hVBwd HLS.out.2.1) (Nat.le_refl _) (fun e => by cases e)
                clear hwwv0 hgP
                refine hK.out _ _ trivial (fun _ => ?_)
                clear hK K
                try simp only [Act.put, List.setIfInBounds_toArray, List.set_cons_zero, List.set_cons_succ]
                refine wpAnyH_ready (rs := [3]) (by kernel_rfl) (by simp) ?_
                refine AllReadyH.cons rfl (fun K hK => ?_) (AllReadyH.nil)
                go_simp
                go_at_call 15
                refine (HC.out.2.2.1 wv0 hBwv0).mono ?_
                rintro e wv1 ⟨rfl, hbwv1⟩
                have hBwv1 := hBwv0.trans (hbwv1.mono hBwv0.size)
                have hPwv1 := hPwv0.below hbwv1
                refine hK.out _ _ trivial (fun _ => ?_)
                clear hK K
                try simp only [Act.put, List.setIfInBounds_toArray, List.set_cons_zero, List.set_cons_succ]
                refine wpAnyH_ready (rs := [7]) (by kernel_rfl) (by simp) ?_
                refine AllReadyH.cons rfl (fun K hK => ?_) AllReadyH.nil
                go_simp
                go_at_call 11
                refine (HC.out.2.2.2 _ wv1 hBwv1 hPwv1).mono ?_
                rintro e wr ⟨rfl, hbr⟩
                have hBr := hBwv1.trans (hbr.mono hBwv1.size)
                refine hK.out _ _ trivial (fun _ => ?_)
                clear hK K
                try simp only [Act.put, List.setIfInBounds_toArray, List.set_cons_zero, List.set_cons_succ]
                refine take_at 8 63 rfl rfl (by kernel_rfl) (by kernel_rfl) (by kernel_rfl) (fun _ _ _ h => h) hHeld (yieldsIf_eql_same (by rfl) 25 5 25 32 (.tmp 58) (.tmp 62) rfl D (by rfl) (by rfl) (by kernel_rfl) Tryd.underlying25 Tryd.underlying5 (by kernel_rfl) HLS.out.2.2) rfl ?_
                simp only [List.set_cons_zero, List.set_cons_succ]
                refine take_at (v := ?_) 9 2 rfl rfl (by kernel_rfl) (by kernel_rfl) (by kernel_rfl) (fun _ _ _ h => h) hHeld (Or.inl ⟨by rfl, ?_⟩) rfl ?_
                rotate_left
                · intro wq hSw
                  go_simp
                  try with_reducible rfl
                simp only [List.set_cons_zero, List.set_cons_succ]
                refine wpAnyH_done (by kernel_rfl) ?_ _
                go_wp2_with fail
                go_ret
                exact ⟨rfl, hBr⟩
end Go.Proofs.YtopeicgcpfcccaaDoor
