/- The reference's elimination walked; the statement GfSolves of layer 1. -/
import Derived.Test.YtamigcbodplmcaaGreatGz
import Derived.Test.YtamigcbodplmcaaGreatGfEl
import Derived.Test.YtamigcbodplmcaaGreatGfTr
import Derived.RegionTactic
namespace Go.Proofs.YtamigcbodplmcaaGreat
open Go.ChangeShapes Go.WideShapes Go.ChangeAt Go.RowKit
def rowsOf (r : Nat → BitVec 64) : Array Value := cellsOf 32 fun j => .int .u64 (nb64 (r j))
theorem rowsOf_congr {r s : Nat → BitVec 64} (h : ∀ j, j < 32 → r j = s j) : rowsOf r = rowsOf s := cellsOf_congr fun j hj => by rw [h j hj]
theorem rowsOf_put {r s : Nat → BitVec 64} (i : Nat) (x : BitVec 64) (hi : s i = x) (hs : ∀ j, j < 32 → j ≠ i → s j = r j) : (rowsOf r).setIfInBounds i (.int .u64 (nb64 x)) = rowsOf s :=
  cellsOf_put _ _ i _ (by rw [hi]) fun j hj hne => by rw [hs j hj hne]
theorem rowsOf_at (r : Nat → BitVec 64) {i : Nat} (h : i < 32) : (rowsOf r)[i]? = some (.int .u64 (nb64 (r i))) := cellsOf_at _ h
theorem lastRow_bounds (r : Nat → BitVec 64) (b u : Nat) : ∀ i, Gf.lastRow r b u i < 0 ∧ Gf.lastRow r b u i = -1 ∨ ∃ k : Nat, Gf.lastRow r b u i = (k : Int) ∧ u ≤ k ∧ k < i
  | 0 => .inl ⟨by show (-1 : Int) < 0; decide, rfl⟩
  | i + 1 => by
    unfold Gf.lastRow
    split
    · rename_i h
      exact .inr ⟨i, rfl, h.1, by omega⟩
    · rcases lastRow_bounds r b u i with h | ⟨k, h1, h2, h3⟩
      · exact .inl h
      · exact .inr ⟨k, h1, h2, by omega⟩
theorem lastRow_start (r : Nat → BitVec 64) (b u : Nat) : Gf.lastRow r b u u = -1 := by
  rcases lastRow_bounds r b u u with h | ⟨k, _, h2, h3⟩
  · exact h.2
  · omega
theorem lastRow_step (r : Nat → BitVec 64) (b u i : Nat) (h : u ≤ i) : Gf.lastRow r b u (i + 1) = if (r i).getLsbD b = true then (i : Int) else Gf.lastRow r b u i := by
  rw [Gf.lastRow]
  simp [h]
theorem elim_none (b : Nat) (h : Gf.lastRow (Gf.rowAt b) b (Gf.usedAt b) 32 < 0) : Gf.rowAt (b + 1) = Gf.rowAt b ∧ Gf.usedAt (b + 1) = Gf.usedAt b := by
  have e : Gf.elimAt (b + 1) = Gf.elimAt b := by
    rw [Gf.elimAt]
    exact if_pos h
  constructor
  · funext j; unfold Gf.rowAt; rw [e]
  · unfold Gf.usedAt; rw [e]
theorem elim_some (b k : Nat) (h : Gf.lastRow (Gf.rowAt b) b (Gf.usedAt b) 32 = (k : Int)) :
    (∀ j, j < 32 → Gf.rowAt (b + 1) j = Gf.clearRow (Gf.swapRow (Gf.rowAt b) (Gf.usedAt b) k) (Gf.usedAt b) b 32 j) ∧ Gf.usedAt (b + 1) = Gf.usedAt b + 1 := by
  have e : Gf.elimAt (b + 1) = ((List.range 32).map (Gf.clearRow (Gf.swapRow (Gf.rowAt b) (Gf.usedAt b) k) (Gf.usedAt b) b 32), Gf.usedAt b + 1) := by
    rw [Gf.elimAt]
    refine (if_neg (show ¬ Gf.lastRow (Gf.rowAt b) b (Gf.usedAt b) 32 < 0 by omega)).trans ?_
    show ((List.range 32).map (Gf.clearRow (Gf.swapRow (Gf.rowAt b) (Gf.usedAt b) (Gf.lastRow (Gf.rowAt b) b (Gf.usedAt b) 32).toNat) (Gf.usedAt b) b 32), Gf.usedAt b + 1) = _
    rw [h]
    rfl
  constructor
  · intro j hj
    unfold Gf.rowAt
    rw [e]
    show ((List.range 32).map _).getD j 0 = _
    rw [List.getD_eq_getElem?_getD, List.getElem?_map, List.getElem?_range hj]
    rfl
  · rw [show Gf.usedAt (b + 1) = (Gf.elimAt (b + 1)).2 from rfl, e]
theorem clear_keep (r : Nat → BitVec 64) (u b i : Nat) (h : ¬ (i ≠ u ∧ (r i).getLsbD b = true)) : rowsOf (Gf.clearRow r u b i) = rowsOf (Gf.clearRow r u b (i + 1)) := by
  refine rowsOf_congr fun j _ => ?_
  unfold Gf.clearRow
  by_cases e : j = i
  · subst e
    rw [if_neg (by omega), if_neg (fun hh => h hh.2)]
  · by_cases h1 : j < i ∧ j ≠ u ∧ (r j).getLsbD b = true
    · rw [if_pos h1, if_pos ⟨by omega, h1.2⟩]
    · rw [if_neg h1, if_neg (fun hh => h1 ⟨by omega, hh.2⟩)]
theorem clear_put (r : Nat → BitVec 64) (u b i : Nat) (h1 : i ≠ u) (h2 : (r i).getLsbD b = true) : (rowsOf (Gf.clearRow r u b i)).setIfInBounds i (.int .u64 (nb64 (r i ^^^ r u))) = rowsOf (Gf.clearRow r u b (i + 1)) := by
  refine rowsOf_put i _ ?_ fun j _ hne => ?_
  · unfold Gf.clearRow; rw [if_pos ⟨by omega, h1, h2⟩]
  · unfold Gf.clearRow
    by_cases h1 : j < i ∧ j ≠ u ∧ (r j).getLsbD b = true
    · rw [if_pos h1, if_pos ⟨by omega, h1.2⟩]
    · rw [if_neg h1, if_neg (fun hh => h1 ⟨by omega, hh.2⟩)]
theorem clear_self (r : Nat → BitVec 64) (u b i : Nat) : Gf.clearRow r u b i i = r i := by unfold Gf.clearRow; rw [if_neg (by omega)]
theorem clear_used (r : Nat → BitVec 64) (u b i : Nat) : Gf.clearRow r u b i u = r u := by unfold Gf.clearRow; rw [if_neg (fun h => h.2.1 rfl)]
theorem clear_zero (r : Nat → BitVec 64) (u b : Nat) : rowsOf (Gf.clearRow r u b 0) = rowsOf r := rowsOf_congr fun j _ => by unfold Gf.clearRow; rw [if_neg (by omega)]
theorem swap_put (r : Nat → BitVec 64) (u k : Nat) : ((rowsOf r).setIfInBounds u (.int .u64 (nb64 (r k)))).setIfInBounds k (.int .u64 (nb64 (r u))) = rowsOf (Gf.swapRow r u k) := by
  rw [rowsOf_put (s := fun j => if j = u then r k else r j) u (r k) (by simp) (fun j _ h => by simp [h])]
  refine rowsOf_put k (r u) ?_ fun j _ hne => ?_
  · unfold Gf.swapRow
    by_cases e : k = u
    · subst e; simp
    · simp [e]
  · unfold Gf.swapRow
    simp [hne]
theorem left_none (c : BitVec 32) (b : Nat) (hp : Gf.pivotAt b = Gf.pivots.getD b 0) (h : Gf.lastRow (Gf.rowAt b) b (Gf.usedAt b) 32 < 0) : Gf.left c (b + 1) = Gf.left c b := by
  have : Gf.pivots.getD b 0 = 0 := by rw [← hp, Gf.pivotAt, if_pos h]
  rw [Gf.left, this]
  split
  · exact BitVec.xor_zero
  · rfl
theorem pivot_some (b k : Nat) (hu : Gf.usedAt b < 32) (hp : Gf.pivotAt b = Gf.pivots.getD b 0) (h : Gf.lastRow (Gf.rowAt b) b (Gf.usedAt b) 32 = (k : Int)) :
    Gf.swapRow (Gf.rowAt b) (Gf.usedAt b) k (Gf.usedAt b) = Gf.pivots.getD b 0 := by
  rw [← hp, Gf.pivotAt, if_neg (by omega), (elim_some b k h).1 _ hu, clear_used]
theorem low_rest (x : BitVec 64) : x % 4294967296#64 = 0#64 ↔ x.setWidth 32 = 0#32 := by
  rw [← BitVec.toNat_inj, ← BitVec.toNat_inj, BitVec.toNat_umod, BitVec.toNat_setWidth]
  simp only [BitVec.toNat_ofNat, Nat.reducePow, Nat.reduceMod]
theorem high_quo (x : BitVec 64) : (x / 4294967296#64).setWidth 32 = (x >>> 32).setWidth 32 := by
  rw [← BitVec.toNat_inj, BitVec.toNat_setWidth, BitVec.toNat_setWidth, BitVec.toNat_udiv, BitVec.toNat_ushiftRight, Nat.shiftRight_eq_div_pow]
  simp only [BitVec.toNat_ofNat, Nat.reducePow, Nat.reduceMod]
theorem sub_even (y : BitVec 32) : y - y % 2#32 = y &&& 0xfffffffe#32 := by
  have e : y &&& 0xfffffffe#32 = (y >>> 1) <<< 1 := Gf.lin_ext (f := fun y => y &&& 0xfffffffe#32) (g := fun y => (y >>> 1) <<< 1) (Gf.lin_and _) ((Gf.lin_shl 1).comp (Gf.lin_shr 1)) (by decide +kernel) y
  rw [e, ← BitVec.toNat_inj, BitVec.toNat_sub, BitVec.toNat_umod, BitVec.toNat_shiftLeft, BitVec.toNat_ushiftRight, Nat.shiftLeft_eq, Nat.shiftRight_eq_div_pow]
  have := y.isLt
  simp only [BitVec.toNat_ofNat, Nat.reducePow, Nat.reduceMod]
  omega
def ElimRel (w : World) (c : BitVec 32) (got used bit : Value) (w' : World) : Prop :=
  ∃ b : Nat, b ≤ 32 ∧ bit = .int .i64 b ∧ used = .int .i64 (Gf.usedAt b) ∧ got = .int .u64 (nb64 (Gf.left c b)) ∧ Below w.heap.size w w' ∧ Has w' w.heap.size 114 (rowsOf (Gf.rowAt b))
set_option maxHeartbeats 4000000 in
set_option maxRecDepth 100000 in
theorem rsolve_any (c : BitVec 32) (w : World) :
    Calls Tryz.prog 79 #[.int .u32 (nb32 c)] w fun e w' => e = .returned (.tuple #[.int .u32 (nb32 (solveY c)), .bool (solveB c)]) ∧ Below w.heap.size w w' := by
  go_enter Tryz.func79, Tryz.ntmps79
  go_wp2
  go_loopw [5] (fun i w' => ∃ k : Nat, k ≤ 32 ∧ i = .int .i64 k ∧ Below w.heap.size w w' ∧ Has w' w.heap.size 114 (rowsOf fun j => if j < k then Gf.startRow j else 0)) (fun i _ => 32 - (intOf i).toNat)
  case atStart => exact ⟨0, Nat.zero_le _, rfl, (Below.refl _ _).alloc (Nat.le_refl _) _, Has.fresh_at _ _ _ rfl⟩
  case round =>
    obtain ⟨k, hk, rfl, hb, hh⟩ := hrel
    by_cases hlt : k < 32
    · have hc := hh.cell_at (rowsOf_at _ hlt)
      have hf := hh.loose k
      have hput : (rowsOf fun j => if j < k then Gf.startRow j else 0).setIfInBounds k (.int .u64 (nb64 (Gf.startRow k))) = rowsOf fun j => if j < k + 1 then Gf.startRow j else 0 := by
        refine rowsOf_put k _ (by simp) fun j _ hne => ?_
        by_cases hj : j < k
        · simp [hj, Nat.lt_succ_of_lt hj]
        · have : ¬ j < k + 1 := by omega
          simp [hj, this]
      have HP := Lib.hid hput
      clear hput
      go_wp2_with (go_at_call 20; refine (rmul_any _ _ _).mono ?_; rintro e w' ⟨rfl, rfl⟩)
      go_roundw
      case rel =>
        refine ⟨k + 1, by omega, by go_num, hb.setCell (by simp) _, ?_⟩
        have := hh.put k (.int .u64 (nb64 (Gf.startRow k)))
        rwa [HP.out] at this
      case measure => simp [intOf]; omega
    · obtain rfl : k = 32 := by omega
      have hh0 : Has wr w.heap.size 114 (rowsOf (Gf.rowAt 0)) := by
        have e : rowsOf (fun j => if j < 32 then Gf.startRow j else 0) = rowsOf (Gf.rowAt 0) := by
          refine rowsOf_congr fun j hj => ?_
          rw [if_pos hj]
          unfold Gf.rowAt Gf.elimAt
          rw [List.getD_eq_getElem?_getD, List.getElem?_map, List.getElem?_range hj]
          rfl
        rwa [e] at hh
      clear hh
      have e32 : ((32 : Nat) : Int) = 32 := rfl
      rw [e32]
      clear e32
      go_wp2
      go_loopw [7, 8, 9] (fun got used bit w' => ElimRel w c got used bit w') (fun _ _ bit _ => 32 - (intOf bit).toNat)
      case atStart => exact ⟨0, Nat.zero_le _, rfl, rfl, rfl, hb, hh0⟩
      case round =>
        clear hb hh0
        obtain ⟨b, hb32, rfl, rfl, rfl, hbw, hrow⟩ := hrel
        by_cases hlt2 : b < 32
        · obtain ⟨hp, hub, _⟩ := Gf.pivots_right b hlt2
          have HP := Lib.hid hp
          clear hp
          have hu32 : Gf.usedAt b < 32 := by omega
          generalize hr : Gf.rowAt b = r at hrow HP
          have HR := Lib.hid hr
          generalize hu : Gf.usedAt b = u at hu32 hub
          have HU := Lib.hid hu
          have hsz := hrow.lt
          clear hr hu
          go_wp2
          go_loop [10, 11] (fun k i => ∃ n : Nat, u ≤ n ∧ n ≤ 32 ∧ i = .int .i64 n ∧ k = .int .i64 (Gf.lastRow r b u n)) (fun _ i => 32 - (intOf i).toNat)
          case atStart => exact ⟨u, Nat.le_refl _, by omega, rfl, by rw [lastRow_start]⟩
          case round =>
            obtain ⟨n, hn1, hn2, rfl, rfl⟩ := hrel
            by_cases hn : n < 32
            · have hc := hrow.cell_at (rowsOf_at r hn)
              have hbit := u64_bit (r n) b
              have hs := lastRow_step r b u n hn1
              cases hbb : (r n).getLsbD b
              all_goals
                rw [hbb] at hbit hs
                have HS := Lib.hid hs
                clear hs hbb
                go_wp2
                go_round
                case rel => exact ⟨n + 1, by omega, by omega, by go_num, by rw [HS.out]; simp⟩
                case measure => simp [intOf]; omega
            · obtain rfl : n = 32 := by omega
              rcases lastRow_bounds r b u 32 with ⟨hneg, hm1⟩ | ⟨k, hk1, hk2, hk3⟩
              · have HL := Lib.hid hm1
                have hfin : ElimRel w c (.int .u64 (nb64 (Gf.left c b))) (.int .i64 u) (.int .i64 ((b : Int) + 1)) wr := by
                  have e1 := HR.out
                  have e2 := HU.out
                  subst e1 e2
                  refine ⟨b + 1, by omega, by go_num, by rw [(elim_none b hneg).2], by rw [left_none c b HP.out hneg], hbw, ?_⟩
                  rw [(elim_none b hneg).1]
                  exact hrow
                have HF := Lib.hid hfin
                clear hfin
                rw [hm1]
                clear hm1 hneg hrow
                go_wp2
                go_roundw
                case rel => exact HF.out
                case measure => simp [intOf]; omega
              · have hk32 : k < 32 := hk3
                have hck := hrow.cell_at (rowsOf_at r hk32)
                have hcu := hrow.cell_at (rowsOf_at r hu32)
                have hfk := hrow.loose k
                have hfu := hrow.loose u
                have hsw := ((hrow.put u (.int .u64 (nb64 (r k)))).put k (.int .u64 (nb64 (r u)))).draw
                rw [swap_put] at hsw
                have hbsw := ((hbw.setCell (p := ⟨w.heap.size, u, none⟩) (Nat.le_refl _) (.int .u64 (nb64 (r k)))).setCell (p := ⟨w.heap.size, k, none⟩) (Nat.le_refl _) (.int .u64 (nb64 (r u)))).drew
                have hpiv : Gf.swapRow r u k u = Gf.pivots.getD b 0 := by
                  have e1 := HR.out
                  have e2 := HU.out
                  subst e1 e2
                  exact pivot_some b k hu32 HP.out hk1
                have hnext : rowsOf (Gf.clearRow (Gf.swapRow r u k) u b 32) = rowsOf (Gf.rowAt (b + 1)) ∧ Gf.usedAt (b + 1) = u + 1 := by
                  have e1 := HR.out
                  have e2 := HU.out
                  subst e1 e2
                  exact ⟨(rowsOf_congr (elim_some b k hk1).1).symm, (elim_some b k hk1).2⟩
                have HPV := Lib.hid hpiv
                have HN := Lib.hid hnext
                rw [hk1]
                clear hk1 hrow hpiv hnext hbw
                by_cases hku : u = k
                · subst hku
                  go_wp2
                  go_region
                  go_wp2
                  clear hck hcu hfk hfu
                  generalize World.drew (World.setCell (World.setCell wr _ _) _ _) = w2 at hsw hbsw ⊢
                  generalize Gf.swapRow r u u = r2 at hsw HPV HN
                  go_loopw [12] (fun i w' => ∃ n : Nat, n ≤ 32 ∧ i = .int .i64 n ∧ Below w.heap.size w w' ∧ Has w' w.heap.size 114 (rowsOf (Gf.clearRow r2 u b n))) (fun i _ => 32 - (intOf i).toNat)
                  case atStart => exact ⟨0, by omega, rfl, hbsw, by rw [clear_zero]; exact hsw⟩
                  case round =>
                    clear hsw hbsw
                    obtain ⟨n, hn, rfl, hb3, hh3⟩ := hrel
                    have hcu := hh3.cell_at (rowsOf_at _ hu32)
                    rw [clear_used] at hcu
                    by_cases hn32 : n < 32
                    · have hcn := hh3.cell_at (rowsOf_at _ hn32)
                      rw [clear_self] at hcn
                      have hfn := hh3.loose n
                      have hbit := u64_bit (r2 n) b
                      by_cases hnu : n = u
                      · have hk := clear_keep r2 u b n (fun h => h.1 hnu)
                        rw [hk] at hh3
                        have hne : ((n : Int) != (u : Int)) = false := by rw [bne_eq_false_iff_eq]; omega
                        clear hk hnu hbit
                        go_wp2
                        go_roundw
                        case rel => exact ⟨n + 1, by omega, by go_num, hb3, hh3⟩
                        case measure => simp [intOf]; omega
                      · have hne : ((n : Int) != (u : Int)) = true := by rw [bne_iff_ne]; omega
                        cases hbb : (r2 n).getLsbD b
                        · have hk := clear_keep r2 u b n (fun h => by rw [hbb] at h; exact Bool.false_ne_true h.2)
                          rw [hk] at hh3
                          rw [hbb] at hbit
                          clear hk hbb
                          go_wp2
                          go_roundw
                          case rel => exact ⟨n + 1, by omega, by go_num, hb3, hh3⟩
                          case measure => simp [intOf]; omega
                        · have hh4 := (hh3.put n (.int .u64 (nb64 (r2 n ^^^ r2 u)))).draw
                          rw [clear_put r2 u b n hnu hbb] at hh4
                          have hb4 := (hb3.setCell (p := ⟨w.heap.size, n, none⟩) (Nat.le_refl _) (.int .u64 (nb64 (r2 n ^^^ r2 u)))).drew
                          rw [hbb] at hbit
                          clear hbb
                          have hun : ¬ u = n := fun h => hnu h.symm
                          go_wp2
                          go_region
                          all_goals
                            go_wp2
                            go_roundw
                            case rel => exact ⟨n + 1, by omega, by go_num, hb4, hh4⟩
                            case measure => simp [intOf]; omega
                    · have hn' : n = 32 := by omega
                      subst hn'
                      rw [HN.out.1] at hh3
                      rw [HPV.out] at hcu
                      have hfin : ∀ x, Gf.left c (b + 1) = x → ElimRel w c (.int .u64 (nb64 x)) (.int .i64 ((u : Int) + 1)) (.int .i64 ((b : Int) + 1)) wr := by
                        intro x hx
                        exact ⟨b + 1, by omega, by go_num, by rw [HN.out.2]; go_num, by rw [hx], hb3, hh3⟩
                      have hbit := u64_bit (Gf.left c b) b
                      cases hbb : (Gf.left c b).getLsbD b
                      · have hf := hfin (Gf.left c b) (by rw [Gf.left, hbb]; rfl)
                        rw [hbb] at hbit
                        have HF := Lib.hid hf
                        clear hf hfin hbb
                        go_wp2
                        go_roundw
                        case rel => exact HF.out
                        case measure => simp [intOf]; omega
                      · have hf := hfin (Gf.left c b ^^^ Gf.pivots.getD b 0) (by rw [Gf.left, hbb]; rfl)
                        rw [hbb] at hbit
                        have HF := Lib.hid hf
                        clear hf hfin hbb
                        generalize Gf.pivots.getD b 0 = pv at hcu HF
                        go_wp2
                        go_roundw
                        case rel => exact HF.out
                        case measure => simp [intOf]; omega
                · have hku' : ¬ k = u := fun h => hku h.symm
                  go_wp2
                  go_region
                  go_wp2
                  clear hck hcu hfk hfu
                  generalize World.drew (World.setCell (World.setCell wr _ _) _ _) = w2 at hsw hbsw ⊢
                  generalize Gf.swapRow r u k = r2 at hsw HPV HN
                  go_loopw [12] (fun i w' => ∃ n : Nat, n ≤ 32 ∧ i = .int .i64 n ∧ Below w.heap.size w w' ∧ Has w' w.heap.size 114 (rowsOf (Gf.clearRow r2 u b n))) (fun i _ => 32 - (intOf i).toNat)
                  case atStart => exact ⟨0, by omega, rfl, hbsw, by rw [clear_zero]; exact hsw⟩
                  case round =>
                    clear hsw hbsw
                    obtain ⟨n, hn, rfl, hb3, hh3⟩ := hrel
                    have hcu := hh3.cell_at (rowsOf_at _ hu32)
                    rw [clear_used] at hcu
                    by_cases hn32 : n < 32
                    · have hcn := hh3.cell_at (rowsOf_at _ hn32)
                      rw [clear_self] at hcn
                      have hfn := hh3.loose n
                      have hbit := u64_bit (r2 n) b
                      by_cases hnu : n = u
                      · have hk := clear_keep r2 u b n (fun h => h.1 hnu)
                        rw [hk] at hh3
                        have hne : ((n : Int) != (u : Int)) = false := by rw [bne_eq_false_iff_eq]; omega
                        clear hk hnu hbit
                        go_wp2
                        go_roundw
                        case rel => exact ⟨n + 1, by omega, by go_num, hb3, hh3⟩
                        case measure => simp [intOf]; omega
                      · have hne : ((n : Int) != (u : Int)) = true := by rw [bne_iff_ne]; omega
                        cases hbb : (r2 n).getLsbD b
                        · have hk := clear_keep r2 u b n (fun h => by rw [hbb] at h; exact Bool.false_ne_true h.2)
                          rw [hk] at hh3
                          rw [hbb] at hbit
                          clear hk hbb
                          go_wp2
                          go_roundw
                          case rel => exact ⟨n + 1, by omega, by go_num, hb3, hh3⟩
                          case measure => simp [intOf]; omega
                        · have hh4 := (hh3.put n (.int .u64 (nb64 (r2 n ^^^ r2 u)))).draw
                          rw [clear_put r2 u b n hnu hbb] at hh4
                          have hb4 := (hb3.setCell (p := ⟨w.heap.size, n, none⟩) (Nat.le_refl _) (.int .u64 (nb64 (r2 n ^^^ r2 u)))).drew
                          rw [hbb] at hbit
                          clear hbb
                          have hun : ¬ u = n := fun h => hnu h.symm
                          go_wp2
                          go_region
                          all_goals
                            go_wp2
                            go_roundw
                            case rel => exact ⟨n + 1, by omega, by go_num, hb4, hh4⟩
                            case measure => simp [intOf]; omega
                    · have hn' : n = 32 := by omega
                      subst hn'
                      rw [HN.out.1] at hh3
                      rw [HPV.out] at hcu
                      have hfin : ∀ x, Gf.left c (b + 1) = x → ElimRel w c (.int .u64 (nb64 x)) (.int .i64 ((u : Int) + 1)) (.int .i64 ((b : Int) + 1)) wr := by
                        intro x hx
                        exact ⟨b + 1, by omega, by go_num, by rw [HN.out.2]; go_num, by rw [hx], hb3, hh3⟩
                      have hbit := u64_bit (Gf.left c b) b
                      cases hbb : (Gf.left c b).getLsbD b
                      · have hf := hfin (Gf.left c b) (by rw [Gf.left, hbb]; rfl)
                        rw [hbb] at hbit
                        have HF := Lib.hid hf
                        clear hf hfin hbb
                        go_wp2
                        go_roundw
                        case rel => exact HF.out
                        case measure => simp [intOf]; omega
                      · have hf := hfin (Gf.left c b ^^^ Gf.pivots.getD b 0) (by rw [Gf.left, hbb]; rfl)
                        rw [hbb] at hbit
                        have HF := Lib.hid hf
                        clear hf hfin hbb
                        generalize Gf.pivots.getD b 0 = pv at hcu HF
                        go_wp2
                        go_roundw
                        case rel => exact HF.out
                        case measure => simp [intOf]; omega
        · obtain rfl : b = 32 := by omega
          clear hrow
          by_cases ht : Gf.trace c 32 = 0#32
          · have h1 : (Gf.left c 32 % 4294967296#64 != 0#64) = false := by
              rw [bne_eq_false_iff_eq]
              exact (low_rest _).2 ((Gf.left_zero c).2 ht)
            have hy : (Gf.left c 32 / 4294967296#64).setWidth 32 - (Gf.left c 32 / 4294967296#64).setWidth 32 % 2#32 = solveY c := by
              rw [sub_even, high_quo, Gf.left_solves ht]
              exact (if_pos ht).symm
            have hb : solveB c = true := by unfold solveB; rw [beq_iff_eq]; exact ht
            have HY := Lib.hid hy
            have HB := Lib.hid hb
            clear ht hy hb
            go_wp2
            go_ret2
            exact ⟨by rw [← HY.out, HB.out]; rfl, hbw⟩
          · have h1 : (Gf.left c 32 % 4294967296#64 != 0#64) = true := by
              rw [bne_iff_ne]
              exact fun h => ht ((Gf.left_zero c).1 ((low_rest _).1 h))
            have hy : solveY c = 0 := if_neg ht
            have hb : solveB c = false := by unfold solveB; rw [beq_eq_false_iff_ne]; exact ht
            have HY := Lib.hid hy
            have HB := Lib.hid hb
            clear ht hy hb
            go_wp2
            go_ret2
            exact ⟨by rw [HY.out, HB.out]; rfl, hbw⟩
end Go.Proofs.YtamigcbodplmcaaGreat
