/- Tables and sums of package gf. -/
import Derived.Test.YtlackhjlnoefcaaGfW2
import Derived.Test.YtlackhjlnoefcaaB
import Derived.Deep.RegionWith
import Derived.BigQuiet
import Derived.Deep.QuietTactic
import Derived.Deep.MidRow
import Derived.Deep.RegionHeld3
import Derived.IntWalk
namespace Go.Proofs.Ytlackhjlnoefcaa
open Go.RowKit
namespace Gf
/-- the product with one digit -/
def dig (a : BitVec 32) (d : Nat) : BitVec 32 :=
  part (d.testBit 0) a ^^^ part (d.testBit 1) (dbl a 1) ^^^ part (d.testBit 2) (dbl a 2) ^^^ part (d.testBit 3) (dbl a 3)
theorem dig_zero (a : BitVec 32) : dig a 0 = 0 := by simp [dig, part]
theorem dig_even (a : BitVec 32) (d : Nat) (hd : d < 16) (h : d % 2 = 0) : dig a d = double (dig a (d / 2)) := by
  have : ∀ d, d < 16 → d % 2 = 0 → (d.testBit 0 = false ∧ (d / 2).testBit 0 = d.testBit 1 ∧ (d / 2).testBit 1 = d.testBit 2 ∧ (d / 2).testBit 2 = d.testBit 3 ∧ (d / 2).testBit 3 = false) := by decide +kernel
  obtain ⟨h0, h1, h2, h3, h4⟩ := this d hd h
  unfold dig
  rw [h0, h1, h2, h3, h4]
  simp only [lin_double _ _, double_part]
  simp [part, dbl]
theorem dig_odd (a : BitVec 32) (d : Nat) (hd : d < 16) (h : d % 2 = 1) : dig a d = double (dig a (d / 2)) ^^^ a := by
  have : ∀ d, d < 16 → d % 2 = 1 → (d.testBit 0 = true ∧ (d / 2).testBit 0 = d.testBit 1 ∧ (d / 2).testBit 1 = d.testBit 2 ∧ (d / 2).testBit 2 = d.testBit 3 ∧ (d / 2).testBit 3 = false) := by decide +kernel
  obtain ⟨h0, h1, h2, h3, h4⟩ := this d hd h
  unfold dig
  rw [h0, h1, h2, h3, h4]
  simp only [lin_double _ _, double_part]
  simp [part, dbl]
  ac_rfl
end Gf
/-- a row of sixteen products, the first k of them reckoned -/
def rowF (a : BitVec 32) (k : Nat) (j : Nat) : Value := if j < k then .int .u32 (nb32 (Gf.dig a j)) else .int .u32 0
theorem multiples_any (a : BitVec 32) (w : World) :
    Calls Try.prog 60 #[.int .u32 (nb32 a)] w fun e w' => e = .returned (.agg (cellsOf 16 (rowF a 16))) ∧ Below w.heap.size w w' := by
  go_enter Try.func60, Try.ntmps60
  go_wp2
  go_loopw [5] (fun i w' => ∃ k : Nat, k ≤ 16 ∧ i = .int .i64 k ∧ Below w.heap.size w w' ∧ Has w' w.heap.size 74 (cellsOf 16 fun _ => .int .u32 0) ∧ Has w' (w.heap.size + 1) 74 (cellsOf 16 (rowF a k))) (fun i _ => 16 - (intOf i).toNat)
  case atStart =>
    refine ⟨0, by omega, rfl, (((Below.refl _ _).alloc (Nat.le_refl _) _).alloc (by simp) _), ?_, ?_⟩
    · exact (Has.fresh w _ _).past _
    · exact Has.fresh_at _ _ _ (by simp)
  case round =>
    obtain ⟨k, hk, rfl, hb, hh0, hh⟩ := hrel
    have hsz := hh.lt
    by_cases hlt : k < 16
    · have hrow : ∀ j, j < 16 → wr.cell? ⟨w.heap.size + 1, j, none⟩ = some (rowF a k j) := fun j hj => hh.cell_at (cellsOf_at _ hj)
      have hfz : ∀ j, wr.frozen? ⟨w.heap.size + 1, j, none⟩ = false := fun j => hh.loose j
      have hv : rowF a k (k / 2) = .int .u32 (nb32 (Gf.dig a (k / 2))) := by
        unfold rowF
        split
        · rfl
        · have : k = 0 := by omega
          subst this
          rw [show Gf.dig a (0 / 2) = 0#32 from Gf.dig_zero a]
          rfl
      have hr2 := hrow (k / 2) (by omega)
      rw [hv] at hr2
      have hrk := hrow k hlt
      have hf2 := hfz k
      have hodd : (bits BinOp.and IntKind.i64 (k : Int) 1 == 1) = decide (k % 2 = 1) := by
        have : ∀ k : Nat, k < 16 → (bits BinOp.and IntKind.i64 (k : Int) 1 == 1) = decide (k % 2 = 1) := by decide +kernel
        exact this k hlt
      clear hv hrow hfz
      by_cases hp : k % 2 = 1
      · have hodd' : (bits BinOp.and IntKind.i64 (k : Int) 1 == 1) = true := by rw [hodd]; exact decide_eq_true hp
        have hput : ((cellsOf 16 (rowF a k)).setIfInBounds k (.int .u32 (nb32 (Gf.double (Gf.dig a (k / 2)))))).setIfInBounds k (.int .u32 (nb32 (Gf.double (Gf.dig a (k / 2)) ^^^ a))) = cellsOf 16 (rowF a (k + 1)) := by
          rw [cellsOf_put (rowF a k) (fun j => if j = k then .int .u32 (nb32 (Gf.double (Gf.dig a (k / 2)))) else rowF a k j) k _ (by simp) (fun j _ h => by simp [h])]
          refine cellsOf_put _ _ k _ ?_ (fun j _ h => ?_)
          · rw [← Gf.dig_odd a k hlt hp]; unfold rowF; rw [if_pos (by omega)]
          · unfold rowF
            simp only [h, if_false]
            by_cases hj : j < k
            · rw [if_pos hj, if_pos (by omega)]
            · rw [if_neg hj, if_neg (by omega)]
        have HP := Lib.hid hput
        clear hput hodd hp
        go_wp2_with (go_at_call 61; refine (double_any _ _).mono ?_; rintro e w' ⟨rfl, rfl⟩)
        go_roundw
        case rel =>
          refine ⟨k + 1, by omega, by go_num, (hb.setCell (by simp) _).setCell (by simp) _, (hh0.aside (by simp) _).aside (by simp) _, ?_⟩
          have := (hh.put k (.int .u32 (nb32 (Gf.double (Gf.dig a (k / 2)))))).put k (.int .u32 (nb32 (Gf.double (Gf.dig a (k / 2)) ^^^ a)))
          rwa [HP.out] at this
        case measure => simp [intOf]; omega
      · have hodd' : (bits BinOp.and IntKind.i64 (k : Int) 1 == 1) = false := by rw [hodd]; exact decide_eq_false hp
        have hput : (cellsOf 16 (rowF a k)).setIfInBounds k (.int .u32 (nb32 (Gf.double (Gf.dig a (k / 2))))) = cellsOf 16 (rowF a (k + 1)) := by
          refine cellsOf_put _ _ k _ ?_ (fun j _ h => ?_)
          · rw [← Gf.dig_even a k hlt (by omega)]; unfold rowF; rw [if_pos (by omega)]
          · unfold rowF
            by_cases hj : j < k
            · rw [if_pos hj, if_pos (by omega)]
            · rw [if_neg hj, if_neg (by omega)]
        have HP := Lib.hid hput
        clear hput hodd hp
        go_wp2_with (go_at_call 61; refine (double_any _ _).mono ?_; rintro e w' ⟨rfl, rfl⟩)
        go_roundw
        case rel =>
          refine ⟨k + 1, by omega, by go_num, hb.setCell (by simp) _, hh0.aside (by simp) _, ?_⟩
          have := hh.put k (.int .u32 (nb32 (Gf.double (Gf.dig a (k / 2)))))
          rwa [HP.out] at this
        case measure => simp [intOf]; omega
    · obtain rfl : k = 16 := by omega
      have hload := hh.range
      have hthere := hh0.there 0 16 (by rw [cellsOf_size]; omega)
      have hi : (Try.prog.info? 74).map (·.size) = some 16 := by kernel_rfl
      have hone : (cellsOf 16 (rowF a 16)).all (·.oneCell') = true := by
        apply all_oneCell_toArray
        intro v hv
        obtain ⟨j, _, rfl⟩ := List.mem_map.1 hv
        unfold rowF
        split <;> rfl
      have HI := Lib.hid hi
      have HO := Lib.hid hone
      clear hi hone
      go_wp2_with (first
        | (refine wpList_load_mid rfl 74 (.tmp 3) rfl (w.heap.size + 1) 0 rfl _ _ hload Try.underlying74 rfl HI.out ?_)
        | (refine wpList_store_mid rfl 74 (.tmp 2) (.tmp 25) rfl w.heap.size 0 (cellsOf 16 (rowF a 16)) rfl rfl hthere HI.out HO.out ?_))
      have hh1 := hh0.putAll (cellsOf 16 (rowF a 16)).toList 0
      rw [putAll_cellsOf (rowF a 16) _ 0 _ (fun i v hv => by
        rw [Array.getElem?_toList] at hv
        have hi := (Array.getElem?_eq_some_iff.1 hv).1
        rw [cellsOf_size] at hi
        rw [cellsOf_at _ hi] at hv
        rw [Nat.zero_add]
        exact Option.some.inj hv) (fun j hj h => by simp [cellsOf] at h; omega)] at hh1
      refine bodyPost_ret (v := .agg (cellsOf 16 (rowF a 16))) (results_one_cell rfl _ _ w.heap.size rfl _ (run_loadVar_mid _ _ 0 74 _ _ hh1.range Try.underlying74 rfl HI.out)) rfl ⟨rfl, below_setAll (Nat.le_refl _) _ 0 hb⟩
/-- the table's cells, the first n of them reckoned -/
def tabF (a : BitVec 32) (n : Nat) (j : Nat) : Value := if j < n then .int .u32 (nb32 (Gf.dig (Gf.dbl a (4 * (j / 16))) (j % 16))) else .int .u32 0
def tab (a : BitVec 32) : Array Value := cellsOf 128 (tabF a 128)
def rowL (a : BitVec 32) : List Value := (List.range 16).map (rowF a 16)
theorem rowL_len (a : BitVec 32) : (rowL a).length = 16 := by simp [rowL]
theorem rowL_one (a : BitVec 32) : ∀ v ∈ rowL a, v.oneCell' = true := by
  intro v hv
  obtain ⟨j, _, rfl⟩ := List.mem_map.1 hv
  unfold rowF
  split <;> rfl
theorem multiples_list (a : BitVec 32) (w : World) :
    Calls Try.prog 60 #[.int .u32 (nb32 a)] w fun e w' => e = .returned (.agg (rowL a).toArray) ∧ Below w.heap.size w w' := multiples_any a w
theorem tab_step (a : BitVec 32) (k : Nat) : putAll (cellsOf 128 (tabF a (16 * k))) (k * 16) (rowL (Gf.dbl a (4 * k))) = cellsOf 128 (tabF a (16 * (k + 1))) := by
  refine putAll_cellsOf _ _ _ _ (fun i v hv => ?_) (fun j hj h => ?_)
  · have hi := (List.getElem?_eq_some_iff.1 hv).1
    rw [rowL_len] at hi
    rw [rowL, List.getElem?_map, List.getElem?_range hi] at hv
    rw [← Option.some.inj hv]
    unfold tabF rowF
    rw [if_pos (by omega), if_pos hi, show (k * 16 + i) / 16 = k from by omega, show (k * 16 + i) % 16 = i from by omega]
  · rw [rowL_len] at h
    unfold tabF
    by_cases hj : j < 16 * k
    · rw [if_pos hj, if_pos (by omega)]
    · rw [if_neg hj, if_neg (by omega)]
attribute [irreducible] rowL
def tab0 : Array Value := cellsOf 128 fun _ => .int .u32 0
theorem tab0_ne : ¬ tab0 = #[] := cellsOf_ne (by omega) _
theorem tab0_run : ∀ w, (zeroValue 77).run Try.prog w = .ok (.agg tab0) w := run_zero (by kernel_rfl)
set_option maxRecDepth 100000 in
theorem by_any (a : BitVec 32) (w : World) :
    Calls Try.prog 42 #[.int .u32 (nb32 a)] w fun e w' => e = .returned (.pointer (some ⟨w.heap.size, 0, none⟩)) ∧ Below w.heap.size w w' ∧ Has w' w.heap.size 77 (tab a) := by
  have HI := Lib.hid (show (Try.prog.info? 74).map (·.size) = some 16 by kernel_rfl)
  go_enter Try.func42, Try.ntmps42
  have hz := tab0_run
  have hz' := tab0_ne
  go_wp2
  clear hz hz'
  go_loopw [0, 6] (fun x i w' => ∃ k : Nat, k ≤ 8 ∧ i = .int .i64 k ∧ x = .int .u32 (nb32 (Gf.dbl a (4 * k))) ∧ Below w.heap.size w w' ∧ Has w' w.heap.size 77 (cellsOf 128 (tabF a (16 * k)))) (fun _ i _ => 8 - (intOf i).toNat)
  case atStart =>
    exact ⟨0, by omega, rfl, rfl, (Below.refl _ _).alloc (Nat.le_refl _) _, Has.fresh_at _ _ _ rfl⟩
  case round =>
    obtain ⟨k, hk, rfl, rfl, hb, hh⟩ := hrel
    have hsz := hh.lt
    by_cases hlt : k < 8
    · go_wp2_with fail
      have hth : wr.there w.heap.size (k * 16) 16 := hh.there _ _ (by rw [cellsOf_size]; omega)
      have hi := HI.out
      have h16 := rowL_len (Gf.dbl a (4 * k))
      have h1c := rowL_one (Gf.dbl a (4 * k))
      have hi2 : (Try.prog.info? 74).map (·.size) = some (rowL (Gf.dbl a (4 * k))).length := by rw [h16]; exact hi
      clear hi
      go_region_held3 (fun w' => w'.there w.heap.size (k * 16) 16) (first
        | exact hth
        | exact World.there_setCells ((hh.draw.under hb1 hsz).there _ _ (by rw [cellsOf_size]; omega)) _ _ _
        | exact (hh.draw.under hb1 hsz).there _ _ (by rw [cellsOf_size]; omega))
        (first | (go_at_call 60; refine (multiples_list _ _).mono ?_; rintro e w1 ⟨rfl, hb1⟩))
      have hh1 := (hh.draw.under hb1 hsz).putAll (rowL (Gf.dbl a (4 * k))) (k * 16)
      rw [tab_step] at hh1
      have hb2 := below_setAll (Nat.le_refl _) (rowL (Gf.dbl a (4 * k))) (k * 16) (hb.drew.trans (hb1.mono (Nat.le_of_lt hsz)))
      generalize w1.setCells w.heap.size (k * 16) (rowL (Gf.dbl a (4 * k))) = w2 at hh1 hb2 ⊢
      clear hth h16 h1c hi2
      go_wp2
      go_loop [0, 16] (fun x j => ∃ m : Nat, m ≤ 4 ∧ j = .int .i64 m ∧ x = .int .u32 (nb32 (Gf.dbl a (4 * k + m)))) (fun _ j => 4 - (intOf j).toNat)
      case atStart => exact ⟨0, by omega, rfl, rfl⟩
      case round =>
        obtain ⟨m, hm, rfl, rfl⟩ := hrel
        by_cases hlt2 : m < 4
        · go_wp2_with (go_at_call 61; refine (double_any _ _).mono ?_; rintro e w' ⟨rfl, rfl⟩)
          go_round
          case rel => exact ⟨m + 1, by omega, by go_num, rfl⟩
          case measure => simp [intOf]; omega
        · obtain rfl : m = 4 := by omega
          go_wp2
          go_roundw
          case rel => exact ⟨k + 1, by omega, by go_num, rfl, hb2, hh1⟩
          case measure => simp [intOf]; omega
    · obtain rfl : k = 8 := by omega
      go_wp2
      go_ret
      exact ⟨rfl, hb, hh⟩
namespace Gf
/-- the product by the table's first i digits -/
def tm (a b : BitVec 32) : Nat → BitVec 32
  | 0 => 0
  | i + 1 => tm a b i ^^^ dig (dbl a (4 * i)) (b >>> (4 * i) &&& 15#32).toNat
theorem nib_bit (b : BitVec 32) (i j : Nat) (hj : j < 4) : (b >>> (4 * i) &&& 15#32).toNat.testBit j = b.getLsbD (4 * i + j) := by
  have h15 : ∀ j, j < 4 → (15#32).getLsbD j = true := by decide +kernel
  have : (b >>> (4 * i) &&& 15#32).getLsbD j = b.getLsbD (4 * i + j) := by
    rw [BitVec.getLsbD_and, BitVec.getLsbD_ushiftRight, h15 j hj, Bool.and_true]
  exact this
theorem nib_lt (b : BitVec 32) (i : Nat) : (b >>> (4 * i) &&& 15#32).toNat < 16 := by
  rw [BitVec.toNat_and]
  exact Nat.lt_of_le_of_lt Nat.and_le_right (by decide)
theorem tm_eq (a b : BitVec 32) : ∀ i, tm a b i = mulS a b (4 * i)
  | 0 => rfl
  | i + 1 => by
    rw [tm, tm_eq a b i, dig, nib_bit b i 0 (by omega), nib_bit b i 1 (by omega), nib_bit b i 2 (by omega), nib_bit b i 3 (by omega)]
    rw [show 4 * (i + 1) = 4 * i + 1 + 1 + 1 + 1 from by omega, mulS, mulS, mulS, mulS, dbl_add, dbl_add, dbl_add]
    simp only [Nat.add_zero]
    ac_rfl
end Gf
theorem tab_at (a b : BitVec 32) (k : Nat) (hk : k < 8) : (tab a)[k * 16 + (b >>> (4 * k) &&& 15#32).toNat]? = some (.int .u32 (nb32 (Gf.dig (Gf.dbl a (4 * k)) (b >>> (4 * k) &&& 15#32).toNat))) := by
  have h := Gf.nib_lt b k
  generalize (b >>> (4 * k) &&& 15#32).toNat = n at h ⊢
  rw [tab, cellsOf_at _ (by omega), tabF, if_pos (by omega), show (k * 16 + n) / 16 = k from by omega, show (k * 16 + n) % 16 = n from by omega]
theorem tmul_any (a b : BitVec 32) (g : Nat) (w : World) (hg : Has w g 77 (tab a)) :
    Calls Try.prog 45 #[.pointer (some ⟨g, 0, none⟩), .int .u32 (nb32 b)] w fun e w' => e = .returned (.int .u32 (nb32 (Gf.mul a b))) ∧ Drawn w w' := by
  go_enter Try.func45, Try.ntmps45
  go_wp2
  go_loopw [5, 9] (fun p i w' => ∃ k : Nat, k ≤ 8 ∧ i = .int .i64 k ∧ p = .int .u32 (nb32 (Gf.tm a b k)) ∧ Drawn w w') (fun _ i _ => 8 - (intOf i).toNat)
  case atStart => exact ⟨0, Nat.zero_le _, rfl, rfl, Drawn.refl w⟩
  case round =>
    obtain ⟨k, hk, rfl, rfl, hd⟩ := hrel
    by_cases hlt : k < 8
    · have hc := (hg.drawn hd).cell_at (tab_at a b k hlt)
      have h0 : (0 : Int) ≤ nb32 (b >>> (4 * k) &&& 15#32) := u32_nonneg _
      have h1 : nb32 (b >>> (4 * k) &&& 15#32) < 16 := by have := Gf.nib_lt b k; unfold nb32; omega
      have h2 : IntKind.i64.wrap (4 * (k : Int)) = ((4 * k : Nat) : Int) := by rw [IntWalk.i64_in _ (by omega)]; omega
      have hn : (b >>> (4 * k) &&& 15#32).toNat = b.toNat >>> (4 * k) &&& 15 := by simp
      rw [hn] at hc
      have hs : Gf.tm a b k ^^^ Gf.dig (Gf.dbl a (4 * k)) (b.toNat >>> (4 * k) &&& 15) = Gf.tm a b (k + 1) := by rw [← hn]; rfl
      clear hn
      generalize hm : 4 * k = m at hc h0 h1 h2 hs
      have HS := Lib.hid hs
      clear hs hm
      go_wp2_with fail
      go_quiet (fail)
      go_wp2
      go_roundw
      case rel => exact ⟨k + 1, by omega, by go_num, by rw [HS.out], hd.draws _⟩
      case measure => simp [intOf]; omega
    · obtain rfl : k = 8 := by omega
      go_wp2
      go_ret
      exact ⟨ret_v (by rw [Gf.tm_eq, ← Gf.mul_eq]; rfl), hd⟩
end Go.Proofs.Ytlackhjlnoefcaa
