/- package sketch: With -/
import Derived.Test.YtamigcbodplmcaaSkH
import Derived.Deep.RegionLaw
namespace Go.Proofs.Ytamigcbodplmcaa
open Go Go.RowKit Go.ChangeShapes Go.WideShapes
theorem with_nil (v : Value) (w : World) :
    Calls Try.prog 19 #[.pointer none, v] w fun e w' => e = .returned (.tuple #[.pointer none, errOf 1]) ∧ w = w' := by
  go_enter Try.func19, Try.ntmps19
  go_wp2
  go_ret2
  exact ⟨rfl, rfl⟩
theorem with_none (g : Nat) (w : World) :
    Calls Try.prog 19 #[.pointer (some ⟨g, 0, none⟩), .pointer none] w fun e w' => e = .returned (.tuple #[.pointer none, errOf 1]) ∧ w = w' := by
  go_enter Try.func19, Try.ntmps19
  go_wp2
  go_ret2
  exact ⟨rfl, rfl⟩
theorem wcells_wl (n : Nat) (f : Nat → BitVec 32) : wcells n f = (wlist (Po.mk n f)).toArray := by simp [wcells, cellsOf, wlist, Po.mk]
/-- the first k sums of both -/
def Sk.wiP (l m : List (BitVec 32)) (k : Nat) : Nat → BitVec 32 := fun i => if i < k then Po.cf l i ^^^ Po.cf m i else 0
theorem Sk.wiP_put (N : Nat) (l m : List (BitVec 32)) (k : Nat) (x : BitVec 32) (hx : x = Po.cf l k ^^^ Po.cf m k) : (wcells N (Sk.wiP l m k)).setIfInBounds k (.int .u32 (nb32 x)) = wcells N (Sk.wiP l m (k + 1)) := by
  refine wcells_put _ _ _ _ (by unfold Sk.wiP; rw [if_pos (by omega), hx]) (fun j _ hne => ?_)
  unfold Sk.wiP
  by_cases h : j < k
  · rw [if_pos h, if_pos (by omega)]
  · rw [if_neg h, if_neg (by omega)]
set_option maxRecDepth 100000 in
set_option maxHeartbeats 8000000 in
theorem with_ok (B1 g1 ga1 K1 c1 B2 g2 ga2 K2 c2 N : Nat) (l m : List (BitVec 32)) (w : World) (h : SkA B1 w g1 ga1 K1 c1 l) (k : SkA B2 w g2 ga2 K2 c2 m) (hN : Hid (N = min K1 K2)) :
    Calls Try.prog 19 #[.pointer (some ⟨g1, 0, none⟩), .pointer (some ⟨g2, 0, none⟩)] w fun e w' => (∃ g ga c, e = .returned (.tuple #[.pointer (some ⟨g, 0, none⟩), .nilIface]) ∧ SkA w.heap.size w' g ga N c (Po.mk N fun i => Po.cf l i ^^^ Po.cf m i)) ∧ Below w.heap.size w w' := by
  have hp1 := h.pos
  have hp2 := k.pos
  have ht1 := h.top
  have ht2 := k.top
  have hN1 : 1 ≤ N := by have := hN.out; omega
  have hNk1 : N ≤ K1 := by have := hN.out; omega
  have hNk2 : N ≤ K2 := by have := hN.out; omega
  have hmn : ∀ w, (Builtin.min_ #[3, 3] 3 #[.int .i64 (K1 : Int), .int .i64 (K2 : Int)]).run Try.prog w = .ok (.int .i64 (N : Int)) w := fun w => by
    rw [run_min_int2]
    congr 2
    have := hN.out
    split <;> omega
  have hmk := make_words N (by omega)
  have hc1 := h.hcell
  have hc2 := k.hcell
  go_enter Try.func19, Try.ntmps19
  go_wp2_with fail
  go_region_held3 (fun w' => w'.cell? ⟨g1, 0, none⟩ = some (.slice (some ⟨ga1, 0, none⟩) K1 c1) ∧ w'.cell? ⟨g2, 0, none⟩ = some (.slice (some ⟨ga2, 0, none⟩) K2 c2)) (first | (exact ⟨hc1, hc2⟩) | (exact ⟨((h.past _).draw).hcell, ((k.past _).draw).hcell⟩) | go_keep) (fail)
  have hH0 : Has (w.alloc (.cells (wcells N fun _ => 0#32) 54)).drew w.heap.size 54 (wcells N (Sk.wiP l m 0)) := by
    have := (Has.fresh w 54 (wcells N fun _ => 0#32)).draw
    rwa [wcells_congr (g := Sk.wiP l m 0) (fun i _ => by unfold Sk.wiP; rw [if_neg (by omega)]; try rfl)] at this
  have hB0 : Below w.heap.size w (w.alloc (.cells (wcells N fun _ => 0#32) 54)).drew := ((Below.refl _ w).alloc (Nat.le_refl _) _).drew
  generalize (w.alloc (.cells (wcells N fun _ => 0#32) 54)).drew = w0 at hH0 hB0 ⊢
  clear hmk hmn hc1 hc2
  go_wp2_with fail
  go_loopw [29] (fun iv wr => ∃ i : Nat, i ≤ N ∧ iv = .int .i64 i ∧ Has wr w.heap.size 54 (wcells N (Sk.wiP l m i)) ∧ Below w.heap.size w wr) (fun iv _ => N - (intOf iv).toNat)
  case atStart => exact ⟨0, Nat.zero_le _, rfl, hH0, hB0⟩
  case round =>
    obtain ⟨i, hi, rfl, hh, hb⟩ := hrel
    clear hH0 hB0
    by_cases hlt : i < N
    · have hii : (i : Int) < (N : Int) := by omega
      have hi0 : (0 : Int) ≤ (i : Int) := by omega
      have hi1 : (i : Int) < (K1 : Int) := by omega
      have hi2 : (i : Int) < (K2 : Int) := by omega
      have hin1 : i < K1 := by omega
      have hin2 : i < K2 := by omega
      have hs1 := h.below hb
      have hs2 := k.below hb
      have hc1 := hs1.hcell
      have hc2 := hs2.hcell
      have he1 := hs1.ecell hin1
      have he2 := hs2.ecell hin2
      obtain ⟨x, hx⟩ : ∃ x, x = Po.cf l i := ⟨_, rfl⟩
      obtain ⟨y, hy⟩ : ∃ y, y = Po.cf m i := ⟨_, rfl⟩
      rw [← hx] at he1
      rw [← hy] at he2
      have l1 := hs1.hdr.lt
      have l2 := hs2.hdr.lt
      have l3 := hs1.lt
      have l4 := hs2.lt
      have hcl := hh.cell_at (wcells_at (i := i) (Sk.wiP l m i) hlt)
      have hfr := hh.loose i
      have hgl := hh.lt
      have hf2 : ∀ q o, ((wr.drewN q).alloc o).frozen? ⟨w.heap.size, i, none⟩ = false := fun q o => ((hh.draws q).past o).loose i
      obtain ⟨W2, hW2⟩ : ∃ W2, W2 = ((wr.setCell ⟨w.heap.size, i, none⟩ (.int .u32 (nb32 (x ^^^ y)))).alloc (.cells #[.int .u32 (nb32 x), .int .u32 (nb32 y)] 54)).drew := ⟨_, rfl⟩
      have hR : Has W2 w.heap.size 54 (wcells N (Sk.wiP l m (i + 1))) ∧ Below w.heap.size w W2 := by
        rw [hW2]
        have h1 := hh.put i (.int .u32 (nb32 (x ^^^ y)))
        rw [Sk.wiP_put N l m i _ (by rw [hx, hy])] at h1
        have h2 := hb.setCell (p := ⟨w.heap.size, i, none⟩) (Nat.le_refl _) (.int .u32 (nb32 (x ^^^ y)))
        exact ⟨(h1.past _).draw, (h2.alloc h2.size _).drew⟩
      have HR := Lib.hid hR
      have HW := Lib.hid hW2
      clear hR hW2 hx hy
      go_wp2_with fail
      go_region_law (first
          | (go_simp; go_at_call 32; refine (sum2 x y wr.drew).mono ?_; rintro e w1 ⟨rfl, rfl⟩))
      all_goals
        (rw [← HW.out]
         go_wp2_with fail
         go_roundw
         case rel => exact ⟨i + 1, by omega, by go_num, HR.out.1, HR.out.2⟩
         case measure => (simp [intOf]; try omega))
    · obtain rfl : i = N := by omega
      have hii : ¬ (i : Int) < (i : Int) := by omega
      have e : Po.mk i (Sk.wiP l m i) = Po.mk i fun t => Po.cf l t ^^^ Po.cf m t := by
        refine Po.list_ext (by rw [Po.mk_length, Po.mk_length]) fun t ht => ?_
        rw [Po.mk_length] at ht
        rw [Po.cf_mk, Po.cf_mk, if_pos ht, if_pos ht]
        unfold Sk.wiP
        rw [if_pos ht]
      have hown := own_lit (B := w.heap.size) (l := Po.mk i (Sk.wiP l m i)) (Nat.le_refl _) hh (wcells_wl i _) (Po.mk_length _ _) (by omega)
      rw [e] at hown
      have hA := SkA.box hown (Po.mk_length _ _) hN1 (by omega) hb.size
      have hBA := hb.alloc hb.size (.cells #[.slice (some ⟨w.heap.size, 0, none⟩) i i] 57)
      clear e hown
      go_wp2_with fail
      go_ret2
      exact ⟨⟨_, rfl, _, _, hA⟩, hBA⟩
end Go.Proofs.Ytamigcbodplmcaa
