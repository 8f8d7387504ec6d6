/- Package poly: sums and products. -/
import Derived.Test.YtlackhjlnoefcaaPoIt
import Derived.Test.YtlackhjlnoefcaaSl
import Derived.Test.YtlackhjlnoefcaaWd
import Derived.Deep.RegionHeld3
namespace Go.Proofs.Ytlackhjlnoefcaa
open Go Go.RowKit

set_option maxHeartbeats 400000 in
theorem trim_own (a : Option Addr) (n c : Nat) (l : List (BitVec 32)) (w : World) (h : Words32 w a n l) (hs : n ≤ 1099511627776) :
    Calls Try.prog 28 #[.slice a n c] w fun e w' => (∃ g, e = .returned (.slice (some ⟨g, 0, none⟩) (Po.len1 l) (Po.len1 l)) ∧ w.heap.size ≤ g ∧ Has w' g 37 (wcells (Po.len1 l) (Po.cf l))) ∧ Below w.heap.size w w' := by
  have hle := Po.len1_le l
  have hln := h.1
  have hmk := make_words (Po.len1 l) (by omega)
  go_enter Try.func28, Try.ntmps28
  go_wp2_with (first
    | (go_at_call 26; refine (pdegree_any _ _ _ _ _ h).mono ?_; rintro e w1 ⟨rfl, hb1⟩
       have hcp := copy_words (w1.alloc (.cells (wcells (Po.len1 l) fun _ => 0#32) 37)) w1.heap.size n c (Po.len1 l) a l (Po.trim l) _ (Has.fresh _ _ _) ((h.below hb1).keep fun p hp => World.cell?_alloc_lt _ _ _ (isSome_lt hp)) (by omega) (Po.trim_length l) (fun i _ => congrFun (Po.cf_trim l) i)))
  go_ret
  have hsz := hb1.size
  have hh := (Has.fresh w1 37 (wcells (Po.len1 l) fun _ => 0#32)).putAll (wlist (Po.trim l)) 0
  rw [← Po.trim_length l, putAll_wlist] at hh
  refine ⟨⟨w1.heap.size, rfl, hsz, ?_⟩, below_setAll hsz _ 0 (hb1.alloc hsz _)⟩
  rw [Po.trim_length] at hh
  rwa [wcells_congr (fun i _ => show (Po.trim l).getD i 0 = Po.cf l i from congrFun (Po.cf_trim l) i)] at hh
theorem trim_any (a : Option Addr) (n c : Nat) (l : List (BitVec 32)) (w : World) (h : Words32 w a n l) (hs : n ≤ 1099511627776) :
    Calls Try.prog 28 #[.slice a n c] w fun e w' => (∃ v, e = .returned v ∧ Fresh 37 w.heap.size w' v (Po.trim l)) ∧ Below w.heap.size w w' := by
  refine (trim_own a n c l w h hs).mono ?_
  rintro e w' ⟨⟨g, rfl, hg, hh⟩, hb⟩
  have hle := Po.len1_le l
  have hln := h.1
  exact ⟨⟨_, rfl, Fresh.of_has hg hh (Po.trim_length l) (Nat.le_refl _) (by unfold maxLen; omega) (fun i _ => (congrFun (Po.cf_trim l) i).symm)⟩, hb⟩
theorem bare_any (a : Option Addr) (n c : Nat) (l : List (BitVec 32)) (w : World) (h : Words32 w a n l) (hc : n ≤ c) :
    Calls Try.prog 48 #[.slice a n c] w fun e w' => e = .returned (.slice a (Po.len1 l) c) ∧ Below w.heap.size w w' := by
  have hle := Po.len1_le l
  have hln := h.1
  have hlc : Po.len1 l ≤ c := by omega
  have hmx : n ≤ 9223372036854775807 := h.2.1
  go_enter Try.func48, Try.ntmps48
  go_wp2_with (first
    | (go_at_call 26; refine (pdegree_any _ _ _ _ _ h).mono ?_; rintro e w1 ⟨rfl, hb1⟩))
  go_ret
  exact ⟨rfl, hb1⟩

set_option maxHeartbeats 1000000 in
theorem addMultiple_any (g off m cs n c N : Nat) (a : Option Addr) (l : List (BitVec 32)) (by_ : BitVec 32) (s : Nat → BitVec 32) (w : World)
    (hh : Has w g 37 (wcells N s)) (ha : Words32 w a n l) (hna : ∀ ad, a = some ad → ad.block ≠ g) (hm : n ≤ m) (hN : off + m ≤ N) :
    Calls Try.prog 49 #[.slice (some ⟨g, off, none⟩) m cs, .slice a n c, .int .u32 (nb32 by_)] w fun e w' =>
      e = .returned (.tuple #[]) ∧ Has w' g 37 (wcells N (amF s off by_ l n)) ∧ (∀ p, p < w.heap.size → p ≠ g → w'.heap[p]? = w.heap[p]?) ∧ w.heap.size ≤ w'.heap.size ∧ (∀ B, B ≤ g → B ≤ w.heap.size → Below B w w') := by
  have hg := hh.lt
  go_enter Try.func49, Try.ntmps49
  go_wp2_with (first
    | (go_at_call 42; refine (by_any _ _).mono ?_; rintro e w1 ⟨rfl, hb1, ht1⟩))
  go_loopw [13] (fun i wr => ∃ k : Nat, k ≤ n ∧ i = .int .i64 k ∧ Has wr g 37 (wcells N (amF s off by_ l k)) ∧ Has wr w.heap.size 77 (tab by_) ∧
      (∀ p, p < w.heap.size → p ≠ g → wr.heap[p]? = w.heap[p]?) ∧ w.heap.size < wr.heap.size ∧ (∀ B, B ≤ g → B ≤ w.heap.size → Below B w wr)) (fun i _ => n - (intOf i).toNat)
  case atStart =>
    refine ⟨0, Nat.zero_le _, rfl, ?_, ht1, fun p hp _ => hb1.block p hp, ht1.lt, fun B _ hB2 => hb1.mono hB2⟩
    have := hh.under hb1 hg
    rwa [wcells_congr (fun j _ => show s j = amF s off by_ l 0 j from by rw [amF, if_neg (by omega)])] at this
  case round =>
    obtain ⟨k, hk, rfl, hgk, htk, hold, hszk, hbk⟩ := hrel
    have hl := ha.1
    have hmx : n ≤ 9223372036854775807 := ha.2.1
    by_cases hlt : k < n
    · obtain ⟨ad, rfl, hx⟩ := ha.2.2 k hlt
      obtain ⟨x, hxe⟩ : ∃ x, x = Po.cf l k := ⟨_, rfl⟩
      have hxk : wr.cell? (ad.add k) = some (.int .u32 (nb32 x)) := by
        obtain ⟨ad', e', hx'⟩ := ha.2.2 k hlt
        obtain rfl : ad = ad' := by injection e'
        have hb : (ad.add k).block = ad.block := by unfold Addr.add; split <;> rfl
        have := hold (ad.add k).block (isSome_lt (by rw [hx']; rfl)) (by rw [hb]; exact hna ad rfl)
        rw [hxe]
        exact (World.cell?_of_block this).trans hx'
      have HX := Lib.hid hxe
      clear hxe hx
      have hc := hgk.cell_at (wcells_at (i := off + k) _ (by omega))
      rw [amF_here] at hc
      have hf := hgk.loose (off + k)
      have hkm : k < m := by omega
      have hgl : g < wr.heap.size := by omega
      have hcA : ∀ m o, ((wr.drewN m).alloc o).cell? ⟨g, off + k, none⟩ = some (.int .u32 (nb32 (s (off + k)))) := fun m o => (World.cell?_alloc_lt (wr.drewN m) o _ hgl).trans hc
      have hfA : ∀ m o, ((wr.drewN m).alloc o).frozen? ⟨g, off + k, none⟩ = false := fun m o => ((hgk.draws m).past o).loose _
      have hR : ∀ q o, (∃ k1, k1 = k + 1 ∧ Has (((wr.drewN q).alloc o).setCell ⟨g, off + k, none⟩ (.int .u32 (nb32 (s (off + k) ^^^ Gf.mul by_ x)))) g 37 (wcells N (amF s off by_ l k1))) ∧
          Has (((wr.drewN q).alloc o).setCell ⟨g, off + k, none⟩ (.int .u32 (nb32 (s (off + k) ^^^ Gf.mul by_ x)))) w.heap.size 77 (tab by_) ∧
          (∀ p, p < w.heap.size → p ≠ g → (((wr.drewN q).alloc o).setCell ⟨g, off + k, none⟩ (.int .u32 (nb32 (s (off + k) ^^^ Gf.mul by_ x)))).heap[p]? = w.heap[p]?) ∧
          w.heap.size < (((wr.drewN q).alloc o).setCell ⟨g, off + k, none⟩ (.int .u32 (nb32 (s (off + k) ^^^ Gf.mul by_ x)))).heap.size ∧
          (∀ B, B ≤ g → B ≤ w.heap.size → Below B w (((wr.drewN q).alloc o).setCell ⟨g, off + k, none⟩ (.int .u32 (nb32 (s (off + k) ^^^ Gf.mul by_ x))))) := fun q o => by
        refine ⟨⟨_, rfl, ?_⟩, ((htk.draws q).past o).aside (by show w.heap.size ≠ g; omega) _, fun p hp hne => ?_, ?_, fun B hB1 hB2 => ?_⟩
        · have := ((hgk.draws q).past o).put (off + k) (.int .u32 (nb32 (s (off + k) ^^^ Gf.mul by_ x)))
          rwa [amF_step s off N by_ l k _ (by rw [HX.out])] at this
        · rw [Below.heap_setCell _ ⟨g, off + k, none⟩ _ p hne, Below.heap_alloc _ _ _ (by show p < wr.heap.size; omega)]
          exact hold p hp hne
        · rw [World.size_setCell, World.size_alloc]
          show w.heap.size < wr.heap.size + 1
          omega
        · exact ((below_draws (hbk B hB1 hB2) q).alloc (by show B ≤ wr.heap.size; omega) o).setCell (p := ⟨g, off + k, none⟩) hB1 _
      have HR := Lib.hid hR
      clear hR
      go_wp2_with fail
      go_region_law (first
          | (go_simp; go_at_call 45; refine (tmul_any by_ x w.heap.size _ htk.draw).mono ?_; rintro e w1 ⟨rfl, n1, rfl⟩)
          | (go_simp; go_at_call 44; refine (sum2 _ _ _).mono ?_; rintro e w1 ⟨rfl, rfl⟩))
      all_goals
        (go_wp2
         go_roundw
         case rel =>
           obtain ⟨⟨k1, rfl, h1⟩, h2, h3, h4, h5⟩ := HR.out _ _
           exact ⟨k + 1, by omega, by go_num, h1, h2, h3, h4, h5⟩
         case measure => simp [intOf]; omega)
    · obtain rfl : k = n := by omega
      go_wp2
      go_end0
      exact ⟨rfl, hgk, hold, by omega, hbk⟩
end Go.Proofs.Ytlackhjlnoefcaa
