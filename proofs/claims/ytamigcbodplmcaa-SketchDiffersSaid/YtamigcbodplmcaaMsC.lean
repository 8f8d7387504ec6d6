/- massey: corrected, Shortest, Length -/
import Derived.Test.YtamigcbodplmcaaMsW
namespace Go.Proofs.Ytamigcbodplmcaa
open Go Go.RowKit Go.ChangeShapes Go.WideShapes
set_option maxHeartbeats 1000000 in
theorem corrected_any (a b : Option Addr) (n c m d k N : Nat) (lc lo : List (BitVec 32)) (by_ : BitVec 32) (w : World) (hc : Words32 w a n lc) (ho : Words32 w b m lo) (hN : N = max n (k + m)) (hs : N ≤ 1099511627776) :
    Calls Try.prog 45 #[.slice a n c, .slice b m d, .int .i64 (k : Int), .int .u32 (nb32 by_)] w fun e w' =>
      (∃ v, e = .returned v ∧ Fresh 54 w.heap.size w' v (Po.mk N (Po.addF (Po.cf lc) (Po.Xn k (Po.sclF by_ (Po.cf lo)))))) ∧ Below w.heap.size w w' := by
  have hlc := hc.1
  have hlo := ho.1
  have hmk := make_words N hs
  have hnN : n ≤ N := by omega
  have hkm : k + m ≤ N := by omega
  have hmx : ∀ w, (Builtin.max_ #[3, 3] 3 #[.int .i64 (n : Int), .int .i64 ((k : Int) + (m : Int))]).run Try.prog w = .ok (.int .i64 (N : Int)) w := fun w => by
    rw [run_max_int2]
    congr 2
    split <;> omega
  have hcp := copy_some (w.alloc (.cells (wcells N fun _ => 0#32) 54)) w.heap.size n c N n a lc _ (Has.fresh _ _ _) (hc.past _) (show n = min n N by omega)
  rw [List.take_of_length_le (Nat.le_of_eq hlc)] at hcp
  have hwk : IntKind.i64.wrap ((k : Int) + (m : Int)) = (k : Int) + (m : Int) := IntWalk.i64_in _ (by omega)
  have hh0 := (Has.fresh w 54 (wcells N fun _ => 0#32)).putAll (wlist (lc.take n)) 0
  rw [putAll_some lc N n (by omega), List.take_of_length_le (Nat.le_of_eq hlc)] at hh0
  have hb0 := below_setAll (B := w.heap.size) (g := w.heap.size) (Nat.le_refl _) (wlist lc) 0 ((Below.refl w.heap.size w).alloc (Nat.le_refl _) (.cells (wcells N fun _ => 0#32) 54))
  have HN := Lib.hid hN
  clear hN
  go_enter Try.func45, Try.ntmps45
  go_wp2_with fail
  generalize (w.alloc (.cells (wcells N fun _ => 0#32) 54)).setCells w.heap.size 0 (wlist lc) = w0 at hh0 hb0 ⊢
  have hg0 := hh0.lt
  go_wp2_with (first
    | (go_at_call 54; refine (by_any _ _).mono ?_; rintro e w1 ⟨rfl, hb1, ht1⟩))
  have hsz1 := hb1.size
  have hbw := hb0.trans (hb1.mono (Nat.le_of_lt hg0))
  have hg1 := hh0.under hb1 hg0
  go_loopw [28] (fun i wr => ∃ j : Nat, j ≤ m ∧ i = .int .i64 j ∧ Has wr w.heap.size 54 (wcells N (amF (Po.cf lc) k by_ lo j)) ∧ Has wr w0.heap.size 99 (tab by_) ∧ Below w.heap.size w wr) (fun i _ => m - (intOf i).toNat)
  case atStart =>
    refine ⟨0, Nat.zero_le _, rfl, ?_, ht1, hbw⟩
    rwa [wcells_congr (fun j _ => show Po.cf lc j = amF (Po.cf lc) k by_ lo 0 j from by rw [amF, if_neg (by omega)])] at hg1
  case round =>
    obtain ⟨j, hj, rfl, hgj, htj, hbj⟩ := hrel
    clear hh0 hb0 hg1 ht1 hcp hb1 hbw
    by_cases hlt : j < m
    · obtain ⟨ad, rfl, hx⟩ := ho.2.2 j hlt
      obtain ⟨x, hxe⟩ : ∃ x, x = Po.cf lo j := ⟨_, rfl⟩
      rw [show lo.getD j 0 = x from hxe.symm] at hx
      have hxk := (hbj.cell (isSome_lt (by rw [hx]; rfl))).trans hx
      have HX := Lib.hid hxe
      clear hxe hx
      obtain ⟨p, hp⟩ : ∃ p, p = k + j := ⟨_, rfl⟩
      have hpN : p < N := by omega
      have hc := hgj.cell_at (wcells_at (i := k + j) _ (by omega))
      rw [amF_here, ← hp] at hc
      have hwr : IntKind.i64.wrap ((k : Int) + (j : Int)) = (p : Int) := by rw [IntWalk.i64_in _ (by omega)]; omega
      have hf := hgj.loose p
      have hgl := hgj.lt
      have htl := htj.lt
      obtain ⟨z, hz⟩ : ∃ z, z = Po.cf lc p := ⟨_, rfl⟩
      rw [← hz] at hc
      have hR : ∀ q o, (∃ j1, j1 = j + 1 ∧ Has (((wr.drewN q).alloc o).setCell ⟨w.heap.size, p, none⟩ (.int .u32 (nb32 (z ^^^ Gf.mul by_ x)))) w.heap.size 54 (wcells N (amF (Po.cf lc) k by_ lo j1))) ∧
          Has (((wr.drewN q).alloc o).setCell ⟨w.heap.size, p, none⟩ (.int .u32 (nb32 (z ^^^ Gf.mul by_ x)))) w0.heap.size 99 (tab by_) ∧
          Below w.heap.size w (((wr.drewN q).alloc o).setCell ⟨w.heap.size, p, none⟩ (.int .u32 (nb32 (z ^^^ Gf.mul by_ x)))) := fun q o => by
        refine ⟨⟨_, rfl, ?_⟩, ((htj.draws q).past o).aside (by show w0.heap.size ≠ w.heap.size; omega) _, ?_⟩
        · have := ((hgj.draws q).past o).put (k + j) (.int .u32 (nb32 (z ^^^ Gf.mul by_ x)))
          rw [amF_step (Po.cf lc) k N by_ lo j _ (by rw [HX.out, hz, hp])] at this
          rw [hp]
          exact this
        · exact ((below_draws hbj q).alloc (by show w.heap.size ≤ wr.heap.size; omega) o).setCell (p := ⟨w.heap.size, p, none⟩) (Nat.le_refl _) _
      have hcA : ∀ m o, ((wr.drewN m).alloc o).cell? ⟨w.heap.size, p, none⟩ = some (.int .u32 (nb32 z)) := fun m o => (World.cell?_alloc_lt (wr.drewN m) o _ hgl).trans hc
      have hfA : ∀ m o, ((wr.drewN m).alloc o).frozen? ⟨w.heap.size, p, none⟩ = false := fun m o => ((hgj.draws m).past o).loose _
      have HR := Lib.hid hR
      clear hR hp hz
      go_wp2_with fail
      go_region_law (first
          | (go_simp; go_at_call 55; refine (tmul_any by_ x w0.heap.size _ htj.draw).mono ?_; rintro e w1 ⟨rfl, n1, rfl⟩)
          | (go_simp; go_at_call 32; refine (sum2 _ _ _).mono ?_; rintro e w1 ⟨rfl, rfl⟩))
      all_goals
        (go_wp2
         go_roundw
         case rel =>
           obtain ⟨⟨j1, rfl, h1⟩, h2, h3⟩ := HR.out _ _
           exact ⟨j + 1, by omega, by go_num, h1, h2, h3⟩
         case measure => simp [intOf]; omega)
    · obtain rfl : j = m := by omega
      go_wp2
      go_ret
      refine ⟨⟨_, rfl, Fresh.of_has (Nat.le_refl _) hgj (Po.mk_length _ _) (Nat.le_refl _) (by unfold maxLen; omega) (fun i hi => ?_)⟩, hbj⟩
      have := Po.cf_mk N (Po.addF (Po.cf lc) (Po.Xn k (Po.sclF by_ (Po.cf lo)))) i
      rw [if_pos hi] at this
      refine Eq.trans ?_ this.symm
      show (if k ≤ i ∧ i < k + j then _ else _) = Po.cf lc i ^^^ (if k ≤ i then Gf.mul by_ (Po.cf lo (i - k)) else 0)
      by_cases h1 : k ≤ i
      · by_cases h2 : i < k + j
        · rw [if_pos ⟨h1, h2⟩, if_pos h1]
        · rw [if_neg (by omega), if_pos h1, Po.cf_ge (l := lo) (by omega), show Gf.mul by_ 0 = 0 from Gf.mul_zero by_, Po.xz]
      · rw [if_neg (by omega), if_neg h1, Po.xz]
theorem Ms.cf_next {c b : List (BitVec 32)} {sh N : Nat} (k : BitVec 32) (hN : N = max c.length (sh + b.length)) : Po.cf (Po.mk N (Po.addF (Po.cf c) (Po.Xn sh (Po.sclF k (Po.cf b))))) = Po.addF (Po.cf c) (Po.Xn sh (Po.sclF k (Po.cf b))) := by
  funext i
  rw [Po.cf_mk]
  split
  · rfl
  · show (0 : BitVec 32) = Po.cf c i ^^^ (if sh ≤ i then Gf.mul k (Po.cf b (i - sh)) else 0)
    rw [Po.cf_ge (by omega), Po.zx]
    split
    · rw [Po.cf_ge (l := b) (by omega)]; exact (Gf.mul_zero _).symm
    · rfl
theorem Ms.St.grow' {s c b : List (BitVec 32)} {n L sh N : Nat} {e : BitVec 32} (h : Ms.St s n c L b sh e) (hK : c.length = L + 1) (hS : sh + c.length + b.length = n + 3) (hd : Po.mulL c (Po.cf s) n ≠ 0)
    (hN : N = max c.length (sh + b.length)) (hlt : c.length < N) :
    Ms.St s (n + 1) (Po.mk N (Po.addF (Po.cf c) (Po.Xn sh (Po.sclF (Gf.mul (Po.mulL c (Po.cf s) n) (Gf.inv e)) (Po.cf b))))) (N - 1) c 1 (Po.mulL c (Po.cf s) n) ∧ N + c.length = n + 3 := by
  have := h.grow hd (by omega) (Ms.cf_next (Gf.mul (Po.mulL c (Po.cf s) n) (Gf.inv e)) hN)
  rw [show n + 1 - L = N - 1 from by omega] at this
  exact ⟨this, by omega⟩
theorem Ms.St.keep' {s c b : List (BitVec 32)} {n L sh N : Nat} {e : BitVec 32} (h : Ms.St s n c L b sh e) (hK : c.length = L + 1) (hS : sh + c.length + b.length = n + 3) (hd : Po.mulL c (Po.cf s) n ≠ 0)
    (hN : N = max c.length (sh + b.length)) (hlt : ¬ c.length < N) :
    Ms.St s (n + 1) (Po.mk N (Po.addF (Po.cf c) (Po.Xn sh (Po.sclF (Gf.mul (Po.mulL c (Po.cf s) n) (Gf.inv e)) (Po.cf b))))) L b (sh + 1) e ∧ N = c.length :=
  ⟨h.keep hd (by omega) (Ms.cf_next (Gf.mul (Po.mulL c (Po.cf s) n) (Gf.inv e)) hN), by omega⟩
set_option maxHeartbeats 2000000 in
theorem shortest_any (a : Option Addr) (n c Lm : Nat) (l : List (BitVec 32)) (w : World) (h : Words32 w a n l) (hnc : n ≤ c) (hn : n ≤ 1000000) (hLm : Ms.Least (Po.cf l) n Lm) :
    Calls Try.prog 33 #[.slice a n c] w fun e w' => (∃ v lc, e = .returned v ∧ Fresh 54 w.heap.size w' v lc ∧ lc.length = Lm + 1 ∧ Ms.Rec lc Lm (Po.cf l) n) ∧ Below w.heap.size w w' := by
  have hl := h.1
  have HL := Lib.hid hLm
  clear hLm
  have hB1 := (Has.fresh w 54 #[.int .u32 (nb32 1#32)]).past (.cells #[.int .u32 (nb32 1#32)] 54)
  have hB2 := Has.fresh_at (n := w.heap.size + 1) (w.alloc (.cells #[.int .u32 (nb32 1#32)] 54)) 54 #[.int .u32 (nb32 1#32)] (by simp)
  have hF1 := fresh_one (B := w.heap.size) 1#32 (Nat.le_refl _) hB1
  have hF2 := fresh_one (B := w.heap.size) 1#32 (Nat.le_succ _) hB2
  have hbw := ((Below.refl w.heap.size w).alloc (Nat.le_refl _) (.cells #[.int .u32 (nb32 1#32)] 54)).alloc (by simp) (.cells #[.int .u32 (nb32 1#32)] 54)
  clear hB1 hB2
  have HF := Lib.hid (And.intro hF1 (And.intro hF2 hbw))
  clear hF1 hF2 hbw
  go_enter Try.func33, Try.ntmps33
  go_wp2
  go_loopw [3, 4, 5, 14] (fun cu ea mi i wr => ∃ (k K M L sh : Nat) (lc lb : List (BitVec 32)) (e : BitVec 32), k ≤ n ∧ i = .int .i64 k ∧ Fresh 54 w.heap.size wr cu lc ∧ Fresh 54 w.heap.size wr ea lb ∧ mi = .int .u32 (nb32 e) ∧
    lc.length = K ∧ lb.length = M ∧ RowKit.Hid (lc.length = L + 1 ∧ sh + lc.length + lb.length = k + 3) ∧ RowKit.Hid (Ms.St l k lc L lb sh e) ∧ Below w.heap.size w wr) (fun _ _ _ i _ => n - (intOf i).toNat)
  case atStart => exact ⟨0, 1, 1, 0, 1, [1], [1], 1, Nat.zero_le _, rfl, HF.out.1, HF.out.2.1, rfl, rfl, rfl, Lib.hid ⟨rfl, rfl⟩, Lib.hid (Ms.St.start l), HF.out.2.2⟩
  case round =>
    obtain ⟨k, K, M, L, sh, lc, lb, e, hk, rfl, hcu, hea, rfl, hlen, hlb, HE, HS, hb⟩ := hrel
    obtain ⟨ca, cc, rfl, hcc, hcw⟩ := fresh_shape hcu hlen
    obtain ⟨ea, ec, rfl, hec, hew⟩ := fresh_shape hea hlb
    by_cases hlt : k < n
    · have hLk := HS.out.le
      have hKk : K ≤ k + 1 := by have := HE.out; omega
      have hK0 : 0 < K := by have := HE.out; omega
      have hM0 : M ≤ k + 2 := by have := HE.out; omega
      have hshk : sh ≤ k + 2 := by have := HE.out; omega
      have hk1c : (k : Int) + 1 ≤ (c : Int) := by omega
      have hk10 : (0 : Int) ≤ (k : Int) + 1 := by omega
      have hwk : IntKind.i64.wrap ((k : Int) + 1) = (k : Int) + 1 := IntWalk.i64_in _ (by omega)
      have hw1 : IntKind.i64.wrap ((k : Int) + 3) = (k : Int) + 3 := IntWalk.i64_in _ (by omega)
      have hw2 : IntKind.i64.wrap ((k : Int) + 3 - (K : Int)) = (k : Int) + 3 - (K : Int) := IntWalk.i64_in _ (by omega)
      have hw3 : IntKind.i64.wrap ((k : Int) + 3 - (K : Int) - (M : Int)) = (sh : Int) := by rw [IntWalk.i64_in _ (by omega)]; have := HE.out; omega
      have hw4 : (k : Int) + 3 - (K : Int) - (M : Int) = (sh : Int) := by have := HE.out; omega
      have hmu := Ms.mulL_in lc l (k := k + 1) (q := k) (by omega)
      obtain ⟨s, hs⟩ : ∃ s, s = Po.mulL lc (Po.cf l) k := ⟨_, rfl⟩
      rw [← hs] at hmu
      have HSs := Lib.hid hs
      have hk1m : k + 1 ≤ 1099511627776 := by omega
      have htk : k + 1 ≤ n := hlt
      clear hs
      by_cases hs0 : s = 0
      · have hsb : (s == 0#32) = true := by rw [hs0]; rfl
        have HS2 := Lib.hid (HS.out.same (by rw [← HSs.out]; exact hs0))
        clear hs0
        go_wp2_with (first
          | (go_at_call 44; refine (lastsum_any _ _ _ _ (k + 1) c k lc (l.take (k + 1)) _ hcw ((h.below hb).take htk) rfl hKk hk1m).mono ?_; rw [hmu]; rintro e w1 ⟨rfl, hb1⟩))
        go_roundw
        case rel => exact ⟨k + 1, K, M, L, sh + 1, lc, lb, e, by omega, by go_num, hcu.below hb1, hea.below hb1, rfl, hlen, hlb, Lib.hid ⟨HE.out.1, by have := HE.out.2; omega⟩, HS2, hb.trans (hb1.mono hb.size)⟩
        case measure => simp [intOf]; omega
      · have hsb : (s == 0#32) = false := by simpa using hs0
        obtain ⟨N, hN⟩ : ∃ N, N = max K (sh + M) := ⟨_, rfl⟩
        have hNb : N ≤ 1099511627776 := by omega
        have hN' : N = max lc.length (sh + lb.length) := by rw [hlen, hlb]; exact hN
        have hl2 : (Po.mk N (Po.addF (Po.cf lc) (Po.Xn sh (Po.sclF (Gf.mul s (Gf.inv e)) (Po.cf lb))))).length = N := Po.mk_length _ _
        by_cases hgt : K < N
        · have hg2 : (K : Int) < (N : Int) := by omega
          obtain ⟨hst, hsm⟩ := HS.out.grow' HE.out.1 HE.out.2 (by rw [← HSs.out]; exact hs0) hN' (by omega)
          rw [← HSs.out] at hst
          generalize hln : Po.mk N (Po.addF (Po.cf lc) (Po.Xn sh (Po.sclF (Gf.mul s (Gf.inv e)) (Po.cf lb)))) = ln at hst hl2
          have HC := Lib.hid hln
          have HS2 := Lib.hid hst
          have HN := Lib.hid (And.intro hN hsm)
          clear hs0 hN hN' hst hsm hln
          go_wp2_with (first
            | (go_at_call 44; refine (lastsum_any _ _ _ _ (k + 1) c k lc (l.take (k + 1)) _ hcw ((h.below hb).take htk) rfl hKk hk1m).mono ?_; rw [hmu]; rintro e w1 ⟨rfl, hb1⟩)
            | (go_at_call 47; refine (inverse_any _ _).mono ?_; rintro e w' ⟨rfl, rfl⟩)
            | (go_at_call 46; refine (mul_any _ _ _).mono ?_; rintro e w' ⟨rfl, rfl⟩)
            | (go_at_call 45; refine (corrected_any _ _ _ _ _ _ _ N lc lb _ _ (hcw.below hb1) (hew.below hb1) HN.out.1 hNb).mono ?_; rw [HC.out]; rintro e w2 ⟨⟨v, rfl, hv⟩, hb2⟩; obtain ⟨va, vc, rfl, hvc, hvw⟩ := fresh_shape hv hl2))
          have hb12 := hb1.trans (hb2.mono hb1.size)
          go_roundw
          case rel => exact ⟨k + 1, N, K, N - 1, 1, ln, lc, s, by omega, by go_num, hv.low (Nat.le_trans hb.size hb1.size), hcu.below hb12, rfl, hl2, hlen, Lib.hid ⟨by omega, by have := HN.out.2; omega⟩, HS2, hb.trans (hb12.mono hb.size)⟩
          case measure => simp [intOf]; omega
        · have hg2 : ¬ (K : Int) < (N : Int) := by omega
          obtain ⟨hst, hsm⟩ := HS.out.keep' HE.out.1 HE.out.2 (by rw [← HSs.out]; exact hs0) hN' (by omega)
          rw [← HSs.out] at hst
          generalize hln : Po.mk N (Po.addF (Po.cf lc) (Po.Xn sh (Po.sclF (Gf.mul s (Gf.inv e)) (Po.cf lb)))) = ln at hst hl2
          have HC := Lib.hid hln
          have HS2 := Lib.hid hst
          have HN := Lib.hid (And.intro hN hsm)
          clear hs0 hN hN' hst hsm hln
          go_wp2_with (first
            | (go_at_call 44; refine (lastsum_any _ _ _ _ (k + 1) c k lc (l.take (k + 1)) _ hcw ((h.below hb).take htk) rfl hKk hk1m).mono ?_; rw [hmu]; rintro e w1 ⟨rfl, hb1⟩)
            | (go_at_call 47; refine (inverse_any _ _).mono ?_; rintro e w' ⟨rfl, rfl⟩)
            | (go_at_call 46; refine (mul_any _ _ _).mono ?_; rintro e w' ⟨rfl, rfl⟩)
            | (go_at_call 45; refine (corrected_any _ _ _ _ _ _ _ N lc lb _ _ (hcw.below hb1) (hew.below hb1) HN.out.1 hNb).mono ?_; rw [HC.out]; rintro e w2 ⟨⟨v, rfl, hv⟩, hb2⟩; obtain ⟨va, vc, rfl, hvc, hvw⟩ := fresh_shape hv hl2))
          have hb12 := hb1.trans (hb2.mono hb1.size)
          go_roundw
          case rel => exact ⟨k + 1, N, M, L, sh + 1, ln, lb, _, by omega, by go_num, hv.low (Nat.le_trans hb.size hb1.size), hea.below hb12, rfl, hl2, hlb, Lib.hid ⟨by have := HN.out.2; have := HE.out.1; omega, by have := HN.out.2; have := HE.out; omega⟩, HS2, hb.trans (hb12.mono hb.size)⟩
          case measure => simp [intOf]; omega
    · have hkn : k = n := by omega
      have hrc : Ms.Rec lc Lm (Po.cf l) n ∧ K = Lm + 1 := by
        have h1 := HS.out
        rw [hkn] at h1
        have h2 := h1.least'.eq HL.out
        rw [h2] at h1
        exact ⟨h1.rc, by have := HE.out; omega⟩
      have HRc := Lib.hid hrc
      clear hrc hkn
      go_wp2
      go_ret
      exact ⟨⟨_, lc, rfl, hcu, by rw [hlen]; exact HRc.out.2, HRc.out.1⟩, hb⟩
end Go.Proofs.Ytamigcbodplmcaa
