/- package digest: Tree; what the package answers -/
import Derived.Test.YtopeicgcpfcccaaDoorDgG
namespace Go.Proofs.YtopeicgcpfcccaaDoor
open Go Go.RowKit Go.ChangeShapes Go.WideShapes
set_option maxRecDepth 100000 in
set_option maxHeartbeats 4000000 in
theorem dtree_zero (a : Option Addr) (c : Nat) (w : World) :
    Calls Tryd.prog 15 #[.slice a 0 c] w fun e w' => e = .returned (.agg (blist (Dg.tree [])).toArray) ∧ Below w.heap.size w w' := by
  have hl0 : (Dg.tree []).length = 32 := rfl
  go_enter Tryd.func15, Tryd.ntmps15
  go_upto_region 1 with fail
  obtain ⟨w0, hw0⟩ : ∃ x, x = w.alloc (.cells z32 25) := ⟨_, rfl⟩
  rw [← hw0]
  have hR0 : Has w0 w.heap.size 25 z32 := by rw [hw0]; exact Has.fresh _ _ _
  have hB0 : Below w.heap.size w w0 := by rw [hw0]; exact (Below.refl _ _).alloc (Nat.le_refl _) _
  clear hw0
  have hth := hR0.there 0 (blist (Dg.tree [])).toArray.size (by rw [List.size_toArray, blist_length, hl0]; decide)
  have HT := Lib.hid (And.intro hth (And.intro (size_hash' hl0) (one_hash (Dg.tree []))))
  clear hth
  go_wp2_with (first
    | (refine wpList_store_mid rfl 25 (.tmp 2) (.tmp 6) rfl w.heap.size 0 (blist (Dg.tree [])).toArray rfl rfl HT.out.1 HT.out.2.1 HT.out.2.2 ?_))
  have hE := hR0.whole (l := Dg.tree []) (by rw [hl0]; rfl)
  exact bodyPost_ret (results_one_cell rfl _ _ w.heap.size rfl _ (run_loadVar_mid _ _ 0 25 _ _ hE.range Tryd.underlying25 rfl (size_hash hl0))) rfl ⟨rfl, below_setAll (Nat.le_refl _) _ 0 hB0⟩
set_option maxRecDepth 100000 in
set_option maxHeartbeats 4000000 in
theorem dtree_any (a : Option Addr) (n c : Nat) (L : List (List (BitVec 8))) (w : World) (hK : KDg w) (hR : Rows8 32 w a n L) (hnc : n ≤ c) (hn : n ≤ 1000) :
    Calls Tryd.prog 15 #[.slice a n c] w fun e w' => e = .returned (.agg (blist (Dg.tree L)).toArray) ∧ Below w.heap.size w w' := by
  by_cases h0 : n = 0
  · subst h0
    obtain rfl := List.length_eq_zero_iff.1 hR.1
    exact dtree_zero a c w
  · have hn1 : ¬ ((n : Int) = 0) := by omega
    have hn2 : ((n : Int) == 0) = false := by simpa using h0
    go_enter Tryd.func15, Tryd.ntmps15
    go_upto_region 1 with fail
    obtain ⟨w0, hw0⟩ : ∃ x, x = w.alloc (.cells z32 25) := ⟨_, rfl⟩
    rw [← hw0]
    have hR0 : Has w0 w.heap.size 25 z32 := by rw [hw0]; exact Has.fresh _ _ _
    have hB0 : Below w.heap.size w w0 := by rw [hw0]; exact (Below.refl _ _).alloc (Nat.le_refl _) _
    have hRW0 := hR.below hB0
    have HK := Lib.hid hK
    have H0 := Lib.hid h0
    clear hw0 hR hK h0
    go_wp2_with fail
    go_loopw [0] (fun v wr => ∃ (a' : Option Addr) (n' c' : Nat) (L' : List (List (BitVec 8))), v = .slice a' n' c' ∧ 1 ≤ n' ∧ n' ≤ 1000 ∧ n' ≤ c' ∧ Rows8 32 wr a' n' L' ∧ Hid (Dg.tree L' = Dg.tree L) ∧ Has wr w.heap.size 25 z32 ∧ Below w.heap.size w wr) (fun v _ => sliceLen v)
    case atStart => exact ⟨a, n, c, L, rfl, by have := H0.out; omega, hn, hnc, hRW0, Lib.hid rfl, hR0, hB0⟩
    case round =>
      clear hR0 hB0 hRW0 hn hnc hn1 hn2
      obtain ⟨a', n', c', L', rfl, h1, hk, hnc, hRW, HT, hRr, hB⟩ := hrel
      by_cases hlt : 1 < n'
      · have hlti : (1 : Int) < (n' : Int) := by omega
        obtain ⟨y, rfl, _⟩ := hRW.2.2.2 0 (by omega)
        have hPR := Lib.hid (paired_any y n' c' L' wr (HK.out.below hB) hRW hk hnc)
        have HN := Lib.hid (And.intro h1 (And.intro hk (And.intro hnc (And.intro hlt (show L'.length = n' from hRW.1)))))
        clear h1 hk hnc hlt hRW
        go_wp2_with (first
          | (go_at_call 24; refine hPR.out.mono ?_; rintro e w3 ⟨v3, rfl, ho3, hb3⟩))
        have hlen : (Dg.up L').length = (n' + 1) / 2 := by rw [Dg.up_len, HN.out.2.2.2.2]
        obtain ⟨a3, c3, rfl, hc3, _, hRW3⟩ := ho3.shape hlen
        have hRr3 := hRr.under hb3 hRr.lt
        go_roundw
        case rel => exact ⟨a3, (n' + 1) / 2, c3, Dg.up L', rfl, by have := HN.out; omega, by have := HN.out; omega, hc3, hRW3, Lib.hid (by rw [← Dg.tree_up (by rw [HN.out.2.2.2.2]; have := HN.out; omega)]; exact HT.out), hRr3, hB.trans (hb3.mono hB.size)⟩
        case measure =>
          have := HN.out
          simp only [sliceLen]
          omega
      · have hone : n' = 1 := by omega
        subst hone
        obtain ⟨l, rfl⟩ : ∃ l, L' = [l] := by
          match L', hRW.1 with
          | [l], _ => exact ⟨l, rfl⟩
        have hl0 : l.length = 32 := hRW.2.2.1 l (by simp)
        have HTR := Lib.hid (show Dg.tree L = l from HT.out.symm)
        obtain ⟨x, rfl, hx⟩ := hRW.load (P := Tryd.prog) Tryd.underlying25 (by kernel_rfl) (i := 0) (by omega)
        rw [Nat.zero_mul, Addr.add_zero'] at hx
        replace hx : (Instr.loadAt 25 (.pointer (some x))).run Tryd.prog wr = .ok (.agg (blist l).toArray) wr := hx
        have hth := hRr.there 0 (blist l).toArray.size (by rw [List.size_toArray, blist_length, hl0]; decide)
        have HTT := Lib.hid (And.intro hth (And.intro (size_hash' hl0) (one_hash l)))
        have HL := Lib.hid hl0
        have h11 : ¬ ((1 : Int) < 1) := by omega
        clear hth hl0 hRW hlt HT
        go_wp2_with (first
          | (refine wpList_store_mid rfl 25 (.tmp 2) (.tmp 14) rfl w.heap.size 0 (blist l).toArray rfl rfl HTT.out.1 HTT.out.2.1 HTT.out.2.2 ?_)
          | (refine wpList_load_run rfl 25 (.tmp 13) rfl _ _ rfl hx ?_))
        have hE := hRr.whole (l := l) (by rw [HL.out]; rfl)
        rw [HTR.out]
        exact bodyPost_ret (results_one_cell rfl _ _ w.heap.size rfl _ (run_loadVar_mid _ _ 0 25 _ _ hE.range Tryd.underlying25 rfl (size_hash HL.out))) rfl ⟨rfl, below_setAll (Nat.le_refl _) _ 0 hB⟩
/-- package digest answers as the digests are defined -/
theorem digestOk : DigestOk KDg where
  stay h hb := h.below hb
  sum a n c LL w hK hP _ _ hn hfl := dsum_any a n c LL w hK hP hn hfl
  double a n c LL w hK hP _ _ hn hfl := ddouble_any a n c LL w hK hP hn hfl
  tree a n c L w hK hR hnc _ hn := dtree_any a n c L w hK hR hnc hn
  word l w hl := word_any l hl w
  compare a b w ha hb := compare_any a b w ha hb
end Go.Proofs.YtopeicgcpfcccaaDoor
