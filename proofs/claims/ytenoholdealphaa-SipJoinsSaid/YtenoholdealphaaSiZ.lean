/- package sip: Hash -/
import Derived.Test.YtenoholdealphaaSiY
namespace Go.Proofs.Ytenoholdealphaa
open Go Go.RowKit Go.Shelf Go.ChangeShapes Go.WideShapes
attribute [local go_sem] Oper.semAt_some
set_option maxRecDepth 100000 in
set_option maxHeartbeats 4000000 in
theorem siphash_any (k0 k1 : BitVec 64) (ad : Option Addr) (n cp : Nat) (l : List (BitVec 8)) (w : World) (h : Bytes8 w ad n l) (hnc : n ≤ cp) :
    Calls Try.prog 8 #[.agg #[.int .u64 (nb64 k0), .int .u64 (nb64 k1)], .slice ad n cp] w fun e w' => e = .returned (.int .u64 (nb64 (Si.hash k0 k1 l))) ∧ Below w.heap.size w w' := by
  apply calls_wide
  refine callsIn_of_wp_marks Try.func8 rfl trivial ?_ rfl
  simp only [Try.ntmps8, List.size_toArray, List.length_cons, List.length_nil, Nat.reduceAdd, Nat.reduceSub, Array.replicate_succ, Array.replicate_zero, List.push_toArray, List.append_toArray, List.nil_append, List.cons_append]
  have hS := (Has.fresh w 27 #[.int .u64 (nb64 k0), .int .u64 (nb64 k1)]).past (.cells #[.slice ad n cp] 23)
  have hT := Has.fresh_at (n := w.heap.size + 1) (w.alloc (.cells #[.int .u64 (nb64 k0), .int .u64 (nb64 k1)] 27)) 23 #[.slice ad n cp] (by simp)
  have hB := ((Below.refl w.heap.size w).alloc (Nat.le_refl _) (.cells #[.int .u64 (nb64 k0), .int .u64 (nb64 k1)] 27)).alloc (by simp) (.cells #[.slice ad n cp] 23)
  have hH := Lib.hid (And.intro hS (And.intro hT hB))
  clear hS hT hB
  gi_wp2_with (refine ⟨trivial, ?_⟩; first
    | (gi_at_call 18; refine (callsIn_wide.2 (schunks_any _ _ _ _)).mono ?_; rintro e w' ⟨rfl, rfl⟩)
    | (gi_at_call 17; refine (callsIn_wide.2 (sbegun_any k0 k1 _)).mono ?_; rintro e w1 ⟨rfl, hb1⟩; have hT1 := hH.out.2.1.under hb1 hH.out.2.1.lt; have hB1 := hH.out.2.2.trans (hb1.mono hH.out.2.2.size); have cT1 := hT1.cell_at (i := 0) rfl; have hlt1 := hT1.lt))
  obtain ⟨W2, hW2⟩ : ∃ W2, (w1.alloc (.cells #[.int .u64 (nb64 (Si.init k0 k1).a), .int .u64 (nb64 (Si.init k0 k1).b), .int .u64 (nb64 (Si.init k0 k1).c), .int .u64 (nb64 (Si.init k0 k1).d)] 49)).alloc (.cells #[.slice ad n cp] 23) = W2 := ⟨_, rfl⟩
  have hsz1 := hB1.size
  have hs2 : W2.heap.size = w1.heap.size + 1 + 1 := by rw [← hW2]; simp
  have hT2 : Has W2 (w.heap.size + 1) 23 #[.slice ad n cp] := by rw [← hW2]; exact (hT1.past _).past _
  have hG2 : Has W2 w1.heap.size 49 #[.int .u64 (nb64 (Si.init k0 k1).a), .int .u64 (nb64 (Si.init k0 k1).b), .int .u64 (nb64 (Si.init k0 k1).c), .int .u64 (nb64 (Si.init k0 k1).d)] := by rw [← hW2]; exact (Has.fresh _ _ _).past _
  have hI2 : Has W2 (w1.heap.size + 1) 23 #[.slice ad n cp] := by rw [← hW2]; exact Has.fresh_at _ _ _ (by simp)
  have hb2 : Below w.heap.size w W2 := by rw [← hW2]; exact (hB1.alloc hsz1 _).alloc (by simp; omega) _
  rw [hW2]
  clear hW2 hT1 cT1 hH hb1 hB1
  have hgd : Good8 (w1.heap.size + 1) ad n cp l W2 := ⟨hI2.cell_at (i := 0) rfl, h.below hb2⟩
  have hln := Lib.hid h.1
  refine wpIn_range_told (F := Fence.wide) rfl (by omega) (gf := 23) (lb := #[.pointer (some ⟨w1.heap.size + 1, 0, none⟩)]) rfl trivial (enters_of Try.func23 (by kernel_rfl) rfl)
    (schunks_iter 4 (by omega) (w1.heap.size + 1) ad n cp l hnc W2 hgd) (Below.refl _ _) (fun _ => rfl)
    (fun h1 h2 h => h2 (h1 h)) (fun W l o o' _ ho hc hg => hg.put o' ho hc) (fun x s' => cuts_own _ l n x s')
    (fun k W => Has W (w.heap.size + 1) 23 #[.slice ad n cp] ∧ Has W w1.heap.size 49 #[.int .u64 (nb64 (Si.feeds l (Si.init k0 k1) k).a), .int .u64 (nb64 (Si.feeds l (Si.init k0 k1) k).b), .int .u64 (nb64 (Si.feeds l (Si.init k0 k1) k).c), .int .u64 (nb64 (Si.feeds l (Si.init k0 k1) k).d)] ∧ Has W (w1.heap.size + 1) 23 #[.slice ad n cp] ∧ Below w.heap.size w W)
    (fun _ _ _ => False)
    (fun k W W' row h hg hr => ⟨h.1.own8 hg hr, h.2.1.own8 hg hr, h.2.2.1.own8 hg hr, below_own8 h.2.2.2 (by omega) hg hr⟩)
    (fun _ _ _ _ _ h _ _ => h) ⟨hT2, hG2, hI2, hb2⟩
    (fun x => { tmps := #[.agg #[.int .u64 (nb64 k0), .int .u64 (nb64 k1)], .slice ad n cp,
          .pointer (some ⟨w.heap.size, 0, none⟩), .pointer (some ⟨w.heap.size + 1, 0, none⟩), .int .u64 0, .pointer (some ⟨w1.heap.size, 0, none⟩), .slice x.1 x.2.1 x.2.2, undef,
          .agg #[.int .u64 (nb64 k0), .int .u64 (nb64 k1)], .agg #[.int .u64 (nb64 (Si.init k0 k1).a), .int .u64 (nb64 (Si.init k0 k1).b), .int .u64 (nb64 (Si.init k0 k1).c), .int .u64 (nb64 (Si.init k0 k1).d)], .slice ad n cp,
          .func (.func 23) #[] #[.pointer (some ⟨w1.heap.size + 1, 0, none⟩)], .slice x.1 x.2.1 x.2.2, undef,
          undef, undef, undef, undef, undef, undef, undef, undef, undef, undef, undef, undef, undef], defers := [] })
    ?assign ?body ?done ?stop
  case assign =>
    intro l x W K hK
    dsimp only [encC]
    gi_wp2
    exact hK
  case body =>
    rintro lp k ⟨ca, cr, cc⟩ k' W ⟨hT, hG, hI, hb⟩ ⟨rfl, hk8, hcr, hcc⟩ hsz
    replace hcr : cr = (if n < 8 * k + 8 then n - 8 * k else 8) := hcr
    replace hcc : ∀ j, j < cr → ∃ y, ca = some y ∧ W.cell? (y.add j) = some (.int .u8 (nb8 (cb l (8 * k + j)))) := hcc
    have hcr8 : cr ≤ 8 := by split at hcr <;> omega
    obtain ⟨v, hv⟩ : ∃ v, v = Si.feeds l (Si.init k0 k1) k := ⟨_, rfl⟩
    rw [← hv] at hG
    have cT := hT.cell_at (i := 0) rfl
    have HF := Lib.hid (show Si.feeds l (Si.init k0 k1) (k + 1) = Si.feed v (Si.msg l (8 * k)) by rw [hv]; rfl)
    clear hv
    have hfin : ∀ W3, Has W3 w1.heap.size 49 #[.int .u64 (nb64 (Si.feed v (Si.msg l (8 * k))).a), .int .u64 (nb64 (Si.feed v (Si.msg l (8 * k))).b), .int .u64 (nb64 (Si.feed v (Si.msg l (8 * k))).c), .int .u64 (nb64 (Si.feed v (Si.msg l (8 * k))).d)] → W.grownBy W3 (some w1.heap.size) →
        toldPost W2.heap.size (fun W W' => Good8 (w1.heap.size + 1) ad n cp l W → Good8 (w1.heap.size + 1) ad n cp l W') (fun k W => Has W (w.heap.size + 1) 23 #[.slice ad n cp] ∧ Has W w1.heap.size 49 #[.int .u64 (nb64 (Si.feeds l (Si.init k0 k1) k).a), .int .u64 (nb64 (Si.feeds l (Si.init k0 k1) k).b), .int .u64 (nb64 (Si.feeds l (Si.init k0 k1) k).c), .int .u64 (nb64 (Si.feeds l (Si.init k0 k1) k).d)] ∧ Has W (w1.heap.size + 1) 23 #[.slice ad n cp] ∧ Below w.heap.size w W) (fun _ _ _ => False) (k + 1) W .normal { tmps := #[], defers := [] } W3 := fun W3 hG3 hgr3 => by
      have hb3 : Below w.heap.size w W3 := hb.grown hgr3 hb.size (fun k e => by injection e with e; omega)
      have hbx : Below w1.heap.size W W3 := ⟨hgr3.os, hgr3.tape, hgr3.output, hgr3.size, fun j hj => hgr3.block j (by have := hG.lt; omega) (fun e => by injection e; omega)⟩
      have hI3 : Has W3 (w1.heap.size + 1) 23 #[.slice ad n cp] := (hgr3.block _ hI.lt (fun e => by injection e with e; omega)).trans hI
      exact ⟨KeepsFrom.of_grownBy hgr3 (fun j e => by injection e with e; omega), fun _ => ⟨hI3.cell_at (i := 0) rfl, h.below hb3⟩, hT.under hbx (by omega), by rw [HF.out]; exact hG3, hI3, hb3⟩
    have HFin := Lib.hid hfin
    clear hfin HF
    have hwb := h.below hb
    have cI := hI.cell_at (i := 0) rfl
    have h4 : 1 ≤ 5 - 1 - 1 := by omega
    by_cases hlast : n < 8 * k + 8
    · have hcrn : cr = n - 8 * k := by rw [hcr, if_pos hlast]
      have hcl : (cr : Int) < 8 := by omega
      have HW := Lib.hid (Si.wlo_last (l := l) (p := 8 * k) (r := cr) hln.out (by omega) (by omega))
      have hnw := nat_to_u64 n
      have HC := Lib.hid (And.intro hcrn (And.intro hcr hlast))
      clear hcr hcrn hlast
      gi_wp2_with (refine ⟨trivial, ?_⟩; first
        | (gi_at_call 20; rw [HW.out]; refine (CallsIn.inRound lp (callsIn_wide.2 (stake_any v w1.heap.size (Si.msg l (8 * k)) W hG))).mono ?_; rintro e w3 ⟨⟨vv, rfl⟩, hG3, hgr3⟩)
        | (gi_at_call 19; refine (CallsIn.inRound lp (callsIn_wide.2 (sword_any l ca (8 * k) cr cc W hcr8 hcc))).mono ?_; rintro e w3 ⟨rfl, rfl⟩))
      exact HFin.out _ hG3 hgr3
    · have hcrn : cr = 8 := by rw [hcr, if_neg hlast]
      subst hcrn
      have HW := Lib.hid (Si.wlo_whole (l := l) (p := 8 * k) (by rw [hln.out]; omega))
      have HC := Lib.hid (And.intro hcr hlast)
      clear hcr hlast
      gi_wp2_with (refine ⟨trivial, ?_⟩; first
        | (gi_at_call 20; rw [HW.out]; refine (CallsIn.inRound lp (callsIn_wide.2 (stake_any v w1.heap.size (Si.msg l (8 * k)) W hG))).mono ?_; rintro e w3 ⟨⟨vv, rfl⟩, hG3, hgr3⟩)
        | (gi_at_call 19; refine (CallsIn.inRound lp (callsIn_wide.2 (sword_any l ca (8 * k) 8 cc W hcr8 hcc))).mono ?_; rintro e w3 ⟨rfl, rfl⟩))
      exact HFin.out _ hG3 hgr3
  case done =>
    rintro D k W hD rfl ⟨hT, hG, hI, hb⟩ hK
    have h5 : 1 ≤ 5 := by omega
    have HX : Si.hash k0 k1 l = Si.close (Si.feeds l (Si.init k0 k1) (n / 8 + 1)) := by unfold Si.hash; rw [hln.out]
    have HXX := Lib.hid HX
    clear HX
    gi_wp2_with (refine ⟨trivial, ?_⟩; (gi_at_call 21; refine (callsIn_wide.2 (send_any (Si.feeds l (Si.init k0 k1) (n / 8 + 1)) w1.heap.size W hG)).mono ?_; rintro e w3 ⟨rfl, hgr3⟩))
    have hK3 : w3.heap[D]? = some (.deferred (some [])) := (hgr3.block D (Array.getElem?_eq_some_iff.1 hK).1 (fun e => by injection e with e; omega)).trans hK
    have hb3 : Below w.heap.size w w3 := hb.grown hgr3 hb.size (fun k e => by injection e with e; omega)
    exact leaves_tmp rfl rfl hK3 ⟨by rw [HXX.out]; rfl, below_putObj hb3 hb3.size (by omega) _⟩
  case stop => exact fun _ _ _ _ _ h => h.elim
end Go.Proofs.Ytenoholdealphaa
