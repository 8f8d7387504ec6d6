/- Package poly: values. -/
import Derived.Test.YtlackhjlnoefcaaPoW3
namespace Go.Proofs.Ytlackhjlnoefcaa
open Go Go.RowKit Go.Shelf
attribute [local go_sem] Oper.semAt_some

theorem Good.of {Bx : Nat} {a : Option Addr} {n c : Nat} {l : List (BitVec 32)} {W : World} (hb : W.cell? ⟨Bx, 0, none⟩ = some (.slice a n c)) (h : Words32 W a n l) : Good Bx a n c W :=
  ⟨hb, fun i hi => by
    obtain ⟨ad, e, hx⟩ := h.2.2 i hi
    exact ⟨ad, _, e, hx⟩⟩
theorem reading_val {a : Option Addr} {k : Nat} {W w : World} {x : Nat × BitVec 32} {k' n : Nat} {l : List (BitVec 32)} (hr : Reading a k W x k') (h : Words32 w a n l) (hk : k ≤ n) (hb : Below w.heap.size w W) : k = k' + 1 ∧ x.1 = k' ∧ x.2 = Po.cf l k' := by
  obtain ⟨rfl, e1, ad, e2, hx⟩ := hr
  refine ⟨rfl, e1, ?_⟩
  obtain ⟨ad', e', hx'⟩ := h.2.2 k' (by omega)
  obtain rfl : ad = ad' := by rw [e2] at e'; injection e'
  rw [← hb.cell (isSome_lt (by rw [hx']; rfl)), hx] at hx'
  exact u32_inj.1 (by injection hx' with h; injection h)

set_option maxHeartbeats 2000000 in
theorem at_any (a : Option Addr) (n c : Nat) (l : List (BitVec 32)) (x : BitVec 32) (w : World) (h : Words32 w a n l) :
    Calls Try.prog 22 #[.slice a n c, .int .u32 (nb32 x)] w fun e w' => e = .returned (.int .u32 (nb32 (Po.ev l x))) ∧ Below w.heap.size w w' := by
  apply calls_of_wide
  refine callsIn_of_wp_marks Try.func22 rfl trivial ?_ rfl
  simp only [Try.ntmps22, List.size_toArray, List.length_cons, List.length_nil, Nat.reduceAdd, Nat.reduceSub, Array.replicate_succ, Array.replicate_zero, List.push_toArray, List.append_toArray, List.nil_append, List.cons_append]
  gi_wp2_with (refine ⟨trivial, ?_⟩; first
    | (gi_at_call 42; refine (callsIn_wide.2 (by_any x _)).mono ?_; rintro e w1 ⟨rfl, hb1, ht1⟩)
    | (gi_at_call 43; refine (callsIn_wide.2 (fromLast_any _ _ _ _)).mono ?_; rintro e w' ⟨rfl, rfl⟩))
  obtain ⟨W2, hW2⟩ : ∃ W2, ((w1.alloc (.cells #[.pointer (some ⟨w.heap.size, 0, none⟩)] 55)).alloc (.cells #[.int .u32 0] 37)).alloc (.cells #[.slice a n c] 22) = W2 := ⟨_, rfl⟩
  have hsz1 := hb1.size
  have hlt1 := ht1.lt
  have hs2 : W2.heap.size = w1.heap.size + 1 + 1 + 1 := by rw [← hW2]; simp
  have hP2 : Has W2 w1.heap.size 55 #[.pointer (some ⟨w.heap.size, 0, none⟩)] := by rw [← hW2]; exact ((Has.fresh _ _ _).past _).past _
  have hV2 : Has W2 (w1.heap.size + 1) 37 #[.int .u32 0] := by rw [← hW2]; exact (Has.fresh_at _ _ _ (by simp)).past _
  have hI2 : Has W2 (w1.heap.size + 1 + 1) 22 #[.slice a n c] := by rw [← hW2]; exact Has.fresh_at _ _ _ (by simp)
  have ht2 : Has W2 w.heap.size 77 (tab x) := by rw [← hW2]; exact ((ht1.past _).past _).past _
  have hb2 : Below w.heap.size w W2 := by rw [← hW2]; exact ((hb1.alloc hsz1 _).alloc (by simp; omega) _).alloc (by simp; omega) _
  rw [hW2]
  clear hW2
  have hn := h.2.1
  have hgd : Good (w1.heap.size + 1 + 1) a n c W2 := Good.of (hI2.cell_at (i := 0) rfl) (h.below hb2)
  refine wpIn_range_told (F := Fence.wide) rfl (by omega) (gf := 62) (lb := #[.pointer (some ⟨w1.heap.size + 1 + 1, 0, none⟩)]) rfl trivial (enters_of Try.func62 (by kernel_rfl) rfl)
    (fromLast_iter 4 (by omega) (w1.heap.size + 1 + 1) a n c hn W2 hgd) (Below.refl _ _) (fun _ => rfl)
    (fun h1 h2 h => h2 (h1 h)) (fun W l o o' _ ho hc hg => hg.put o' ho hc) (fun x s' => reading_own _ a x s')
    (fun k W => k ≤ n ∧ Has W w1.heap.size 55 #[.pointer (some ⟨w.heap.size, 0, none⟩)] ∧ Has W (w1.heap.size + 1) 37 #[.int .u32 (nb32 (Po.ev (l.drop k) x))] ∧ Has W w.heap.size 77 (tab x) ∧ Below w.heap.size w W)
    (fun _ _ _ => False)
    (fun k W W' row h hg hr => ⟨h.1, h.2.1.own hg hr, h.2.2.1.own hg hr, h.2.2.2.1.own hg hr, below_own h.2.2.2.2 (by omega) hg hr⟩)
    (fun _ _ _ _ _ h _ _ => h) ?h0
    (fun y => { tmps := #[Value.slice a n c, Value.int IntKind.u32 (nb32 x), undef, undef, Value.int IntKind.u32 0,
          Value.pointer (some { block := w1.heap.size, off := 0 }),
          Value.pointer (some { block := w1.heap.size + 1, off := 0 }), undef, .int .u32 (nb32 y.2), Value.int IntKind.u32 (nb32 x),
          Value.pointer (some { block := w.heap.size, off := 0 }), Value.slice a n c,
          Value.func (Fn.func 62) #[] #[Value.pointer (some { block := w1.heap.size + 1 + 1, off := 0 })], .int .i64 (y.1 : Int), .int .u32 (nb32 y.2),
          undef, undef, undef, undef, undef, undef, undef], defers := [] })
    ?assign ?body ?done ?stop
  case h0 => exact ⟨Nat.le_refl _, hP2, by rw [List.drop_eq_nil_of_le (by have := h.1; omega)]; exact hV2, ht2, hb2⟩
  case assign =>
    intro l x W K hK
    dsimp only [encR]
    gi_wp2
    exact hK
  case body =>
    rintro lp k y k' W ⟨hk, hP, hV, hT, hb⟩ hr hsz
    obtain ⟨rfl, hy1, hy2⟩ := reading_val hr h hk hb
    obtain ⟨i, z⟩ := y
    have hy1' : i = k' := hy1
    subst hy1'
    have hz : z = Po.cf l i := hy2
    have hev : Po.ev (l.drop i) x = Gf.mul x (Po.ev (l.drop (i + 1)) x) ^^^ z := by
      rw [Po.ev_drop (by have := h.1; omega), hz, BitVec.xor_comm]
    have HE := Lib.hid hev
    clear hev hz hy2 hr hy1
    generalize Po.ev (l.drop (i + 1)) x = v at hV HE
    have hcP := hP.cell_at (i := 0) rfl
    have hcV := hV.cell_at (i := 0) rfl
    have hfV := hV.loose 0
    have hVl := hV.lt
    have hcA : ∀ m o, ((W.drewN m).alloc o).cell? ⟨w1.heap.size + 1, 0, none⟩ = some (.int .u32 (nb32 v)) := fun m o => ((hV.draws m).past o).cell_at (i := 0) rfl
    have hfA : ∀ m o, ((W.drewN m).alloc o).frozen? ⟨w1.heap.size + 1, 0, none⟩ = false := fun m o => ((hV.draws m).past o).loose 0
    have hR : ∀ m o u, Has (((W.drewN m).alloc o).setCell ⟨w1.heap.size + 1, 0, none⟩ u) (w1.heap.size + 1) 37 #[u] ∧
        Has (((W.drewN m).alloc o).setCell ⟨w1.heap.size + 1, 0, none⟩ u) w1.heap.size 55 #[.pointer (some ⟨w.heap.size, 0, none⟩)] ∧
        Has (((W.drewN m).alloc o).setCell ⟨w1.heap.size + 1, 0, none⟩ u) w.heap.size 77 (tab x) ∧
        Below w.heap.size w (((W.drewN m).alloc o).setCell ⟨w1.heap.size + 1, 0, none⟩ u) ∧ KeepsOthers W (((W.drewN m).alloc o).setCell ⟨w1.heap.size + 1, 0, none⟩ u) ∧
        (W.cell? ⟨w1.heap.size + 1 + 1, 0, none⟩ = some (.slice a n c) → (((W.drewN m).alloc o).setCell ⟨w1.heap.size + 1, 0, none⟩ u).cell? ⟨w1.heap.size + 1 + 1, 0, none⟩ = some (.slice a n c)) := fun m o u =>
      ⟨((hV.draws m).past o).put 0 u, ((hP.draws m).past o).aside (by show w1.heap.size ≠ w1.heap.size + 1; omega) u, ((hT.draws m).past o).aside (by show w.heap.size ≠ w1.heap.size + 1; omega) u,
        ((below_draws hb m).alloc hb.size o).setCell (p := ⟨w1.heap.size + 1, 0, none⟩) (by show w.heap.size ≤ w1.heap.size + 1; omega) u,
        ((show KeepsOthers W (W.drewN m) from ⟨Nat.le_refl _, fun _ _ h _ => h⟩).trans (KeepsOthers.alloc _ o)).trans (KeepsOthers.setCell _ _ u),
        fun hc => by
          rw [World.cell?_setCell_other _ _ _ _ (by simp), World.cell?_alloc_lt _ _ _ (by show w1.heap.size + 1 + 1 < W.heap.size; omega)]
          exact hc⟩
    have HR := Lib.hid hR
    clear hR
    have h4 : 1 ≤ 5 - 1 - 1 := by omega
    gi_wp2_with (refine ⟨trivial, ?_⟩; first
      | (gi_at_call 45; refine (CallsIn.inRound lp (callsIn_wide.2 (tmul_any x v w.heap.size _ hT))).mono ?_; rintro e w3 ⟨rfl, n3, rfl⟩)
      | (gi_at_call 44; refine (CallsIn.inRound lp (callsIn_wide.2 (sum2 _ _ _))).mono ?_; rintro e w3 ⟨rfl, rfl⟩))
    obtain ⟨h1, h2, h3, h5, h6, h7⟩ := HR.out n3 (.cells #[.int .u32 (nb32 (Gf.mul x v)), .int .u32 (nb32 z)] 37) (.int .u32 (nb32 (Gf.mul x v ^^^ z)))
    exact ⟨h6.from _, fun hgW => Good.of (h7 hgW.1) (h.below h5), by omega, h2, by rw [HE.out]; exact h1, h3, h5⟩
  case done =>
    rintro D k W hD rfl ⟨_, hP, hV, hT, hb⟩ hK
    have hcV := hV.cell_at (i := 0) rfl
    gi_wp2
    refine leaves_tmp rfl rfl hK ⟨rfl, below_putObj hb hb.size (by omega) _⟩
  case stop =>
    rintro D cd k W hD hf hK
    exact hf.elim
end Go.Proofs.Ytlackhjlnoefcaa
