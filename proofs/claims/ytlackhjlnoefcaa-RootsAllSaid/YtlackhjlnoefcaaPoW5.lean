/- Package poly: division. -/
import Derived.Test.YtlackhjlnoefcaaPoW4
import Derived.Test.YtlackhjlnoefcaaPoD
import Derived.ControlIn
import Derived.Test.YtlackhjlnoefcaaRr
namespace Go.Proofs.Ytlackhjlnoefcaa
open Go Go.RowKit Go.Shelf
attribute [local go_sem] Oper.semAt_some

/-- the division's state in memory -/
structure DivSt (la lb : List (BitVec 32)) (bv : Value) (B s gr NQ d0 : Nat) (iv : BitVec 32) (w : World) (k : Nat) (R Q : Nat → BitVec 32) (W : World) : Prop where
  inv : Po.DivInv la lb k R Q
  r : Has W gr 37 (wcells (Po.len1 la) R)
  q : Has W (s + 1) 37 (wcells NQ Q)
  c0 : Has W B 22 #[bv]
  c1 : Has W (B + 1) 22 #[.slice (some ⟨s + 1, 0, none⟩) NQ NQ]
  c2 : Has W (B + 1 + 1) 22 #[.slice (some ⟨gr, 0, none⟩) (Po.len1 la) (Po.len1 la)]
  cd : Has W s 3 #[.int .i64 (d0 : Int)]
  ci : Has W (s + 1 + 1) 37 #[.int .u32 (nb32 iv)]
  bel : Below w.heap.size w W
theorem DivSt.own {la lb : List (BitVec 32)} {bv : Value} {B s gr NQ d0 : Nat} {iv : BitVec 32} {w : World} {k : Nat} {R Q : Nat → BitVec 32} {W W' : World} {BB : Nat} {row : Option Nat}
    (h : DivSt la lb bv B s gr NQ d0 iv w k R Q W) (hB : w.heap.size ≤ BB) (hg : W.grownBy W' row) (hr : ∀ r, row = some r → BB ≤ r ∧ ∃ o : Obj, W.heap[r]? = some o ∧ o.isCells = false) : DivSt la lb bv B s gr NQ d0 iv w k R Q W' :=
  ⟨h.inv, h.r.own hg hr, h.q.own hg hr, h.c0.own hg hr, h.c1.own hg hr, h.c2.own hg hr, h.cd.own hg hr, h.ci.own hg hr, below_own h.bel hB hg hr⟩
theorem Words32.draw {w : World} {a : Option Addr} {n : Nat} {l : List (BitVec 32)} (h : Words32 w a n l) : Words32 w.drew a n l := h
set_option maxHeartbeats 4000000 in
set_option maxRecDepth 100000 in
theorem pdivide_any (a b : Option Addr) (n c m d : Nat) (la lb : List (BitVec 32)) (w : World) (ha : Words32 w a n la) (hb : Words32 w b m lb) (hbd : m ≤ d) (hs : n ≤ 1099511627776) (hs2 : m ≤ 1099511627776) (h0 : Po.len1 lb ≠ 0) :
    Calls Try.prog 50 #[.slice a n c, .slice b m d] w fun e w' =>
      (∃ v u, e = .returned (.tuple #[v, u]) ∧ Fresh 37 w.heap.size w' v (Po.qr la lb).1 ∧ Fresh 37 w.heap.size w' u (Po.qr la lb).2) ∧ Below w.heap.size w w' := by
  have hmix : Try.prog.follows .mixedOrders = true := by kernel_rfl
  apply calls_of_wide
  refine callsIn_of_wp_marks Try.func50 rfl trivial ?_ rfl
  simp only [Try.ntmps50, List.size_toArray, List.length_cons, List.length_nil, Nat.reduceAdd, Nat.reduceSub, Array.replicate_succ, Array.replicate_zero, List.push_toArray, List.append_toArray, List.nil_append, List.cons_append]
  refine wpIn_wide.2 ?_
  go_wp2
  obtain ⟨W0, hW0⟩ : ∃ W0, ((w.alloc (.cells #[.slice b m d] 22)).alloc (.cells #[.slice none 0 0] 22)).alloc (.cells #[.slice none 0 0] 22) = W0 := ⟨_, rfl⟩
  have hs0 : W0.heap.size = w.heap.size + 1 + 1 + 1 := by rw [← hW0]; simp
  have hbb : Has W0 w.heap.size 22 #[.slice b m d] := by rw [← hW0]; exact ((Has.fresh _ _ _).past _).past _
  have hbq : Has W0 (w.heap.size + 1) 22 #[.slice none 0 0] := by rw [← hW0]; exact (Has.fresh_at _ _ _ (by simp)).past _
  have hbr : Has W0 (w.heap.size + 1 + 1) 22 #[.slice none 0 0] := by rw [← hW0]; exact Has.fresh_at _ _ _ (by simp)
  have hb0 : Below w.heap.size w W0 := by rw [← hW0]; exact (((Below.refl _ w).alloc (Nat.le_refl _) _).alloc (by simp) _).alloc (by simp; omega) _
  rw [hW0]
  clear hW0
  have ha0 := ha.below hb0
  have hb1 := hb.below hb0
  refine wpIn_wide.1 (wpIn_mono (n := 5) (Q := Exit.then (fun a' w' => ∃ gr, a' = { tmps := #[.slice a n c, .slice b m d, undef, .pointer (some ⟨w.heap.size, 0, none⟩), .pointer (some ⟨w.heap.size + 1, 0, none⟩), .pointer (some ⟨w.heap.size + 1 + 1, 0, none⟩), undef, undef, undef, undef, undef, .slice a n c, .slice (some ⟨gr, 0, none⟩) (Po.len1 la) (Po.len1 la), .slice b m d, .slice b (Po.len1 lb) d, undef, undef, undef, undef, undef, undef, undef, undef, undef, undef, undef, undef, undef, undef, undef, undef, undef, undef, undef, undef, undef, undef, undef, undef, undef, undef, undef, undef, undef, undef, undef, undef, undef, undef, undef, undef, undef, undef, undef, undef, undef], defers := [] } ∧ w.heap.size + 1 + 1 < gr ∧ Has w' gr 37 (wcells (Po.len1 la) (Po.cf la)) ∧
      Has w' w.heap.size 22 #[.slice b (Po.len1 lb) d] ∧ Has w' (w.heap.size + 1) 22 #[.slice none 0 0] ∧ Has w' (w.heap.size + 1 + 1) 22 #[.slice (some ⟨gr, 0, none⟩) (Po.len1 la) (Po.len1 la)] ∧ Below w.heap.size w w') (fun _ _ _ => False)) (wpIn_wide.2 ?r1) ?_)
  case r1 =>
    have hc1 := hbb.cell_at (i := 0) rfl
    have hl0 := hbb.lt
    have hl2 := hbr.lt
    go_region_law (first
      | (go_simp; go_at_call 28; refine (trim_own a n c la _ ha0.draw hs).mono ?_; rintro e w1 ⟨⟨gr, rfl, hgr, hhr⟩, hbw1⟩; have hc2 := (hbb.draw.under hbw1 hl0).cell_at (i := 0) rfl; have hgl := hhr.lt)
      | (go_simp; go_at_call 48; refine (bare_any b m d lb _ (hb1.draw.below hbw1) hbd).mono ?_; rintro e w2 ⟨rfl, hbw2⟩
         have hx0 := (hbb.draw.under hbw1 hl0).under hbw2 (Nat.lt_of_lt_of_le hl0 hbw1.size); have hx2 := (hbr.draw.under hbw1 hl2).under hbw2 (Nat.lt_of_lt_of_le hl2 hbw1.size)
         have hc3 := hx0.cell_at (i := 0) rfl; have hf3 := hx0.loose 0; have hc4 := hx2.cell_at (i := 0) rfl; have hf4 := hx2.loose 0))
    all_goals
      (have hx1 := (hbq.draw.under hbw1 (show w.heap.size + 1 < W0.heap.size by omega)).under hbw2 (Nat.lt_of_lt_of_le (show w.heap.size + 1 < W0.heap.size by omega) hbw1.size)
       have hgr' : w.heap.size + 1 + 1 < gr := Nat.lt_of_lt_of_le (show w.heap.size + 1 + 1 < W0.heap.size by omega) hgr
       have hhr2 := hhr.under hbw2 hgl
       refine ⟨gr, rfl, hgr', (hhr2.aside (by show gr ≠ w.heap.size + 1 + 1; omega) _).aside (by show gr ≠ w.heap.size; omega) _, (hx0.aside (by show w.heap.size ≠ w.heap.size + 1 + 1; omega) _).put 0 _,
         (hx1.aside (by show w.heap.size + 1 ≠ w.heap.size + 1 + 1; omega) _).aside (by show w.heap.size + 1 ≠ w.heap.size; omega) _, (hx2.put 0 _).aside (by show w.heap.size + 1 + 1 ≠ w.heap.size; omega) _, ?_⟩
       have hq : Below w.heap.size w w2 := (hb0.drew.trans (hbw1.mono (show w.heap.size ≤ W0.heap.size by omega))).trans (hbw2.mono (Nat.le_trans (show w.heap.size ≤ W0.heap.size by omega) hbw1.size))
       exact (hq.setCell (p := ⟨w.heap.size + 1 + 1, 0, none⟩) (by show w.heap.size ≤ w.heap.size + 1 + 1; omega) _).setCell (p := ⟨w.heap.size, 0, none⟩) (Nat.le_refl _) _)
  intro e a' w' hq
  rcases e with _ | _ | _ | _ | _ | _
  case normal =>
    obtain ⟨gr, rfl, hgr, hhr, hB0, hB1, hB2, hbw⟩ := hq
    have hla := Po.len1_le la
    have hlb := Po.len1_le lb
    have hln := ha.1
    have hlm := hb.1
    obtain ⟨NQ, hNQ⟩ : ∃ N, N = Po.len1 la + 1 - Po.len1 lb := ⟨_, rfl⟩
    have hmk := make_words NQ (by omega)
    obtain ⟨d0, hd0⟩ : ∃ d0, Po.len1 lb = d0 + 1 := ⟨Po.len1 lb - 1, by omega⟩
    have hde : (Po.len1 lb : Int) - 1 = (d0 : Int) := by omega
    have hmx : ∀ w, (Builtin.max_ #[3, 3] 3 #[.int .i64 ((Po.len1 la : Int) - (d0 : Int)), .int .i64 0]).run Try.prog w = .ok (.int .i64 (NQ : Int)) w := fun w => by
      rw [run_max_int2]
      congr 2
      split <;> omega
    have hd1 : d0 < Po.len1 lb := by omega
    have HD := Lib.hid hd0
    clear hd0
    have hc0 := hB0.cell_at (i := 0) rfl
    have hc1 := hB1.cell_at (i := 0) rfl
    have hc2 := hB2.cell_at (i := 0) rfl
    have hf1 := hB1.loose 0
    have hl0 := hB0.lt
    have hl1 := hB1.lt
    have hl2 := hB2.lt
    have hlr := hhr.lt
    have HNQ := Lib.hid hNQ
    clear hNQ
    have hwb := (hb.bare).below hbw
    obtain ⟨ad, rfl, hx⟩ := hwb.2.2 d0 hd1
    have hxz : (Po.trim lb).getD d0 0 = Po.cf lb d0 := congrFun (Po.cf_trim lb) d0
    rw [hxz] at hx
    obtain ⟨bl, hbl⟩ : ∃ z, z = Po.cf lb d0 := ⟨_, rfl⟩
    rw [← hbl] at hx
    have hadb : (ad.add d0).block < w.heap.size := by
      have h1 : ad.block < w.heap.size := hb.block_lt (by omega) rfl
      unfold Addr.add
      split <;> exact h1
    have hbl0 := hbw.size
    have hcb : ∀ X o1 o2, (((w'.setCell ⟨w.heap.size + 1, 0, none⟩ X).alloc o1).alloc o2).cell? (ad.add d0) = some (.int .u32 (nb32 bl)) := fun X o1 o2 => by
      rw [World.cell?_alloc_lt _ _ _ (by rw [World.size_alloc, World.size_setCell]; omega), World.cell?_alloc_lt _ _ _ (by rw [World.size_setCell]; omega), World.cell?_setCell_other _ _ _ _ (fun e => by rw [← e] at hadb; simp at hadb; omega)]
      exact hx
    clear hx
    have HBL := Lib.hid hbl
    clear hbl hxz
    go_wp2_with (first
      | (go_at_call 65; refine (inverse_any _ _).mono ?_; rintro e w1 ⟨rfl, rfl⟩)
      | (go_at_call 43; refine (fromLast_any _ _ _ _).mono ?_; rintro e w1 ⟨rfl, rfl⟩))
    obtain ⟨W5, hW5⟩ : ∃ W5, (((((w'.setCell ⟨w.heap.size + 1, 0, none⟩ (.slice (some ⟨w'.heap.size + 1, 0, none⟩) NQ NQ)).alloc (.cells #[.int .i64 (d0 : Int)] 3)).alloc (.cells (wcells NQ fun _ => 0#32) 37)).alloc
      (.cells #[.int .u32 (nb32 (Gf.inv bl))] 37)).alloc (.cells #[.slice (some ⟨gr, 0, none⟩) (Po.len1 la) (Po.len1 la)] 22)) = W5 := ⟨_, rfl⟩
    have hst : DivSt la lb (.slice (some ad) (Po.len1 lb) d) w.heap.size w'.heap.size gr NQ d0 (Gf.inv bl) w (Po.len1 la) (Po.cf la) (fun _ => 0) W5 := by
      rw [← hW5]
      exact ⟨Po.DivInv.start la lb, ((((hhr.aside (by show gr ≠ w.heap.size + 1; omega) _).past _).past _).past _).past _, ((Has.fresh_at _ _ _ (by simp)).past _).past _,
        ((((hB0.aside (by show w.heap.size ≠ w.heap.size + 1; omega) _).past _).past _).past _).past _, ((((hB1.put 0 _).past _).past _).past _).past _,
        ((((hB2.aside (by show w.heap.size + 1 + 1 ≠ w.heap.size + 1; omega) _).past _).past _).past _).past _, (((Has.fresh_at _ _ _ (by simp)).past _).past _).past _, (Has.fresh_at _ _ _ (by simp)).past _,
        (((((hbw.setCell (p := ⟨w.heap.size + 1, 0, none⟩) (by show w.heap.size ≤ w.heap.size + 1; omega) _).alloc (by simp; omega) _).alloc (by simp; omega) _).alloc (by simp; omega) _).alloc (by simp; omega) _)⟩
    have hs5 : W5.heap.size = w'.heap.size + 1 + 1 + 1 + 1 := by rw [← hW5]; simp
    have hit : W5.cell? ⟨w'.heap.size + 1 + 1 + 1, 0, none⟩ = some (.slice (some ⟨gr, 0, none⟩) (Po.len1 la) (Po.len1 la)) := by
      rw [← hW5]
      exact (Has.fresh_at _ _ _ (by simp)).cell_at (i := 0) rfl
    rw [hW5]
    clear hW5 hc0 hc1 hc2 hf1 hmk hmx hcb
    have hgd : Good (w'.heap.size + 1 + 1 + 1) (some ⟨gr, 0, none⟩) (Po.len1 la) (Po.len1 la) W5 := Good.of hit (words_of_has hst.r (Nat.le_refl _) (by omega)) 
    have hAm : Po.len1 la ≤ maxLen := by unfold maxLen; omega
    refine (wpIn_wide (n := 5)).1 ?_
    refine wpIn_range_told (F := Fence.wide) rfl (by omega) (gf := 62) (lb := #[.pointer (some ⟨w'.heap.size + 1 + 1 + 1, 0, none⟩)]) rfl trivial (enters_of Try.func62 (by kernel_rfl) rfl)
      (fromLast_iter 4 (by omega) (w'.heap.size + 1 + 1 + 1) _ _ _ hAm W5 hgd) (Below.refl _ _) (fun _ => rfl)
      (fun h1 h2 h => h2 (h1 h)) (fun W l o o' _ ho hc hg => hg.put o' ho hc) (fun x s' => reading_own _ _ x s')
      (fun k W => k ≤ Po.len1 la ∧ ∃ R Q, DivSt la lb (.slice (some ad) (Po.len1 lb) d) w.heap.size w'.heap.size gr NQ d0 (Gf.inv bl) w k R Q W)
      (fun cd _ W => cd = .exit 0 ∧ ∃ k, k ≤ Po.len1 la ∧ k < Po.len1 lb ∧ ∃ R Q, DivSt la lb (.slice (some ad) (Po.len1 lb) d) w.heap.size w'.heap.size gr NQ d0 (Gf.inv bl) w k R Q W)
      (fun k W W' row h hg hr => ⟨h.1, by obtain ⟨R, Q, hh⟩ := h.2; exact ⟨R, Q, hh.own (by omega) hg hr⟩⟩)
      (fun cd k W W' row h hg hr => ⟨h.1, by obtain ⟨k2, h1, h2, R, Q, hh⟩ := h.2; exact ⟨k2, h1, h2, R, Q, hh.own (by omega) hg hr⟩⟩)
      ⟨Nat.le_refl _, _, _, hst⟩
      (fun x => { tmps := #[.slice a n c, .slice (some ad) m d, undef, .pointer (some ⟨w.heap.size, 0, none⟩), .pointer (some ⟨w.heap.size + 1, 0, none⟩), .pointer (some ⟨w.heap.size + 1 + 1, 0, none⟩), .pointer (some ⟨w'.heap.size, 0, none⟩), .pointer (some ⟨w'.heap.size + 1 + 1, 0, none⟩), .int .i64 (x.1 : Int), .int .u32 (nb32 x.2), undef, .slice a n c, .slice (some ⟨gr, 0, none⟩) (Po.len1 la) (Po.len1 la), .slice (some ad) m d, .slice (some ad) (Po.len1 lb) d, .slice (some ad) (Po.len1 lb) d, .int .i64 (Po.len1 lb : Int), .int .i64 (d0 : Int), .slice (some ⟨gr, 0, none⟩) (Po.len1 la) (Po.len1 la), .int .i64 (Po.len1 la : Int), .int .i64 (d0 : Int), .int .i64 ((Po.len1 la : Int) - (d0 : Int)), .int .i64 (NQ : Int), .slice (some ⟨w'.heap.size + 1, 0, none⟩) NQ NQ, .slice (some ad) (Po.len1 lb) d, .int .i64 (d0 : Int), .pointer (some (ad.add d0)), .int .u32 (nb32 bl), .int .u32 (nb32 (Gf.inv bl)), .slice (some ⟨gr, 0, none⟩) (Po.len1 la) (Po.len1 la), .func (.func 62) #[] #[.pointer (some ⟨w'.heap.size + 1 + 1 + 1, 0, none⟩)], .int .i64 (x.1 : Int), .int .u32 (nb32 x.2), undef, undef, undef, undef, undef, undef, undef, undef, undef, undef, undef, undef, undef, undef, undef, undef, undef, undef, undef, undef, undef, undef, undef], defers := [] })
      ?assign ?body ?done ?stop
    case assign =>
      intro l x W K hK
      dsimp only [encR]
      gi_wp2
      exact hK
    case body =>
      rintro lp k x k' W ⟨hk, R, Q, hS⟩ hr hsz
      obtain ⟨rfl, hx1, ad', e', hx⟩ := hr
      obtain rfl : ad' = ⟨gr, 0, none⟩ := by injection e' with e'; exact e'.symm
      obtain ⟨i, z⟩ := x
      have hi : i = k' := hx1
      subst hi
      have hzR : z = R i := by
        have h1 : W.cell? ((⟨gr, 0, none⟩ : Addr).add i) = some (.int .u32 (nb32 z)) := hx
        rw [Addr.add_mid, Nat.zero_add, hS.r.cell_at (wcells_at _ (by omega))] at h1
        exact (u32_inj.1 (by injection h1 with h; injection h)).symm
      clear hx hx1 e'
      have HZ := Lib.hid hzR
      clear hzR
      have hcd := hS.cd.cell_at (i := 0) rfl
      by_cases hbr : i < d0
      · have hlt : (i : Int) < (d0 : Int) := by omega
        gi_wp2
        exact ⟨KeepsFrom.refl _ _, rfl, i + 1, by omega, by have := HD.out; omega, R, Q, hS⟩
      · have hnl : ¬ (i : Int) < (d0 : Int) := by omega
        obtain ⟨j, hj⟩ : ∃ j, i = j + d0 := ⟨i - d0, by omega⟩
        have hje : (i : Int) - (d0 : Int) = (j : Int) := by omega
        have hjN : j < NQ := by have := HNQ.out; omega
        have hjA : ¬ Po.len1 la = j := by omega
        have hjA2 : j ≤ Po.len1 la := by omega
        have hci := hS.ci.cell_at (i := 0) rfl
        have hcq := hS.c1.cell_at (i := 0) rfl
        have hcj := hS.q.cell_at (wcells_at (i := j) _ hjN)
        have hfj := hS.q.loose j
        have hgr1 : gr < w'.heap.size := hlr
        have h4 : 1 ≤ 5 - 1 - 1 := by omega
        have HJ := Lib.hid hj
        clear hj
        gi_wp2_with (refine ⟨trivial, ?_⟩; first
          | (gi_at_call 24; refine (CallsIn.inRound lp (callsIn_wide.2 (mul_any _ _ _))).mono ?_; rintro e w3 ⟨rfl, rfl⟩))
        obtain ⟨f, hf⟩ : ∃ f, f = Gf.mul z (Gf.inv bl) := ⟨_, rfl⟩
        rw [← hf]
        have hfS : f = Gf.mul (R i) (Gf.inv (Po.cf lb d0)) := by rw [hf, HZ.out, HBL.out]
        have HF := Lib.hid hfS
        clear hf hfS
        have hS1 : DivSt la lb (.slice (some ad) (Po.len1 lb) d) w.heap.size w'.heap.size gr NQ d0 (Gf.inv bl) w (i + 1) R Q W := hS
        have hr6 := hS.r.aside (p := ⟨w'.heap.size + 1, j, none⟩) (by show gr ≠ w'.heap.size + 1; omega) (.int .u32 (nb32 f))
        have hq6 := hS.q.put j (.int .u32 (nb32 f))
        have h06 := hS.c0.aside (p := ⟨w'.heap.size + 1, j, none⟩) (by show w.heap.size ≠ w'.heap.size + 1; omega) (.int .u32 (nb32 f))
        have h16 := hS.c1.aside (p := ⟨w'.heap.size + 1, j, none⟩) (by show w.heap.size + 1 ≠ w'.heap.size + 1; omega) (.int .u32 (nb32 f))
        have h26 := hS.c2.aside (p := ⟨w'.heap.size + 1, j, none⟩) (by show w.heap.size + 1 + 1 ≠ w'.heap.size + 1; omega) (.int .u32 (nb32 f))
        have hd6 := hS.cd.aside (p := ⟨w'.heap.size + 1, j, none⟩) (by show w'.heap.size ≠ w'.heap.size + 1; omega) (.int .u32 (nb32 f))
        have hi6 := hS.ci.aside (p := ⟨w'.heap.size + 1, j, none⟩) (by show w'.heap.size + 1 + 1 ≠ w'.heap.size + 1; omega) (.int .u32 (nb32 f))
        have hb6 := hS.bel.setCell (p := ⟨w'.heap.size + 1, j, none⟩) (by show w.heap.size ≤ w'.heap.size + 1; omega) (.int .u32 (nb32 f))
        have hk6 : KeepsOthers W (W.setCell ⟨w'.heap.size + 1, j, none⟩ (.int .u32 (nb32 f))) := KeepsOthers.setCell _ _ _
        have ht6 : W.cell? ⟨w'.heap.size + 1 + 1 + 1, 0, none⟩ = some (.slice (some ⟨gr, 0, none⟩) (Po.len1 la) (Po.len1 la)) → (W.setCell ⟨w'.heap.size + 1, j, none⟩ (.int .u32 (nb32 f))).cell? ⟨w'.heap.size + 1 + 1 + 1, 0, none⟩ = some (.slice (some ⟨gr, 0, none⟩) (Po.len1 la) (Po.len1 la)) := fun h => by
          rw [World.cell?_setCell_other _ _ _ _ (by simp)]; exact h
        rw [wcells_put Q (Po.setF Q j f) j f (by unfold Po.setF; rw [if_pos rfl]) (fun i _ hne => by unfold Po.setF; rw [if_neg hne])] at hq6
        have hsz6 : W5.heap.size ≤ (W.setCell ⟨w'.heap.size + 1, j, none⟩ (.int .u32 (nb32 f))).heap.size := by rw [World.size_setCell]; exact hsz
        clear hcd hci hcq hcj hfj
        generalize W.setCell ⟨w'.heap.size + 1, j, none⟩ (.int .u32 (nb32 f)) = W6 at *
        have hcd := hd6.cell_at (i := 0) rfl
        have hc2 := h26.cell_at (i := 0) rfl
        have hc0 := h06.cell_at (i := 0) rfl
        have hbW : Words32 W6 (some ad) (Po.len1 lb) (Po.trim lb) := hb.bare.below hb6
        have hblk : ∀ ad', some ad = some ad' → ad'.block ≠ gr := fun ad' e => by
          have h1 : ad.block < w.heap.size := hb.block_lt (by omega) rfl
          injection e with e
          rw [← e]
          omega
        have hlen1 : Po.len1 lb ≤ Po.len1 la - j := by have h1 := HD.out; have h2 := HJ.out; omega
        have hwr : IntKind.i64.wrap ((i : Int) - (d0 : Int)) = (j : Int) := by rw [IntWalk.i64_in _ (by omega)]; exact hje
        have hwr : IntKind.i64.wrap (j : Int) = (j : Int) := IntWalk.i64_in _ (by omega)
        refine wpIn_round_still_tail 7 hmix (by kernel_rfl) (by simp) (fun ⟨_, _, h⟩ => (h : False)) ?_
        simp only [List.take_succ_cons, List.take_zero, List.drop_succ_cons, List.drop_zero]
        repeat still_step
        refine wpStill_nil ?_
        go_wp2_with (go_at_call 49; refine (addMultiple_any gr j (Po.len1 la - j) (Po.len1 la - j) _ _ (Po.len1 la) _ (Po.trim lb) f R _ hr6.draw hbW.draw hblk hlen1 (by omega)).mono ?_; rintro e w3 ⟨rfl, hg3, ho3, hs3, hB3⟩)
        have hcarry : ∀ {g t cs}, Has W6 g t cs → g ≠ gr → Has w3 g t cs := fun h hne => (ho3 _ h.lt hne).trans h
        have hoth : KeepsOthers W6 w3 := ⟨hs3, fun k o hk ho => by
          have hne : k ≠ gr := fun e => by
            subst e
            have h1 := hr6
            unfold Has at h1
            rw [hk] at h1
            cases h1
            cases ho
          exact (ho3 k (Array.getElem?_eq_some_iff.1 hk).1 hne).trans hk⟩
        have hinv := hS1.inv.step h0 (by have h1 := HD.out; have h2 := HJ.out; omega) (by omega)
        rw [show i + 1 - Po.len1 lb = j from by have h1 := HD.out; have h2 := HJ.out; omega, show Po.len1 lb - 1 = d0 from by have h1 := HD.out; omega, ← HF.out] at hinv
        refine ⟨(hk6.trans hoth).from _, fun hgW => Good.of ?_ (words_of_has hg3 (Nat.le_refl _) (by omega)), by omega, _, _, hinv, hg3, hcarry hq6 (by omega), hcarry h06 (by omega), hcarry h16 (by omega), hcarry h26 (by omega), hcarry hd6 (by omega), hcarry hi6 (by omega), ?_⟩
        · exact (World.cell?_of_block (ho3 (w'.heap.size + 1 + 1 + 1) (by show w'.heap.size + 1 + 1 + 1 < W6.heap.size; omega) (by omega))).trans (ht6 hgW.1)
        · exact hb6.drew.trans (hB3 w.heap.size (by omega) hb6.size)
    case done =>
      rintro D k W hD rfl ⟨hka, R, Q, hS⟩ hK
      have hkb : 0 < Po.len1 lb := by omega
      have hc1 := hS.c1.cell_at (i := 0) rfl
      have hc2 := hS.c2.cell_at (i := 0) rfl
      have hrw : Words32 W (some ⟨gr, 0, none⟩) (Po.len1 la) (Po.mk (Po.len1 la) R) := words_of_has hS.r (Nat.le_refl _) (by omega)
      have hdiv := (hS.inv.done hkb hka).qr
      have hl1 : w.heap.size + 1 < W.heap.size := hS.c1.lt
      have hl2 : w.heap.size + 1 + 1 < W.heap.size := hS.c2.lt
      have hDl : D < W.heap.size := (Array.getElem?_eq_some_iff.1 hK).1
      go_wp2
      go_region_law (first
        | (go_simp; go_at_call 28; refine (trim_any _ _ _ _ _ hrw.draw (by omega)).mono ?_; rintro e w4 ⟨⟨v4, rfl, hv4⟩, hbw4⟩; obtain ⟨ra4, rc4, rfl, _⟩ := id hv4
           have hx1 := hS.c1.draw.under hbw4 hl1; have hx2 := hS.c2.draw.under hbw4 hl2
           have hc3 := hx1.cell_at (i := 0) rfl; have hf3 := hx1.loose 0; have hc4 := hx2.cell_at (i := 0) rfl; have hf4 := hx2.loose 0
           have hc5 : ∀ u, (w4.setCell ⟨w.heap.size + 1, 0, none⟩ u).cell? ⟨w.heap.size + 1 + 1, 0, none⟩ = some (.slice (some ⟨gr, 0, none⟩) (Po.len1 la) (Po.len1 la)) := fun u => (hx2.aside (p := ⟨w.heap.size + 1, 0, none⟩) (by show w.heap.size + 1 + 1 ≠ w.heap.size + 1; omega) u).cell_at (i := 0) rfl
           have hf5 : ∀ u, (w4.setCell ⟨w.heap.size + 1, 0, none⟩ u).frozen? ⟨w.heap.size + 1 + 1, 0, none⟩ = false := fun u => (hx2.aside (p := ⟨w.heap.size + 1, 0, none⟩) (by show w.heap.size + 1 + 1 ≠ w.heap.size + 1; omega) u).loose 0))
      all_goals
        (go_wp2
         have hK4 : w4.heap[D]? = some (.deferred (some [])) := (hbw4.block D hDl).trans hK
         have hN1 : ∀ u, KeepsOthers w4 ((w4.setCell ⟨w.heap.size + 1, 0, none⟩ (.slice (some ⟨w'.heap.size + 1, 0, none⟩) NQ NQ)).setCell ⟨w.heap.size + 1 + 1, 0, none⟩ u) := fun u => (KeepsOthers.setCell _ _ _).trans (KeepsOthers.setCell _ _ _)
         have hN2 : ∀ u g t cs, Has w4 g t cs → w.heap.size + 1 + 1 < g → Has ((w4.setCell ⟨w.heap.size + 1, 0, none⟩ (.slice (some ⟨w'.heap.size + 1, 0, none⟩) NQ NQ)).setCell ⟨w.heap.size + 1 + 1, 0, none⟩ u) g t cs := fun u g t cs h hg =>
           (h.aside (by show g ≠ w.heap.size + 1; omega) _).aside (by show g ≠ w.heap.size + 1 + 1; omega) _
         have hK5 := (hN1 (.slice ra4 (Po.trim (Po.mk (Po.len1 la) R)).length rc4)).same D _ hK4 rfl
         refine leaves_two rfl ⟨_, Try.underlying22, rfl⟩ ⟨_, Try.underlying22, rfl⟩ rfl rfl hK5
           (((hx1.put 0 _).aside (by show w.heap.size + 1 ≠ w.heap.size + 1 + 1; omega) _).cell_at (i := 0) rfl) (((hx2.aside (by show w.heap.size + 1 + 1 ≠ w.heap.size + 1; omega) _).put 0 _).cell_at (i := 0) rfl) ⟨⟨_, _, rfl, ?_, ?_⟩, ?_⟩
         · rw [hdiv]
           exact Fresh.of_has (show w.heap.size ≤ w'.heap.size + 1 by omega) ((hN2 _ _ _ _ (hS.q.draw.under hbw4 hS.q.lt) (by omega)).putObj _ hK5 rfl) (by rw [Po.mk_length, HNQ.out]) (Nat.le_refl _) (by have := HNQ.out; unfold maxLen; omega) (fun i hi => by
             have h1 := Po.cf_mk (Po.len1 la + 1 - Po.len1 lb) Q i
             rw [← HNQ.out, if_pos hi] at h1
             rw [← HNQ.out]
             exact h1.symm)
         · rw [hdiv]
           exact (hv4.carry (fun g t cs hg h => (hN2 _ g t cs h (by have : W.drew.heap.size = W.heap.size := rfl; omega)).putObj _ hK5 rfl)).low (by have : W.drew.heap.size = W.heap.size := rfl; omega)
         · have hb9 : Below w.heap.size w w4 := hS.bel.drew.trans (hbw4.mono hS.bel.size)
           exact below_putObj ((hb9.setCell (p := ⟨w.heap.size + 1, 0, none⟩) (by show w.heap.size ≤ w.heap.size + 1; omega) _).setCell (p := ⟨w.heap.size + 1 + 1, 0, none⟩) (by show w.heap.size ≤ w.heap.size + 1 + 1; omega) _) (by rw [World.size_setCell, World.size_setCell]; exact hb9.size) (by omega) _)
    case stop =>
      rintro D cd k' W hD ⟨rfl, k, hka, hkb, R, Q, hS⟩ hK
      have hc1 := hS.c1.cell_at (i := 0) rfl
      have hc2 := hS.c2.cell_at (i := 0) rfl
      have hrw : Words32 W (some ⟨gr, 0, none⟩) (Po.len1 la) (Po.mk (Po.len1 la) R) := words_of_has hS.r (Nat.le_refl _) (by omega)
      have hdiv := (hS.inv.done hkb hka).qr
      have hl1 : w.heap.size + 1 < W.heap.size := hS.c1.lt
      have hl2 : w.heap.size + 1 + 1 < W.heap.size := hS.c2.lt
      have hDl : D < W.heap.size := (Array.getElem?_eq_some_iff.1 hK).1
      refine (wpIn_wide (n := 5)).2 ?_
      go_wp2
      go_region_law (first
        | (go_simp; go_at_call 28; refine (trim_any _ _ _ _ _ hrw.draw (by omega)).mono ?_; rintro e w4 ⟨⟨v4, rfl, hv4⟩, hbw4⟩; obtain ⟨ra4, rc4, rfl, _⟩ := id hv4
           have hx1 := hS.c1.draw.under hbw4 hl1; have hx2 := hS.c2.draw.under hbw4 hl2
           have hc3 := hx1.cell_at (i := 0) rfl; have hf3 := hx1.loose 0; have hc4 := hx2.cell_at (i := 0) rfl; have hf4 := hx2.loose 0
           have hc5 : ∀ u, (w4.setCell ⟨w.heap.size + 1, 0, none⟩ u).cell? ⟨w.heap.size + 1 + 1, 0, none⟩ = some (.slice (some ⟨gr, 0, none⟩) (Po.len1 la) (Po.len1 la)) := fun u => (hx2.aside (p := ⟨w.heap.size + 1, 0, none⟩) (by show w.heap.size + 1 + 1 ≠ w.heap.size + 1; omega) u).cell_at (i := 0) rfl
           have hf5 : ∀ u, (w4.setCell ⟨w.heap.size + 1, 0, none⟩ u).frozen? ⟨w.heap.size + 1 + 1, 0, none⟩ = false := fun u => (hx2.aside (p := ⟨w.heap.size + 1, 0, none⟩) (by show w.heap.size + 1 + 1 ≠ w.heap.size + 1; omega) u).loose 0))
      all_goals
        (go_wp2
         have hK4 : w4.heap[D]? = some (.deferred (some [])) := (hbw4.block D hDl).trans hK
         have hN1 : ∀ u, KeepsOthers w4 ((w4.setCell ⟨w.heap.size + 1, 0, none⟩ (.slice (some ⟨w'.heap.size + 1, 0, none⟩) NQ NQ)).setCell ⟨w.heap.size + 1 + 1, 0, none⟩ u) := fun u => (KeepsOthers.setCell _ _ _).trans (KeepsOthers.setCell _ _ _)
         have hN2 : ∀ u g t cs, Has w4 g t cs → w.heap.size + 1 + 1 < g → Has ((w4.setCell ⟨w.heap.size + 1, 0, none⟩ (.slice (some ⟨w'.heap.size + 1, 0, none⟩) NQ NQ)).setCell ⟨w.heap.size + 1 + 1, 0, none⟩ u) g t cs := fun u g t cs h hg =>
           (h.aside (by show g ≠ w.heap.size + 1; omega) _).aside (by show g ≠ w.heap.size + 1 + 1; omega) _
         have hK5 := (hN1 (.slice ra4 (Po.trim (Po.mk (Po.len1 la) R)).length rc4)).same D _ hK4 rfl
         refine leaves_two rfl ⟨_, Try.underlying22, rfl⟩ ⟨_, Try.underlying22, rfl⟩ rfl rfl hK5
           (((hx1.put 0 _).aside (by show w.heap.size + 1 ≠ w.heap.size + 1 + 1; omega) _).cell_at (i := 0) rfl) (((hx2.aside (by show w.heap.size + 1 + 1 ≠ w.heap.size + 1; omega) _).put 0 _).cell_at (i := 0) rfl) ⟨⟨_, _, rfl, ?_, ?_⟩, ?_⟩
         · rw [hdiv]
           exact Fresh.of_has (show w.heap.size ≤ w'.heap.size + 1 by omega) ((hN2 _ _ _ _ (hS.q.draw.under hbw4 hS.q.lt) (by omega)).putObj _ hK5 rfl) (by rw [Po.mk_length, HNQ.out]) (Nat.le_refl _) (by have := HNQ.out; unfold maxLen; omega) (fun i hi => by
             have h1 := Po.cf_mk (Po.len1 la + 1 - Po.len1 lb) Q i
             rw [← HNQ.out, if_pos hi] at h1
             rw [← HNQ.out]
             exact h1.symm)
         · rw [hdiv]
           exact (hv4.carry (fun g t cs hg h => (hN2 _ g t cs h (by have : W.drew.heap.size = W.heap.size := rfl; omega)).putObj _ hK5 rfl)).low (by have : W.drew.heap.size = W.heap.size := rfl; omega)
         · have hb9 : Below w.heap.size w w4 := hS.bel.drew.trans (hbw4.mono hS.bel.size)
           exact below_putObj ((hb9.setCell (p := ⟨w.heap.size + 1, 0, none⟩) (by show w.heap.size ≤ w.heap.size + 1; omega) _).setCell (p := ⟨w.heap.size + 1 + 1, 0, none⟩) (by show w.heap.size ≤ w.heap.size + 1 + 1; omega) _) (by rw [World.size_setCell, World.size_setCell]; exact hb9.size) (by omega) _)
  all_goals exact hq.elim
end Go.Proofs.Ytlackhjlnoefcaa
