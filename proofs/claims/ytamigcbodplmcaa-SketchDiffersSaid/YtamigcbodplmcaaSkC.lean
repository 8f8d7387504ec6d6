/- package sketch: a sketch in memory; add, Put, New, Read and what only reads -/
import Derived.Test.YtamigcbodplmcaaSkB
import Derived.Deep.RegionLaw
namespace Go.Proofs.Ytamigcbodplmcaa
open Go Go.RowKit Go.ChangeShapes Go.WideShapes
/-- a sketch in memory, all of it made since block B: its header in block g, its sums l in block ga -/
structure SkA (B : Nat) (w : World) (g ga K c : Nat) (l : List (BitVec 32)) : Prop where
  hg : B ≤ g
  len : l.length = K
  hdr : Has w g 57 #[.slice (some ⟨ga, 0, none⟩) K c]
  own : OwnW 54 B w (.slice (some ⟨ga, 0, none⟩) K c) l
  pos : 1 ≤ K
  top : K ≤ 40
section
variable {B g ga K c : Nat} {w w' : World} {l : List (BitVec 32)}
theorem SkA.ge (h : SkA B w g ga K c l) : B ≤ ga := by
  obtain ⟨_, e, hg, _⟩ := h.own.put (k := 0) h.pos
  injection e with e
  injection e with e
  rw [e]; exact hg
theorem SkA.lt (h : SkA B w g ga K c l) : ga < w.heap.size := by
  obtain ⟨_, e, hg, ⟨cs, hh, _⟩, _⟩ := h.own.put (k := 0) h.pos
  injection e with e
  injection e with e
  rw [e]; exact hh.lt
theorem SkA.ne (h : SkA B w g ga K c l) : g ≠ ga := fun e => by
  have := h.own.apart h.hdr (by decide)
  exact this (by rw [e]; rfl)
theorem SkA.below (h : SkA B w g ga K c l) (hb : Below w.heap.size w w') : SkA B w' g ga K c l :=
  ⟨h.hg, h.len, h.hdr.under hb h.hdr.lt, h.own.below hb, h.pos, h.top⟩
theorem SkA.low {B' : Nat} (h : SkA B w g ga K c l) (hB : B' ≤ B) : SkA B' w g ga K c l :=
  ⟨by have := h.hg; omega, h.len, h.hdr, h.own.low hB, h.pos, h.top⟩
theorem SkA.draw (h : SkA B w g ga K c l) : SkA B w.drew g ga K c l := ⟨h.hg, h.len, h.hdr, h.own, h.pos, h.top⟩
theorem SkA.draws (h : SkA B w g ga K c l) (m : Nat) : SkA B (w.drewN m) g ga K c l := ⟨h.hg, h.len, h.hdr, h.own, h.pos, h.top⟩
theorem SkA.past (h : SkA B w g ga K c l) (o : Obj) : SkA B (w.alloc o) g ga K c l := h.below ((Below.refl _ w).alloc (Nat.le_refl _) o)
theorem SkA.words (h : SkA B w g ga K c l) : Words32 w (some ⟨ga, 0, none⟩) K l := by
  obtain ⟨a', c', e, _, hw⟩ := own_shape h.own h.len
  injection e with e1 e2 e3
  subst e1
  exact hw
theorem SkA.cap (h : SkA B w g ga K c l) : K ≤ c := (h.own.fresh.words).2.1
theorem SkA.hcell (h : SkA B w g ga K c l) : w.cell? ⟨g, 0, none⟩ = some (.slice (some ⟨ga, 0, none⟩) K c) := h.hdr.cell_at (i := 0) rfl
theorem SkA.ecell (h : SkA B w g ga K c l) {k : Nat} (hk : k < K) : w.cell? ⟨ga, k, none⟩ = some (.int .u32 (nb32 (Po.cf l k))) := by
  obtain ⟨x, e, hx⟩ := h.words.2.2 k hk
  injection e with e
  subst e
  rwa [Addr.add_mid, Nat.zero_add] at hx
theorem SkA.eloose (h : SkA B w g ga K c l) {k : Nat} (hk : k < K) : w.frozen? ⟨ga, k, none⟩ = false := by
  obtain ⟨_, e, hg, ⟨cs, hh, _⟩, _⟩ := h.own.put (k := k) hk
  injection e with e
  injection e with e
  subst e
  exact hh.loose k
theorem SkA.put (h : SkA B w g ga K c l) {k : Nat} (hk : k < K) (x : BitVec 32) : SkA B (w.setCell ⟨ga, k, none⟩ (.int .u32 (nb32 x))) g ga K c (l.set k x) := by
  obtain ⟨_, e, hg, _, hp⟩ := h.own.put (k := k) hk
  injection e with e
  injection e with e
  subst e
  exact ⟨h.hg, by rw [List.length_set]; exact h.len, h.hdr.aside (p := ⟨ga, k, none⟩) h.ne _, hp x, h.pos, h.top⟩
end
/-- the sums, an id's odd powers added to the first k of them -/
def Sk.addP (l : List (BitVec 32)) (x : BitVec 32) (k : Nat) : List (BitVec 32) := Po.mk l.length (fun i => if i < k then Po.cf l i ^^^ Gf.pow x (2 * i + 1) else Po.cf l i)
theorem Sk.addP_len (l : List (BitVec 32)) (x : BitVec 32) (k : Nat) : (Sk.addP l x k).length = l.length := Po.mk_length _ _
theorem Sk.addP_zero (l : List (BitVec 32)) (x : BitVec 32) : Sk.addP l x 0 = l := Po.list_ext (Po.mk_length _ _) fun i hi => by
  unfold Sk.addP at hi ⊢
  rw [Po.mk_length] at hi
  rw [Po.cf_mk, if_pos hi, if_neg (by omega)]
theorem Sk.addP_at (l : List (BitVec 32)) (x : BitVec 32) {k : Nat} (h : k < l.length) : Po.cf (Sk.addP l x k) k = Po.cf l k := by
  unfold Sk.addP
  rw [Po.cf_mk, if_pos h, if_neg (by omega)]
theorem Sk.set_cf {l : List (BitVec 32)} {k : Nat} (h : k < l.length) (x : BitVec 32) (i : Nat) : Po.cf (l.set k x) i = if i = k then x else Po.cf l i := by
  show (l.set k x).getD i 0 = if i = k then x else l.getD i 0
  rw [List.getD_eq_getElem?_getD, List.getD_eq_getElem?_getD, List.getElem?_set]
  by_cases e : k = i
  · subst e
    rw [if_pos rfl, if_pos rfl, if_pos h]
    rfl
  · rw [if_neg e, if_neg (fun g => e g.symm)]
theorem Sk.addP_step (l : List (BitVec 32)) (x : BitVec 32) {k : Nat} (h : k < l.length) : (Sk.addP l x k).set k (Po.cf l k ^^^ Gf.pow x (2 * k + 1)) = Sk.addP l x (k + 1) := by
  refine Po.list_ext (by rw [List.length_set, Sk.addP_len, Sk.addP_len]) fun i hi => ?_
  rw [List.length_set, Sk.addP_len] at hi
  rw [Sk.set_cf (by rw [Sk.addP_len]; exact h)]
  unfold Sk.addP
  rw [Po.cf_mk, Po.cf_mk, if_pos hi, if_pos hi]
  by_cases e : i = k
  · rw [if_pos e, if_pos (by omega), e]
  · rw [if_neg e]
    by_cases e2 : i < k
    · rw [if_pos e2, if_pos (by omega)]
    · rw [if_neg e2, if_neg (by omega)]
set_option maxRecDepth 100000 in
set_option maxHeartbeats 4000000 in
theorem sadd_any (B g ga K c : Nat) (l : List (BitVec 32)) (x : BitVec 32) (w : World) (h : SkA B w g ga K c l) :
    Calls Try.prog 40 #[.pointer (some ⟨g, 0, none⟩), .int .u32 (nb32 x)] w fun e w' => (∃ v, e = .returned v) ∧ SkA B w' g ga K c (Sk.addP l x K) ∧ w.grownBy w' (some ga) := by
  have hgl := h.hdr.lt
  have hal := h.lt
  have hK := h.top
  go_enter Try.func40, Try.ntmps40
  go_wp2_with (first
    | (go_at_call 54; refine (by_any _ _).mono ?_; rintro e w1 ⟨rfl, hb1, ht1⟩; have h1 := h.below hb1; have hc1 := h1.hcell)
    | (go_at_call 48; refine (square_any _ _).mono ?_; rintro e w1 ⟨rfl, rfl⟩))
  have hgr1 : w.grownBy w1 (some ga) := ⟨hb1.os, hb1.tape, hb1.output, hb1.size, fun k hk _ => hb1.block k hk⟩
  have hl := h.len
  go_loopw [4, 16] (fun pv iv wr => ∃ k : Nat, k ≤ K ∧ iv = .int .i64 k ∧ pv = .int .u32 (nb32 (Gf.pow x (2 * k + 1))) ∧ SkA B wr g ga K c (Sk.addP l x k) ∧ Has wr w.heap.size 99 (tab (Gf.square x)) ∧ w.grownBy wr (some ga)) (fun _ iv _ => K - (intOf iv).toNat)
  case atStart => exact ⟨0, Nat.zero_le _, rfl, by rw [show Gf.pow x (2 * 0 + 1) = x from Gf.pow_one x], by rw [Sk.addP_zero]; exact h1, ht1, hgr1⟩
  case round =>
    obtain ⟨k, hk, rfl, rfl, hs, ht, hgr⟩ := hrel
    clear h1 hc1 ht1 hgr1 hb1
    by_cases hlt : k < K
    · have hki : (k : Int) < (K : Int) := by omega
      have hk0 : (0 : Int) ≤ (k : Int) := by omega
      have hc := hs.hcell
      have he := hs.ecell hlt
      rw [Sk.addP_at l x (by omega)] at he
      obtain ⟨z, hz⟩ : ∃ z, z = Po.cf l k := ⟨_, rfl⟩
      obtain ⟨p, hp⟩ : ∃ p, p = Gf.pow x (2 * k + 1) := ⟨_, rfl⟩
      rw [← hz] at he
      rw [← hp]
      have hl1 := hs.hdr.lt
      have hf0 := hs.eloose hlt
      have hl2 := hs.lt
      have hcA : ∀ m o, ((wr.drewN m).alloc o).cell? ⟨g, 0, none⟩ = some (.slice (some ⟨ga, 0, none⟩) K c) := fun m o => ((hs.draws m).past o).hcell
      have heA : ∀ m o, ((wr.drewN m).alloc o).cell? ⟨ga, k, none⟩ = some (.int .u32 (nb32 z)) := fun m o => (World.cell?_alloc_lt (wr.drewN m) o _ hl2).trans he
      have hfA : ∀ m o, ((wr.drewN m).alloc o).frozen? ⟨ga, k, none⟩ = false := fun m o => ((hs.draws m).past o).eloose hlt
      obtain ⟨W2, hW2⟩ : ∃ W2, W2 = ((wr.setCell ⟨ga, k, none⟩ (.int .u32 (nb32 (z ^^^ p)))).alloc (.cells #[.int .u32 (nb32 z), .int .u32 (nb32 p)] 54)).drew := ⟨_, rfl⟩
      have hR : SkA B W2 g ga K c (Sk.addP l x (k + 1)) ∧ Has W2 w.heap.size 99 (tab (Gf.square x)) ∧ w.grownBy W2 (some ga) := by
        rw [hW2]
        refine ⟨?_, ((ht.aside (p := ⟨ga, k, none⟩) (by show w.heap.size ≠ ga; omega) _).past _).draw, ?_⟩
        · have := ((hs.put hlt (z ^^^ p)).past (.cells #[.int .u32 (nb32 z), .int .u32 (nb32 p)] 54)).draw
          rw [hz, hp, Sk.addP_step l x (by omega)] at this
          rw [hz, hp]
          exact this
        · refine ⟨hgr.os, hgr.tape, hgr.output, Nat.le_trans hgr.size (by simp), fun j hj hne => ?_⟩
          have hj2 := Nat.lt_of_lt_of_le hj hgr.size
          exact ((Below.heap_alloc _ _ _ (by rw [World.size_setCell]; exact hj2)).trans (Below.heap_setCell _ _ _ _ (fun e => hne (by rw [e])))).trans (hgr.block j hj hne)
      have HP : RowKit.Hid (Gf.mul (Gf.square x) p = Gf.pow x (2 * (k + 1) + 1)) := Lib.hid (by
        rw [hp, show 2 * (k + 1) + 1 = (1 + 1) + (2 * k + 1) from by omega, Gf.pow_add (a := x) (1 + 1), Gf.pow_add x 1 1, show Gf.pow x 1 = x from Gf.pow_one x, Gf.square_eq])
      have HR := Lib.hid hR
      have HW := Lib.hid hW2
      clear hR hp hz hW2
      go_wp2_with fail
      go_region_law (first
          | (go_simp; go_at_call 32; refine (sum2 z p wr.drew).mono ?_; rintro e w1 ⟨rfl, rfl⟩))
      all_goals
        (rw [← HW.out]
         obtain ⟨r1, r2, r3⟩ := HR.out
         go_wp2_with (first
           | (go_at_call 55; refine (tmul_any (Gf.square x) p w.heap.size _ r2).mono ?_; rintro e w3 ⟨rfl, n3, rfl⟩))
         go_roundw
         case rel => exact ⟨k + 1, by omega, by go_num, by rw [HP.out], r1.draws _, r2.draws _, ⟨r3.os, r3.tape, r3.output, r3.size, r3.block⟩⟩
         case measure => (simp [intOf]; try omega))
    · obtain rfl : k = K := by omega
      have hii : ¬ (k : Int) < (k : Int) := by omega
      go_wp2
      go_end0
      exact ⟨⟨_, rfl⟩, hs, hgr⟩
end Go.Proofs.Ytamigcbodplmcaa
