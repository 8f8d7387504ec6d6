/- the library's sort of words: math/bits.Len, nextPowerOfTwo, xorshift, breakPatternsOrdered, reverseRangeOrdered -/
import Derived.Test.YtamigcbodplmcaaSoA
import Derived.Sort.LotD1
import Derived.Maps.Range
import Derived.Deep.Cut
namespace Go.Proofs.Ytamigcbodplmcaa
open Go Go.RowKit Go.ChangeShapes Go.WideShapes Go.Sort
set_option maxRecDepth 1000000 in
set_option maxHeartbeats 4000000 in
theorem len64_any (x : Nat) (hx : x < 256) (w : World) :
    Calls Try.prog 94 #[.int .u64 (x : Int)] w fun e w' => e = .returned (.int .i64 (bitsLen x : Nat)) ∧ w' = w := by
  have c1 : ¬ (x : Int) ≥ 4294967296 := by omega
  have c2 : ¬ (x : Int) ≥ 65536 := by omega
  have c3 : ¬ (x : Int) ≥ 256 := by omega
  go_enter Try.func94, Try.ntmps94
  go_wp2
  go_ret
  refine ⟨congrArg Ending.returned (congrArg (Value.int IntKind.i64) ?_), rfl⟩
  revert c1 c2 c3
  revert hx
  revert x
  decide +kernel
theorem len_any (x : Nat) (hx : x < 256) (w : World) :
    Calls Try.prog 80 #[.int .u64 (x : Int)] w fun e w' => e = .returned (.int .i64 (bitsLen x : Nat)) ∧ w' = w := by
  go_enter Try.func80, Try.ntmps80
  go_wp2_with (first | (go_at_call 94; refine (len64_any x hx _).mono ?_; rintro e w1 ⟨rfl, rfl⟩))
  go_ret
  exact ⟨rfl, rfl⟩
theorem npow_any (x : Nat) (hx : x < 256) (w : World) :
    Calls Try.prog 97 #[.int .i64 (x : Int)] w fun e w' => e = .returned (.int .u64 (nb64 (BitVec.ofNat 64 1 <<< bitsLen x))) ∧ w' = w := by
  have hw : IntKind.u64.wrap (x : Int) = (x : Int) := by rw [IntKind.wrap_u64]; omega
  go_enter Try.func97, Try.ntmps97
  go_wp2_with (first | (go_at_call 80; refine (len_any x hx _).mono ?_; rintro e w1 ⟨rfl, rfl⟩))
  go_ret
  exact ⟨rfl, rfl⟩
/-- a cell stays a cell behind a store -/
theorem cell_behind {w : World} {p q : Addr} {x y : Value} (h : w.cell? q = some y) : ∃ z, (w.setCell p x).cell? q = some z := by
  by_cases e : p = q
  · subst e; exact ⟨x, World.cell?_setCell_same w p x h⟩
  · exact ⟨y, (World.cell?_setCell_other w p q x e).trans h⟩
theorem grown_set (w : World) (H i : Nat) (v : Value) : w.grownBy (w.setCell ⟨H, i, none⟩ v) (some H) :=
  ⟨rfl, rfl, rfl, by simp, fun k _ hne => Below.heap_setCell w _ v k (fun e => hne (by rw [e]))⟩
theorem grown_draw {w w' : World} {r : Option Nat} (h : w.grownBy w' r) : w.grownBy w'.drew r := ⟨h.os, h.tape, h.output, h.size, h.block⟩
/-- one step of the generator -/
theorem xstep {H : Nat} {z y : BitVec 64} {w0 w : World} (hg : w0.grownBy w (some H)) (hh : Has w H 123 #[.int .u64 (nb64 z)]) :
    Has (w.setCell ⟨H, 0, none⟩ (.int .u64 (nb64 y))).drew H 123 #[.int .u64 (nb64 y)] ∧ w0.grownBy (w.setCell ⟨H, 0, none⟩ (.int .u64 (nb64 y))).drew (some H) :=
  ⟨(hh.put 0 _).draw, grown_draw (hg.trans (grown_set w H 0 _))⟩
set_option maxRecDepth 1000000 in
set_option maxHeartbeats 4000000 in
theorem xnext_any (H : Nat) (z : BitVec 64) (w : World) (hh : Has w H 123 #[.int .u64 (nb64 z)]) :
    Calls Try.prog 98 #[.pointer (some ⟨H, 0, none⟩)] w fun e w' => (∃ y : BitVec 64, e = .returned (.int .u64 (nb64 y)) ∧ Has w' H 123 #[.int .u64 (nb64 y)]) ∧ w.grownBy w' (some H) := by
  have hc := hh.cell_at (i := 0) (v := .int .u64 (nb64 z)) rfl
  have hf := hh.loose 0
  have H0 := Lib.hid (And.intro hh (World.grownBy.refl w (some H)))
  clear hh
  go_enter Try.func98, Try.ntmps98
  go_wp2_with fail
  go_region
  obtain ⟨h1, g1⟩ := xstep (y := z ^^^ z <<< 13) H0.out.2 H0.out.1
  clear hc hf
  generalize (w.setCell ⟨H, 0, none⟩ (.int .u64 (nb64 (z ^^^ z <<< 13)))).drew = w1 at h1 g1 ⊢
  have hc := h1.cell_at (i := 0) (v := .int .u64 (nb64 (z ^^^ z <<< 13))) rfl
  have hf := h1.loose 0
  have H1 := Lib.hid (And.intro h1 g1)
  clear h1 g1
  generalize z ^^^ z <<< 13 = z1 at H1 hc ⊢
  go_wp2_with fail
  go_region
  obtain ⟨h1, g1⟩ := xstep (y := z1 ^^^ z1 >>> 7) H1.out.2 H1.out.1
  clear hc hf
  generalize (w1.setCell ⟨H, 0, none⟩ (.int .u64 (nb64 (z1 ^^^ z1 >>> 7)))).drew = w2 at h1 g1 ⊢
  have hc := h1.cell_at (i := 0) (v := .int .u64 (nb64 (z1 ^^^ z1 >>> 7))) rfl
  have hf := h1.loose 0
  have H2 := Lib.hid (And.intro h1 g1)
  clear h1 g1
  generalize z1 ^^^ z1 >>> 7 = z2 at H2 hc ⊢
  go_wp2_with fail
  go_region
  obtain ⟨h1, g1⟩ := xstep (y := z2 ^^^ z2 <<< 17) H2.out.2 H2.out.1
  clear hc hf
  generalize (w2.setCell ⟨H, 0, none⟩ (.int .u64 (nb64 (z2 ^^^ z2 <<< 17)))).drew = w3 at h1 g1 ⊢
  have hc := h1.cell_at (i := 0) (v := .int .u64 (nb64 (z2 ^^^ z2 <<< 17))) rfl
  have hf := h1.loose 0
  generalize z2 ^^^ z2 <<< 17 = z3 at h1 hc ⊢
  go_wp2
  go_ret
  exact ⟨⟨z3, rfl, h1⟩, g1⟩
namespace So
/-- the row at g, off holds d; else only new blocks -/
structure At (w : World) (g off : Nat) (d : Array E) (w' : World) : Prop where
  grown : w.grownBy w' (some g)
  holds : Holds enc w' g off d
  blk : ∀ cs T fr, w.heap[g]? = some (.cells cs T fr) → ∃ cs', w'.heap[g]? = some (.cells cs' T fr) ∧ cs'.size = cs.size
theorem At.refl {w : World} {g off : Nat} {d : Array E} (h : Holds enc w g off d) : At w g off d w := ⟨World.grownBy.refl _ _, h, fun cs _ _ e => ⟨cs, e, rfl⟩⟩
theorem At.trans {w w' w'' : World} {g off : Nat} {d d' : Array E} (h : At w g off d w') (h' : At w' g off d' w'') : At w g off d' w'' :=
  ⟨h.grown.trans h'.grown, h'.holds, fun cs T fr e => by
    obtain ⟨c1, e1, s1⟩ := h.blk cs T fr e
    obtain ⟨c2, e2, s2⟩ := h'.blk c1 T fr e1
    exact ⟨c2, e2, by omega⟩⟩
theorem Is.at {w w' : World} {g off : Nat} {d0 d : Array E} (h : Is w g off d w') (h0 : Holds enc w g off d0) (hs : d.size = d0.size) : At w g off d w' := by
  have hh := h.holds h0 hs
  obtain ⟨n, rfl⟩ := h
  refine ⟨⟨rfl, rfl, rfl, by simp, fun k _ hne => ?_⟩, hh, fun cs T fr e => ?_⟩
  · show ((Sort.ahead w n).heap.modify g (onCells (putCells enc off d)))[k]? = _
    rw [Array.getElem?_modify, if_neg (fun e => hne (by rw [e]))]
    rfl
  · refine ⟨putCells enc off d cs, ?_, by simp [putCells]⟩
    show ((Sort.ahead w n).heap.modify g (onCells (putCells enc off d)))[g]? = _
    rw [Array.getElem?_modify, if_pos rfl]
    show Option.map _ w.heap[g]? = _
    rw [e]
    rfl
/-- behind a call that leaves the row alone -/
theorem At.aside {w w' w'' : World} {g off : Nat} {d : Array E} {r : Option Nat} (h : At w g off d w') (hg : g < w.heap.size) (hgr : w'.grownBy w'' r) (hr : ∀ k, r = some k → w.heap.size ≤ k) : At w g off d w'' := by
  have hgs : g < w'.heap.size := Nat.lt_of_lt_of_le hg h.grown.size
  have hne : some g ≠ r := fun e => by have := hr g e.symm; omega
  have hb := hgr.block g hgs hne
  exact ⟨h.grown.andThen hgr (fun j hj => .inl (hr j hj)), fun j hj => ⟨(World.cell?_of_block (a := ⟨g, off + j, none⟩) hb).trans (h.holds j hj).1, (World.frozen?_of_block (a := ⟨g, off + j, none⟩) hb).trans (h.holds j hj).2⟩, fun cs T fr e => by
    obtain ⟨c1, e1, s1⟩ := h.blk cs T fr e
    exact ⟨c1, hb.trans e1, s1⟩⟩
theorem At.swap {w w' : World} {g off : Nat} {d : Array E} (h : At w g off d w') {i j : Nat} (hi : i < d.size) (hj : j < d.size) (q : Nat) :
    At w g off (swp d i j) (((w'.drewN q).setCell ⟨g, off + i, none⟩ (enc d[j]!)).setCell ⟨g, off + j, none⟩ (enc d[i]!)) :=
  h.trans (((Is.refl h.holds).swap hi hj q).at h.holds (size_swp _ _ _))
end So
set_option maxRecDepth 1000000 in
set_option maxHeartbeats 4000000 in
theorem reverse_any (g off n c a b : Nat) (d : Array So.E) (w : World) (hn : d.size = n) (hH : Holds So.enc w g off d) (hab : a < b) (hb : b ≤ n) (hsz : n ≤ 1000000) :
    Calls Try.prog 88 #[.slice (some ⟨g, off, none⟩) n c, .int .i64 (a : Int), .int .i64 (b : Int)] w fun e w' =>
      e = .returned (.tuple #[]) ∧ So.Is w g off (reverseRange d a b) w' := by
  have HH := Lib.hid hH
  obtain ⟨J0, hJ0⟩ : ∃ J0, b - 1 = J0 := ⟨_, rfl⟩
  have hb1 : (b : Int) - 1 = (J0 : Int) := by omega
  have hbw : IntKind.i64.wrap (b - 1 : Int) = (J0 : Int) := by rw [IntWalk.i64_in _ (by omega)]; omega
  have hr : reverseRange d a b = reverseLoop a J0 d := by rw [reverseRange, hJ0]
  rw [hr]
  have hJn : J0 < n := by omega
  clear hH hr hJ0
  go_enter Try.func88, Try.ntmps88
  go_wp2
  go_loopw [6, 7] (fun vi vj wr => ∃ (i j : Nat) (dk : Array So.E), vi = .int .i64 (i : Int) ∧ vj = .int .i64 (j : Int) ∧ i ≤ n ∧ j < n ∧ dk.size = n ∧ RowKit.Hid (So.Is w g off dk wr) ∧ RowKit.Hid (reverseLoop i j dk = reverseLoop a J0 d)) (fun vi vj _ => (intOf vj).toNat + 1 - (intOf vi).toNat)
  case atStart => exact ⟨a, J0, d, rfl, rfl, by omega, hJn, hn, Lib.hid (So.Is.refl HH.out), Lib.hid rfl⟩
  case round =>
    obtain ⟨i, j, dk, rfl, rfl, hin, hjn, hsk, HW, HR⟩ := hrel
    obtain ⟨G, hG, hcw, hfw⟩ := HW.out.fam HH.out hn hsk
    have HG := Lib.hid hG
    clear hG
    by_cases hij : i < j
    · have hiji : (i : Int) < (j : Int) := by omega
      have hjw : IntKind.i64.wrap ((j : Int) - 1) = (j : Int) - 1 := IntWalk.i64_in _ (by omega)
      have hst : reverseLoop (i + 1) (j - 1) (swp dk i j) = reverseLoop a J0 d := by
        rw [← HR.out, reverseLoop.eq_def i j dk, if_pos hij]
      have HS := Lib.hid hst
      clear hst
      go_wp2_with fail
      go_region
      have hsw := HW.out.swap (i := i) (j := j) (by omega) (by omega) 1
      rw [← HG.out, ← HG.out] at hsw
      have HW2 := Lib.hid hsw
      clear hsw hcw hfw
      go_wp2_with fail
      go_roundw
      case rel => exact ⟨i + 1, j - 1, swp dk i j, by go_num, by go_num, by omega, by omega, by rw [size_swp]; exact hsk, HW2, HS⟩
      case measure => (simp [intOf]; try omega)
    · have hiji : ¬ (i : Int) < (j : Int) := by omega
      go_wp2_with fail
      go_end0
      exact ⟨rfl, by rw [← HR.out, reverseLoop.eq_def, if_neg hij]; exact HW.out⟩
theorem and_lt {z m k : Nat} (hm : m = 2 ^ k - 1) : z &&& m < 2 ^ k := by
  rw [hm, Nat.and_two_pow_sub_one_eq_mod]
  exact Nat.mod_lt _ (Nat.two_pow_pos k)
/-- the number that is drawn -/
theorem other_ok {l k : Nat} (hk : bitsLen l = k) (h0 : 0 < l) (hl : l < 256) : ∃ N : BitVec 64, IntKind.u64.wrap (nb64 (BitVec.ofNat 64 1 <<< k) - 1) = nb64 N ∧ ∀ z : BitVec 64, ∃ o : Nat, IntKind.i64.wrap (nb64 (z &&& N)) = (o : Int) ∧ o < 2 * l := by
  have h1 := two_pow_bitsLen_le h0
  have h2 : k ≤ 8 := by rw [← hk]; exact (bitsLen_le_iff l 8).2 hl
  rw [hk] at h1
  have hM : (BitVec.ofNat 64 1 <<< k).toNat = 2 ^ k := by
    have h3 : k < 9 := by omega
    have : ∀ k, k < 9 → (BitVec.ofNat 64 1 <<< k).toNat = 2 ^ k := by decide +kernel
    exact this k h3
  have hp := Nat.two_pow_pos k
  have h256 : 2 ^ k ≤ 2 ^ 8 := Nat.pow_le_pow_right (by omega) h2
  refine ⟨BitVec.ofNat 64 (2 ^ k - 1), ?_, fun z => ⟨z.toNat &&& (2 ^ k - 1), ?_, ?_⟩⟩
  · have h4 : nb64 (BitVec.ofNat 64 1 <<< k) - 1 = ((2 ^ k - 1 : Nat) : Int) := by
      show ((BitVec.ofNat 64 1 <<< k).toNat : Int) - 1 = _
      rw [hM]; omega
    rw [h4, u64_lit (2 ^ k - 1) (by omega)]
    exact wrap_u64v _
  · have h5 : (z &&& BitVec.ofNat 64 (2 ^ k - 1)).toNat = z.toNat &&& (2 ^ k - 1) := by
      rw [BitVec.toNat_and, BitVec.toNat_ofNat, Nat.mod_eq_of_lt (by omega)]
    have h6 : z.toNat &&& (2 ^ k - 1) < 2 ^ k := and_lt rfl
    show IntKind.i64.wrap ((z &&& BitVec.ofNat 64 (2 ^ k - 1)).toNat : Int) = _
    rw [h5]
    exact IntWalk.i64_in _ (by omega)
  · have h6 : z.toNat &&& (2 ^ k - 1) < 2 ^ k := and_lt rfl
    omega
set_option maxRecDepth 1000000 in
set_option maxHeartbeats 4000000 in
theorem break_any (g off n c a b : Nat) (d : Array So.E) (w : World) (hn : d.size = n) (hg : g < w.heap.size) (hH : Holds So.enc w g off d) (hab : a + 12 < b) (hb : b ≤ n) (hsz : n < 256) :
    Calls Try.prog 86 #[.slice (some ⟨g, off, none⟩) n c, .int .i64 (a : Int), .int .i64 (b : Int)] w fun e w' =>
      e = .returned (.tuple #[]) ∧ ∃ d', PermIn a b d d' ∧ So.At w g off d' w' := by
  obtain ⟨l, hl⟩ : ∃ l, b - a = l := ⟨_, rfl⟩
  have hsub : (b : Int) - (a : Int) = (l : Int) := by omega
  have hsw : IntKind.i64.wrap (l : Int) = (l : Int) := IntWalk.i64_in _ (by omega)
  have hlu : IntKind.u64.wrap (l : Int) = nb64 (BitVec.ofNat 64 l) := by rw [← u64_lit l (by omega), IntKind.wrap_u64]; omega
  obtain ⟨q, hq⟩ : ∃ q, l / 4 = q := ⟨_, rfl⟩
  have hquo : (l : Int).tdiv 4 = (q : Int) := by rw [show (l : Int).tdiv 4 = ((l / 4 : Nat) : Int) from rfl, hq]
  have hquo2 : (l : Int) / 4 = (q : Int) := by omega
  have hqw : IntKind.i64.wrap (q : Int) = (q : Int) := IntWalk.i64_in _ (by omega)
  have hl8 : (l : Int) ≥ 8 := by omega
  have hl256 : l < 256 := by omega
  have hq3 : 3 ≤ q := by omega
  have hq4 : a + q * 4 ≤ b := by omega
  obtain ⟨k, hk⟩ : ∃ k, bitsLen l = k := ⟨_, rfl⟩
  obtain ⟨N, hN, ho⟩ := other_ok hk (by omega) hl256
  have hxs := Has.fresh w 123 #[.int .u64 (nb64 (BitVec.ofNat 64 l))]
  have hA0 : So.At w g off d (w.alloc (.cells #[.int .u64 (nb64 (BitVec.ofNat 64 l))] 123)) := (So.At.refl hH).aside hg (World.grownBy_alloc w _ none) (fun k e => by cases e)
  have HA0 := Lib.hid (And.intro hxs hA0)
  have HO := Lib.hid ho
  have HK := Lib.hid hk
  have HL := Lib.hid (And.intro hl hq)
  clear hxs hA0 ho hk hl hq hH
  go_enter Try.func86, Try.ntmps86
  go_wp2_with (first
    | (go_at_call 97; refine (npow_any l hl256 _).mono ?_; rw [HK.out]; rintro e w1 ⟨rfl, rfl⟩))
  obtain ⟨s0, hs0⟩ : ∃ s0, a + q * 2 - 1 = s0 := ⟨_, rfl⟩
  have hs0i : (a : Int) + (q : Int) * 2 - 1 = (s0 : Int) := by omega
  have HS0 := Lib.hid hs0i
  clear hs0i
  go_loopw [9] (fun vi wr => ∃ (i : Nat) (z : BitVec 64) (dk : Array So.E), vi = .int .i64 (i : Int) ∧ s0 ≤ i ∧ i ≤ s0 + 3 ∧ dk.size = n ∧ RowKit.Hid (Has wr w.heap.size 123 #[.int .u64 (nb64 z)] ∧ So.At w g off dk wr) ∧ RowKit.Hid (PermIn a b d dk)) (fun vi _ => s0 + 3 - (intOf vi).toNat)
  case atStart => exact ⟨s0, _, d, by rw [HS0.out], Nat.le_refl _, by omega, hn, HA0, Lib.hid (permIn_refl _ _ _)⟩
  case round =>
    obtain ⟨i, z, dk, rfl, hi1, hi2, hsk, HW, HR⟩ := hrel
    have hqm : IntKind.i64.wrap ((q : Int) * 2) = (q : Int) * 2 := IntWalk.i64_in _ (by omega)
    have hqa : IntKind.i64.wrap ((a : Int) + (q : Int) * 2) = (a : Int) + (q : Int) * 2 := IntWalk.i64_in _ (by omega)
    have hqa1 : IntKind.i64.wrap ((a : Int) + (q : Int) * 2 + 1) = (a : Int) + (q : Int) * 2 + 1 := IntWalk.i64_in _ (by omega)
    by_cases hle : i ≤ a + q * 2 + 1
    · have hlei : (i : Int) ≤ (a : Int) + (q : Int) * 2 + 1 := by omega
      go_upto_region 8 with (first
        | (go_at_call 98; refine (xnext_any w.heap.size z wr HW.out.1).mono ?_; rintro e w2 ⟨⟨y, rfl, hy⟩, hgr⟩; have HW2 := Lib.hid (And.intro hy (HW.out.2.aside hg hgr (fun k e => by injection e with e; omega))); clear hy hgr; obtain ⟨o, hoe, hol⟩ := HO.out y))
      obtain ⟨G, hG, hcw, hfw⟩ := (So.Is.refl HW2.out.2.holds).fam HW2.out.2.holds hsk hsk
      have HG := Lib.hid hG
      have HLL := HL.out
      clear hG
      by_cases hge : o ≥ l
      · have hgei : (o : Int) ≥ (l : Int) := by omega
        obtain ⟨t, ht⟩ : ∃ t, o - l = t := ⟨_, rfl⟩
        have htl : t < l := by omega
        have hol2 : (o : Int) - (l : Int) = (t : Int) := by omega
        have htw : IntKind.i64.wrap (t : Int) = (t : Int) := IntWalk.i64_in _ (by omega)
        have hat : a + t < n := by omega
        obtain ⟨zz, hz⟩ := cell_behind (w := w2) (p := ⟨g, off + i, none⟩) (x := .int .u32 (nb32 (G (a + t)))) (hcw (a + t) (by omega))
        clear ht
        go_wp2_with fail
        go_region
        have hsw := HW2.out.2.swap (i := i) (j := a + t) (by omega) (by omega) 1
        rw [← HG.out, ← HG.out] at hsw
        have hxx : Has (((w2.drewN 1).setCell ⟨g, off + i, none⟩ (.int .u32 (nb32 (G (a + t))))).setCell ⟨g, off + (a + t), none⟩ (.int .u32 (nb32 (G i)))) w.heap.size 123 #[.int .u64 (nb64 y)] := ((HW2.out.1.draws 1).aside (by show w.heap.size ≠ g; omega) _).aside (by show w.heap.size ≠ g; omega) _
        have hpm : PermIn a b d (swp dk i (a + t)) := permIn_trans _ _ _ a b HR.out (swp_permIn _ a b i (a + t) (by omega) (by omega) (by omega) (by omega) (by omega))
        have HW3 := Lib.hid (And.intro hxx (And.intro hsw hpm))
        clear hsw hxx hpm hcw hfw hz
        go_wp2_with fail
        go_roundw
        case rel => exact ⟨i + 1, y, swp dk i (a + t), by go_num, by omega, by omega, by rw [size_swp]; exact hsk, Lib.hid ⟨HW3.out.1, HW3.out.2.1⟩, Lib.hid HW3.out.2.2⟩
        case measure => (simp [intOf]; try omega)
      · have hgei : ¬ (o : Int) ≥ (l : Int) := by omega
        have hat : a + o < n := by omega
        obtain ⟨zz, hz⟩ := cell_behind (w := w2) (p := ⟨g, off + i, none⟩) (x := .int .u32 (nb32 (G (a + o)))) (hcw (a + o) (by omega))
        go_wp2_with fail
        go_region
        have hsw := HW2.out.2.swap (i := i) (j := a + o) (by omega) (by omega) 1
        rw [← HG.out, ← HG.out] at hsw
        have hxx : Has (((w2.drewN 1).setCell ⟨g, off + i, none⟩ (.int .u32 (nb32 (G (a + o))))).setCell ⟨g, off + (a + o), none⟩ (.int .u32 (nb32 (G i)))) w.heap.size 123 #[.int .u64 (nb64 y)] := ((HW2.out.1.draws 1).aside (by show w.heap.size ≠ g; omega) _).aside (by show w.heap.size ≠ g; omega) _
        have hpm : PermIn a b d (swp dk i (a + o)) := permIn_trans _ _ _ a b HR.out (swp_permIn _ a b i (a + o) (by omega) (by omega) (by omega) (by omega) (by omega))
        have HW3 := Lib.hid (And.intro hxx (And.intro hsw hpm))
        clear hsw hxx hpm hcw hfw hz
        go_wp2_with fail
        go_roundw
        case rel => exact ⟨i + 1, y, swp dk i (a + o), by go_num, by omega, by omega, by rw [size_swp]; exact hsk, Lib.hid ⟨HW3.out.1, HW3.out.2.1⟩, Lib.hid HW3.out.2.2⟩
        case measure => (simp [intOf]; try omega)
    · have hlei : ¬ (i : Int) ≤ (a : Int) + (q : Int) * 2 + 1 := by omega
      go_wp2_with fail
      go_end0
      exact ⟨rfl, dk, HR.out, HW.out.2⟩
end Go.Proofs.Ytamigcbodplmcaa
