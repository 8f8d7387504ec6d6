/- massey: Goes, and the reference's -/
import Derived.Test.YtmjboiaopihjeaaMsC
import Derived.Test.YtmjboiaopihjeaaAp
namespace Go.Proofs.Ytmjboiaopihjeaa
open Go Go.RowKit Go.ChangeShapes Go.WideShapes
/-- how the sequence goes on: what is known when i elements are laid -/
structure Ms.Gs (c b : List (BitVec 32)) (f : Nat → BitVec 32) (i : Nat) : Prop where
  beg : ∀ j, j < b.length → j < i → f j = Po.cf b j
  zero : ∀ j, b.length ≤ j → j < i → Po.mulL c f j = 0
  rest : ∀ j, i ≤ j → f j = 0
theorem Ms.Gs.start (c b : List (BitVec 32)) (k : Nat) (hk : k ≤ b.length) : Ms.Gs c b (Po.cf (b.take k)) k :=
  ⟨fun j _ h2 => by rw [Po.cf_take, if_pos h2], fun j h1 h2 => by omega, fun j h => Po.cf_ge (by rw [List.length_take]; omega)⟩
theorem Ms.Gs.step {c b : List (BitVec 32)} {f g : Nat → BitVec 32} {i : Nat} (h : Ms.Gs c b f i) (hc : Po.cf c 0 = 1) (hi : b.length ≤ i) (hg : ∀ j, g j = if j = i then Po.mulL c f i else f j) : Ms.Gs c b g (i + 1) := by
  refine ⟨fun j h1 h2 => ?_, fun j h1 h2 => ?_, fun j h1 => ?_⟩
  · rw [hg, if_neg (by omega)]; exact h.beg j h1 (by omega)
  · by_cases e : j = i
    · obtain ⟨t, ht⟩ : ∃ t, t = Po.mulL c f i := ⟨_, rfl⟩
      rw [← ht] at hg
      obtain ⟨D, hD⟩ : ∃ D : Nat → BitVec 32, ∀ q, D q = if q = i then t else 0 := ⟨_, fun _ => rfl⟩
      have e2 : Po.addF f D = g := by
        funext q
        show f q ^^^ D q = _
        rw [hg, hD]
        by_cases e3 : q = i
        · rw [if_pos e3, if_pos e3, e3, h.rest i (Nat.le_refl _)]; exact Po.zx _
        · rw [if_neg e3, if_neg e3]; exact Po.xz _
      have e4 : Po.mulL c D i = t := by
        rw [Ms.at_head c D i (fun q h3 h4 => Or.inr (by rw [hD, if_neg (by omega)])), hc, hD, if_pos rfl]
        exact Gf.one_mul _
      rw [← e2, Po.mulL_add, e]
      show Po.mulL c f i ^^^ Po.mulL c D i = 0
      rw [e4, ← ht]
      exact BitVec.xor_self
    · have : Po.mulL c g j = Po.mulL c f j := Ms.at_congr c j fun q hq => by rw [hg, if_neg (by omega)]
      rw [this]
      exact h.zero j h1 (by omega)
  · rw [hg, if_neg (by omega)]; exact h.rest j (by omega)
theorem Ms.Gs.goes {c b : List (BitVec 32)} {f : Nat → BitVec 32} {i n : Nat} (h : Ms.Gs c b f i) (hc : Po.cf c 0 = 1) (hl : c.length = b.length + 1) (hi : n ≤ i) : Ms.Goes c b n (Po.mk n f) :=
  ⟨Po.mk_length _ _, fun j h1 h2 => by rw [Po.cf_mk, if_pos h2]; exact h.beg j h1 (by omega),
    ⟨hc, fun j hj => Po.cf_ge (by omega), fun j h1 h2 => by
      rw [show Po.mulL c (Po.cf (Po.mk n f)) j = Po.mulL c f j from Ms.at_congr c j fun q hq => by rw [Po.cf_mk, if_pos (by omega)]]
      exact h.zero j h1 (by omega)⟩⟩
/-- the arguments are in order -/
def Ms.gOk (c b : List (BitVec 32)) (n : Int) : Prop := Ms.isR c = true ∧ b.length + 1 = c.length ∧ 0 ≤ n ∧ n ≤ 1000
set_option maxHeartbeats 1000000 in
theorem goes_any (a b : Option Addr) (n c m d k : Nat) (lc lb : List (BitVec 32)) (w : World) (hc : Words32 w a n lc) (h : Words32 w b m lb) (hR : Ms.isR lc = true) (hnm : n = m + 1) (hk : k ≤ 1000) :
    Calls Try.prog 15 #[.slice a n c, .slice b m d, .int .i64 (k : Int)] w fun e w' =>
      (∃ v l, e = .returned (.tuple #[v, .nilIface]) ∧ Fresh 29 w.heap.size w' v l ∧ Ms.Goes lc lb k l) ∧ Below w.heap.size w w' := by
  have hlc := hc.1
  have hlb := h.1
  have hmk := make_words k (by omega)
  obtain ⟨h0, h1⟩ := Ms.isR_true.1 hR
  have hne : ((m : Int) != (n : Int) - 1) = false := by simp; omega
  have hwn : IntKind.i64.wrap ((n : Int) - 1) = (n : Int) - 1 := IntWalk.i64_in _ (by have := hc.2.1; unfold maxLen at this; omega)
  have hk0 : ¬ (k : Int) < 0 := by omega
  have hk1 : ¬ (1000 : Int) < (k : Int) := by omega
  obtain ⟨q, hq⟩ : ∃ q, q = min m k := ⟨_, rfl⟩
  have hqk : q ≤ k := by omega
  have hqm : q ≤ m := by omega
  have hcp := copy_some (w.alloc (.cells (wcells k fun _ => 0#32) 29)) w.heap.size m d k q b lb _ (Has.fresh _ _ _) (h.past _) hq
  have hh0 := (Has.fresh w 29 (wcells k fun _ => 0#32)).putAll (wlist (lb.take q)) 0
  rw [putAll_some lb k q (by omega)] at hh0
  have hb0 := below_setAll (B := w.heap.size) (g := w.heap.size) (Nat.le_refl _) (wlist (lb.take q)) 0 ((Below.refl w.heap.size w).alloc (Nat.le_refl _) (.cells (wcells k fun _ => 0#32) 29))
  have hgs := Ms.Gs.start lc lb q (by omega)
  have HH := Lib.hid (And.intro h1 (And.intro hnm (And.intro hq hgs)))
  clear h0 h1 hnm hq hgs
  go_enter Try.func15, Try.ntmps15
  go_wp2_with (first
      | (go_at_call 24; refine (isrec_any _ _ _ lc _ hc).mono ?_; rintro e w1 ⟨rfl, rfl⟩; rw [hR]))
  generalize (w.alloc (.cells (wcells k fun _ => 0#32) 29)).setCells w.heap.size 0 (wlist (lb.take q)) = w0 at hh0 hb0 ⊢
  clear hcp
  go_loopw [9] (fun i wr => ∃ (j : Nat) (f : Nat → BitVec 32), q ≤ j ∧ j ≤ k ∧ i = .int .i64 j ∧ Has wr w.heap.size 29 (wcells k f) ∧ RowKit.Hid (Ms.Gs lc lb f j) ∧ Below w.heap.size w wr) (fun i _ => k - (intOf i).toNat)
  case atStart => exact ⟨q, _, Nat.le_refl _, hqk, rfl, hh0, Lib.hid HH.out.2.2.2, hb0⟩
  case round =>
    obtain ⟨j, f, hj1, hj2, rfl, hh, HG, hb⟩ := hrel
    clear hh0 hb0
    have hgl := hh.lt
    by_cases hlt : j < k
    · have hnj : n ≤ j + 1 := by have := HH.out.2; omega
      have hj3 : (j : Int) + 1 ≤ (k : Int) := by omega
      have hj4 : (0 : Int) ≤ (j : Int) + 1 := by omega
      have hj5 : (j : Int) < (k : Int) := by omega
      have hwj : IntKind.i64.wrap ((j : Int) + 1) = (j : Int) + 1 := IntWalk.i64_in _ (by omega)
      have hws := words_of_has (n := j + 1) hh (by omega) (by omega)
      have hmu : Po.mulL lc (Po.cf (Po.mk (j + 1) f)) j = Po.mulL lc f j := Ms.at_congr lc j fun i hi => by rw [Po.cf_mk, if_pos (by omega)]
      obtain ⟨s, hs⟩ : ∃ s, s = Po.mulL lc f j := ⟨_, rfl⟩
      rw [← hs] at hmu
      obtain ⟨g, hg⟩ : ∃ g : Nat → BitVec 32, ∀ i, g i = if i = j then Po.mulL lc f j else f i := ⟨_, fun _ => rfl⟩
      have hput : (wcells k f).setIfInBounds j (.int .u32 (nb32 s)) = wcells k g :=
        wcells_put _ _ _ _ (by rw [hg, if_pos rfl, hs]) (fun i _ hne => by rw [hg, if_neg hne])
      have HP := Lib.hid (And.intro hg hput)
      have hj1m : j + 1 ≤ 1099511627776 := by omega
      have hcl : ∀ w1, Below wr.heap.size wr w1 → w1.cell? ⟨w.heap.size, j, none⟩ = some (.int .u32 (nb32 (f j))) := fun w1 hb1 => (hh.under hb1 hgl).cell_at (wcells_at _ hlt)
      have hlo : ∀ w1, Below wr.heap.size wr w1 → w1.frozen? ⟨w.heap.size, j, none⟩ = false := fun w1 hb1 => (hh.under hb1 hgl).loose _
      clear hs hput hg
      go_wp2_with (first
        | (go_at_call 18; refine (lastsum_any _ _ _ _ (j + 1) k j lc _ _ (hc.below hb) hws rfl hnj hj1m).mono ?_; rw [hmu]; rintro e w1 ⟨rfl, hb1⟩; have hcc := hcl _ hb1; have hll := hlo _ hb1))
      have hh2 := (hh.under hb1 hgl).put j (.int .u32 (nb32 s))
      rw [HP.out.2] at hh2
      go_roundw
      case rel => exact ⟨j + 1, _, by omega, by omega, by go_num, hh2, Lib.hid (HG.out.step HH.out.1 (by have := HH.out.2; omega) HP.out.1), (hb.trans (hb1.mono hb.size)).setCell (p := ⟨w.heap.size, j, none⟩) (Nat.le_refl _) _⟩
      case measure => simp [intOf]; omega
    · have hjk : j = k := by omega
      have hgo : Ms.Goes lc lb k (Po.mk k f) := HG.out.goes HH.out.1 (by have := HH.out.2; omega) (by omega)
      have HGo := Lib.hid hgo
      clear hjk hgo
      go_wp2
      go_ret2
      exact ⟨⟨_, _, rfl, Fresh.of_has (Nat.le_refl _) hh (Po.mk_length _ _) (Nat.le_refl _) (by unfold maxLen; omega) (fun i hi => by
        have := Po.cf_mk k f i
        rw [if_pos hi] at this
        exact this.symm), HGo.out⟩, hb⟩
theorem goes_err (a b : Option Addr) (n c m d : Nat) (k : Int) (lc : List (BitVec 32)) (w : World) (hc : Words32 w a n lc) (hbad : Ms.isR lc = false ∨ m + 1 ≠ n ∨ k < 0 ∨ 1000 < k) :
    Calls Try.prog 15 #[.slice a n c, .slice b m d, .int .i64 k] w fun e w' => e = .returned (.tuple #[.slice none 0 0, errRange]) ∧ Below w.heap.size w w' := by
  have hlc := hc.1
  have hwn : IntKind.i64.wrap ((n : Int) - 1) = (n : Int) - 1 := IntWalk.i64_in _ (by have := hc.2.1; unfold maxLen at this; omega)
  cases hR : Ms.isR lc
  case false =>
    clear hbad
    go_enter Try.func15, Try.ntmps15
    go_wp2_with (first
      | (go_at_call 24; refine (isrec_any _ _ _ lc _ hc).mono ?_; rintro e w1 ⟨rfl, rfl⟩; rw [hR]))
    go_ret2
    exact ⟨rfl, Below.refl _ _⟩
  case true =>
    by_cases hm : m + 1 = n
    · have hne : ((m : Int) != (n : Int) - 1) = false := by simp; omega
      by_cases hk0 : k < 0
      · clear hbad hm
        go_enter Try.func15, Try.ntmps15
        go_wp2_with (first
          | (go_at_call 24; refine (isrec_any _ _ _ lc _ hc).mono ?_; rintro e w1 ⟨rfl, rfl⟩; rw [hR]))
        go_ret2
        exact ⟨rfl, Below.refl _ _⟩
      · have hk1 : 1000 < k := by
          rcases hbad with h | h | h | h
          · rw [hR] at h; cases h
          · exact (h hm).elim
          · exact (hk0 h).elim
          · exact h
        clear hbad hm
        go_enter Try.func15, Try.ntmps15
        go_wp2_with (first
          | (go_at_call 24; refine (isrec_any _ _ _ lc _ hc).mono ?_; rintro e w1 ⟨rfl, rfl⟩; rw [hR]))
        go_ret2
        exact ⟨rfl, Below.refl _ _⟩
    · have hne : ((m : Int) != (n : Int) - 1) = true := by simp; omega
      clear hbad hm
      go_enter Try.func15, Try.ntmps15
      go_wp2_with (first
        | (go_at_call 24; refine (isrec_any _ _ _ lc _ hc).mono ?_; rintro e w1 ⟨rfl, rfl⟩; rw [hR]))
      go_ret2
      exact ⟨rfl, Below.refl _ _⟩
theorem Ms.take_stepf {lc : List (BitVec 32)} {j q : Nat} (f : Nat → BitVec 32) (hj : j < lc.length) (hq : j ≤ q) : Po.mulL (lc.take (j + 1)) f q = Po.mulL (lc.take j) f q ^^^ Gf.mul (Po.cf lc j) (f (q - j)) := by
  rw [Po.mulL_take hj]
  show _ ^^^ (if j ≤ q then Gf.mul (Po.cf lc j) (f (q - j)) else 0) = _
  rw [if_pos hq]
theorem Fresh.take {T : TypeId} {B n c k : Nat} {a : Option Addr} {w : World} {l : List (BitVec 32)} (h : Fresh T B w (.slice a n c) l) (hk : k ≤ n) : Fresh T B w (.slice a k c) (l.take k) := by
  obtain ⟨a', c', e, h1, h2, h3⟩ := h
  injection e with e1 e2 e3
  subst e1 e2 e3
  have hl : (l.take k).length = k := by rw [List.length_take]; omega
  refine ⟨a, c, by rw [hl], ⟨by omega, h1.2⟩, by omega, fun h0 => ?_⟩
  obtain ⟨g, cs, e, hg, hh, hc⟩ := h3 (by omega)
  refine ⟨g, cs, e, hg, hh, fun i hi => ?_⟩
  rw [hc i (by omega)]
  have := Po.cf_take l k i
  rw [if_pos (by omega)] at this
  rw [show (l.take k).getD i 0 = l.getD i 0 from this]
theorem Po.mk_take (n k : Nat) (f : Nat → BitVec 32) (hk : k ≤ n) : (Po.mk n f).take k = Po.mk k f :=
  Po.list_ext (by rw [List.length_take, Po.mk_length, Po.mk_length]; omega) fun i hi => by
    rw [List.length_take, Po.mk_length] at hi
    rw [Po.cf_take, if_pos (by omega), Po.cf_mk, Po.cf_mk, if_pos (by omega), if_pos (by omega)]
set_option maxHeartbeats 1000000 in
theorem rgoes_any (a b : Option Addr) (n c m d k : Nat) (lc lb : List (BitVec 32)) (w : World) (hc : Words32 w a n lc) (h : Words32 w b m lb) (hd0 : b = none → d = 0) (hR : Ms.isR lc = true) (hnm : n = m + 1) (hk : k ≤ 1000) (hm : m ≤ 1000) :
    Calls Try.prog 17 #[.slice a n c, .slice b m d, .int .i64 (k : Int)] w fun e w' =>
      (∃ v l, e = .returned v ∧ Fresh 29 w.heap.size w' v l ∧ Ms.Goes lc lb k l) ∧ Below w.heap.size w w' := by
  have hlc := hc.1
  have hlb := h.1
  have hfresh := Has.fresh w 29 #[]
  have hsb : ([] : List (BitVec 32)).length + m ≤ 1099511627776 := by simp; omega
  obtain ⟨h0, h1⟩ := Ms.isR_true.1 hR
  have hgs := Ms.Gs.start lc lb m (by omega)
  rw [List.take_of_length_le (by omega)] at hgs
  have hmc : Po.mk m (Po.cf lb) = lb := by rw [← hlb]; exact Po.mk_cf lb
  have HH := Lib.hid (And.intro h1 (And.intro hnm hgs))
  clear h0 h1 hnm hgs
  go_enter Try.func17, Try.ntmps17
  go_wp2_with (first
    | (at_builtin; refine wpList_append_words rfl (.tmp 10) (.tmp 11) 22 rfl 29 Try.underlying22 info_word w.heap.size _ [] rfl (OwnW.empty (Nat.le_refl _) hfresh) b m d lb rfl (h.past _) hd0 hsb (by simp) ?_; intro v' w2 h1 h2))
  have hb2 := below_own_row ((Below.refl _ w).alloc (Nat.le_refl _) _) h2 (OwnW.empty (Nat.le_refl _) hfresh).lt
  rw [List.nil_append, ← hmc] at h1
  clear h2 hfresh
  go_loopw [7] (fun o wr => ∃ (j : Nat) (f : Nat → BitVec 32), m ≤ j ∧ (j ≤ k ∨ j = m) ∧ OwnW 29 w.heap.size wr o (Po.mk j f) ∧ RowKit.Hid (Ms.Gs lc lb f j) ∧ Below w.heap.size w wr) (fun o _ => k - (match o with | .slice _ n _ => n | _ => 0))
  case atStart => exact ⟨m, _, Nat.le_refl _, Or.inr rfl, h1, Lib.hid HH.out.2.2, hb2⟩
  case round =>
    obtain ⟨j, f, hj1, hj2, hown, HG, hb⟩ := hrel
    clear h1 hb2
    obtain ⟨oa, oc, rfl, hoc, how⟩ := own_shape hown (Po.mk_length j f)
    by_cases hlt : j < k
    · go_wp2
      rename World => wA
      go_loopw [8, 9] (fun x i wr => ∃ t : Nat, 1 ≤ t ∧ t ≤ n ∧ i = .int .i64 t ∧ x = .int .u32 (nb32 (Po.mulL (lc.take t) f j)) ∧ Drawn wA wr) (fun _ i _ => n - (intOf i).toNat)
      case atStart =>
        have hz : Po.mulL (lc.take 1) f j = 0 := by
          rw [Ms.take_stepf f (j := 0) (by have := HH.out.2.1; omega) (Nat.zero_le _), List.take_zero, HG.out.rest _ (by omega)]
          show (0 : BitVec 32) ^^^ Gf.mul _ 0 = 0
          rw [show ∀ y, Gf.mul y 0 = 0 from Gf.mul_zero]
          rfl
        exact ⟨1, Nat.le_refl _, by have := HH.out.2.1; omega, rfl, by rw [hz]; rfl, Drawn.refl _⟩
      case round =>
        obtain ⟨t, ht1, ht2, rfl, rfl, hd⟩ := hrel
        by_cases hltt : t < n
        · obtain ⟨p, hp⟩ : ∃ p, p = j - t := ⟨_, rfl⟩
          have htj : t ≤ j := by have := HH.out.2.1; omega
          have hpj : p < j := by omega
          obtain ⟨ad, rfl, hx⟩ := (hc.below (hb.trans (hd.below _))).2.2 t hltt
          obtain ⟨bd, rfl, hz⟩ := (how.below (hd.below _)).2.2 p hpj
          have hst := Ms.take_stepf f (lc := lc) (j := t) (q := j) (by omega) htj
          rw [← hp] at hst
          have hfp : (Po.mk j f).getD p 0 = f p := by
            have := Po.cf_mk j f p
            rw [if_pos hpj] at this
            exact this
          rw [hfp] at hz
          obtain ⟨y, hy⟩ : ∃ y, y = lc.getD t 0 := ⟨_, rfl⟩
          obtain ⟨z, hzz⟩ : ∃ z, z = f p := ⟨_, rfl⟩
          rw [← hy] at hx
          rw [← hzz] at hz
          rw [show Po.cf lc t = y from hy.symm, ← hzz] at hst
          have hwr : IntKind.i64.wrap ((j : Int) - (t : Int)) = (p : Int) := by rw [IntWalk.i64_in _ (by omega)]; omega
          have hp0 : (0 : Int) ≤ (p : Int) := by omega
          have hpm' : (p : Int) < (j : Int) := by omega
          have htn' : (t : Int) < (n : Int) := by omega
          have HS := Lib.hid hst
          clear hst hp hy hzz hfp
          go_wp2
          refine wp_region_still_lit rfl (by kernel_rfl) ?_
          repeat still_step
          still_call ((rmul_any _ _ _).mono fun e w' h => ⟨h.1, h.2.symm⟩)
          repeat still_step
          refine wpStill_nil ?_
          go_wp2
          go_roundw
          case rel => exact ⟨t + 1, by omega, by omega, by go_num, by rw [HS.out], hd.drew⟩
          case measure => simp [intOf]; omega
        · have htn : lc.take t = lc := List.take_of_length_le (by omega)
          rw [htn]
          obtain ⟨nd, rfl⟩ := hd
          obtain ⟨s, hs⟩ : ∃ s, s = Po.mulL lc f j := ⟨_, rfl⟩
          rw [← hs]
          obtain ⟨g, hg⟩ : ∃ g : Nat → BitVec 32, ∀ i, g i = if i = j then Po.mulL lc f j else f i := ⟨_, fun _ => rfl⟩
          have hown2 : OwnW 29 w.heap.size (wA.drewN nd) (.slice oa j oc) (Po.mk j g) := by
            have e : Po.mk j g = Po.mk j f := Po.mk_congr fun i hi => by rw [hg, if_neg (by omega)]
            rw [e]
            exact hown
          have hsg : s = g j := by rw [hg, if_pos rfl, hs]
          have HS := Lib.hid hsg
          have HG2 := Lib.hid (HG.out.step HH.out.1 (by omega) hg)
          have hle : (Po.mk j g).length + 1 ≤ 1099511627776 := by rw [Po.mk_length]; omega
          have hbd := below_draws hb nd
          clear hs hg hsg htn
          go_wp2_with (first
            | (at_builtin; refine wpList_append_word rfl (.tmp 37) (.tmp 39) 22 rfl 29 Try.underlying22 info_word w.heap.size _ (Po.mk j g) rfl hown2 s rfl hle hb.size ?_; intro v' w2 h2 h3; have h4 := own_snoc h2 HS.out; obtain ⟨va, vc, rfl, hvc, hvw⟩ := own_shape h4 (Po.mk_length (j + 1) g)))
          go_roundw
          case rel => exact ⟨j + 1, g, by omega, Or.inl (by omega), h4, HG2, below_own_row (hbd.alloc hb.size _) h3 hown2.lt⟩
          case measure => simp only []; omega
    · have hgo : Ms.Goes lc lb k (Po.mk k f) := HG.out.goes HH.out.1 (by have := HH.out.2.1; omega) (by omega)
      have HGo := Lib.hid hgo
      have hkc : (k : Int) ≤ (oc : Int) := by omega
      have hfr := hown.fresh.take (k := k) (by omega)
      rw [Po.mk_take j k f (by omega)] at hfr
      clear hgo
      go_wp2
      go_ret
      exact ⟨⟨_, _, rfl, hfr, HGo.out⟩, hb⟩
end Go.Proofs.Ytmjboiaopihjeaa
