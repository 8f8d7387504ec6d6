/- package digest: turning words -/
import Derived.Test.YtagjolbpmhbifaaGreatDoorRows
import Derived.Test.YtagjolbpmhbifaaGreatDoorDgy
import Derived.Test.YtagjolbpmhbifaaGreatDoorLz
import Derived.Lib.Hide
import Derived.IntWalk
import Derived.Deep.Cut
import Derived.BigQuiet
import Derived.StillTailTactics
namespace Go.Proofs.YtagjolbpmhbifaaGreatDoor
open Go Go.RowKit Go.ChangeShapes Go.WideShapes
theorem rot_and (k : Nat) (h1 : 1 ≤ k) (h2 : k < 32) : bits BinOp.and IntKind.u64 (IntKind.u64.wrap (-(k : Int))) 31 = ((32 - k : Nat) : Int) :=
  (by decide +kernel : ∀ k : Fin 32, 1 ≤ k.1 → bits BinOp.and IntKind.u64 (IntKind.u64.wrap (-(k.1 : Int))) 31 = ((32 - k.1 : Nat) : Int)) ⟨k, h2⟩ h1
set_option maxRecDepth 100000 in
set_option maxHeartbeats 4000000 in
theorem rotl32_any (x : BitVec 32) (k : Nat) (z : Int) (hz : z = -(k : Int)) (h1 : 1 ≤ k) (h2 : k < 32) (w : World) :
    Calls Tryz.prog 130 #[.int .u32 (nb32 x), .int .i64 z] w fun e w' => e = .returned (.int .u32 (nb32 (Dg.ror x k))) ∧ w = w' := by
  have hb := rot_and k h1 h2
  rw [← hz] at hb
  have hw : IntKind.u64.wrap (32 - ((32 - k : Nat) : Int)) = (k : Int) := by
    rw [IntKind.wrap_u64]; omega
  clear hz
  obtain ⟨m, hm⟩ : ∃ m, m = 32 - k := ⟨_, rfl⟩
  rw [← hm] at hb hw
  have HR := Lib.hid (show x <<< m ||| x >>> k = Dg.ror x k by rw [hm]; exact BitVec.or_comm _ _)
  clear hm
  go_enter Tryz.func130, Tryz.ntmps130
  go_wp2
  go_ret
  exact ⟨by rw [HR.out]; rfl, rfl⟩
set_option maxRecDepth 100000 in
set_option maxHeartbeats 400000 in
theorem turned_any (x : BitVec 32) (i j k : Nat) (zi zj zk : Int) (hi : zi = (i : Int)) (hj : zj = (j : Int)) (hk : zk = (k : Int)) (h : i = 6 ∧ j = 11 ∧ k = 25 ∨ i = 2 ∧ j = 13 ∧ k = 22) (w : World) :
    Calls Tryz.prog 106 #[.int .u32 (nb32 x), .int .i64 zi, .int .i64 zj, .int .i64 zk] w fun e w' => e = .returned (.int .u32 (nb32 (Dg.ror x i ^^^ Dg.ror x j ^^^ Dg.ror x k))) ∧ w = w' := by
  subst hi hj hk
  rcases h with ⟨rfl, rfl, rfl⟩ | ⟨rfl, rfl, rfl⟩
  · have r6 := rotl32_any x 6 (-6) rfl (by omega) (by omega)
    have r11 := rotl32_any x 11 (-11) rfl (by omega) (by omega)
    have r25 := rotl32_any x 25 (-25) rfl (by omega) (by omega)
    go_enter Tryz.func106, Tryz.ntmps106
    go_wp2_with (go_at_call 130; first
      | (with_reducible refine (r25 _).mono ?_; rintro e w1 ⟨rfl, rfl⟩)
      | (with_reducible refine (r11 _).mono ?_; rintro e w1 ⟨rfl, rfl⟩)
      | (with_reducible refine (r6 _).mono ?_; rintro e w1 ⟨rfl, rfl⟩))
    go_ret
    exact ⟨rfl, rfl⟩
  · have r2 := rotl32_any x 2 (-2) rfl (by omega) (by omega)
    have r13 := rotl32_any x 13 (-13) rfl (by omega) (by omega)
    have r22 := rotl32_any x 22 (-22) rfl (by omega) (by omega)
    go_enter Tryz.func106, Tryz.ntmps106
    go_wp2_with (go_at_call 130; first
      | (with_reducible refine (r22 _).mono ?_; rintro e w1 ⟨rfl, rfl⟩)
      | (with_reducible refine (r13 _).mono ?_; rintro e w1 ⟨rfl, rfl⟩)
      | (with_reducible refine (r2 _).mono ?_; rintro e w1 ⟨rfl, rfl⟩))
    go_ret
    exact ⟨rfl, rfl⟩
theorem still_all_drew8 {P : Program} {id : Nat} {Q : Exit → Act → World → Prop} {a : Act} {w : World} {l : List Oper} (hm : P.follows .mixedOrders = true) (hB : Region.lexB .any l.toArray = true)
    (h : wpStill P l.toArray w.drew (fun a' => Q .normal a' w.drew) l a) : (Code.region id l.toArray true).wp P Q a w := wp_region_still_lit hm hB h
set_option maxRecDepth 100000 in
set_option maxHeartbeats 4000000 in
theorem slid_any (x : BitVec 32) (i j k : Nat) (zi zj zk : Int) (hi : zi = (i : Int)) (hj : zj = (j : Int)) (hk : zk = (k : Int)) (h : i = 17 ∧ j = 19 ∧ k = 10 ∨ i = 7 ∧ j = 18 ∧ k = 3) (w : World) :
    Calls Tryz.prog 129 #[.int .u32 (nb32 x), .int .i64 zi, .int .i64 zj, .int .i64 zk] w fun e w' => e = .returned (.int .u32 (nb32 (Dg.ror x i ^^^ Dg.ror x j ^^^ x >>> k))) ∧ w' = w.drew := by
  subst hi hj hk
  rcases h with ⟨rfl, rfl, rfl⟩ | ⟨rfl, rfl, rfl⟩
  · go_enter Tryz.func129, Tryz.ntmps129
    go_upto_region 1 with fail
    refine still_all_drew8 rfl (by kernel_rfl) ?_
    repeat still_step
    still_call ((rotl32_any x 17 (-17) rfl (by omega) (by omega) _).mono fun e w' h => ⟨h.1, h.2.symm⟩)
    repeat still_step
    still_call ((rotl32_any x 19 (-19) rfl (by omega) (by omega) _).mono fun e w' h => ⟨h.1, h.2.symm⟩)
    repeat still_step
    refine wpStill_nil ?_
    go_wp2
    go_ret
    exact ⟨rfl, rfl⟩
  · go_enter Tryz.func129, Tryz.ntmps129
    go_upto_region 1 with fail
    refine still_all_drew8 rfl (by kernel_rfl) ?_
    repeat still_step
    still_call ((rotl32_any x 7 (-7) rfl (by omega) (by omega) _).mono fun e w' h => ⟨h.1, h.2.symm⟩)
    repeat still_step
    still_call ((rotl32_any x 18 (-18) rfl (by omega) (by omega) _).mono fun e w' h => ⟨h.1, h.2.symm⟩)
    repeat still_step
    refine wpStill_nil ?_
    go_wp2
    go_ret
    exact ⟨rfl, rfl⟩
/-! the words of a block -/
/-- as the code puts a word together: n bytes of it -/
def Dg.acc (b : List (BitVec 8)) (p : Nat) : Nat → BitVec 32
  | 0 => 0
  | n + 1 => Dg.acc b p n <<< 8 ||| (cb b (p + n)).setWidth 32
theorem Dg.or_add (x : BitVec 32) (y : BitVec 8) : x <<< 8 ||| y.setWidth 32 = x <<< 8 + y.setWidth 32 := by
  rw [BitVec.add_eq_or_of_and_eq_zero]
  ext i hi
  simp only [BitVec.getElem_and, BitVec.getElem_shiftLeft, BitVec.getElem_setWidth, BitVec.getElem_zero]
  by_cases h : i < 8
  · simp [h]
  · rw [BitVec.getLsbD_of_ge _ _ (by omega)]; simp
theorem Dg.acc_word (b : List (BitVec 8)) (p : Nat) : Dg.acc b p 4 = Dg.word b p := by
  unfold Dg.acc Dg.acc Dg.acc Dg.acc Dg.acc Dg.word
  simp only [Dg.or_add]
  apply BitVec.eq_of_toNat_eq
  have h0 := (cb b (p + 0)).isLt
  have h1 := (cb b (p + 1)).isLt
  have h2 := (cb b (p + 2)).isLt
  have h3 := (cb b (p + 3)).isLt
  rw [Nat.add_zero] at h0 ⊢
  simp only [BitVec.toNat_add, BitVec.toNat_shiftLeft, BitVec.toNat_setWidth, Nat.shiftLeft_eq]
  generalize (cb b p).toNat = a0 at *
  generalize (cb b (p + 1)).toNat = a1 at *
  generalize (cb b (p + 2)).toNat = a2 at *
  generalize (cb b (p + 3)).toNat = a3 at *
  omega
/-- the block's words, i bytes of it read -/
def Dg.pF (b : List (BitVec 8)) (i j : Nat) : BitVec 32 := Dg.acc b (4 * j) (min 4 (i - 4 * j))
def Dg.m (b : List (BitVec 8)) (t : Nat) : BitVec 32 := Dg.word b (4 * t)
theorem Dg.pF_zero (b : List (BitVec 8)) (j : Nat) : Dg.pF b 0 j = 0 := by unfold Dg.pF; rw [Nat.zero_sub]; rfl
theorem Dg.pF_step (b : List (BitVec 8)) (i d : Nat) (y : BitVec 8) (hd : d = i / 4) (hy : y = cb b i) : Dg.pF b i d <<< 8 ||| y.setWidth 32 = Dg.pF b (i + 1) d := by
  unfold Dg.pF
  obtain ⟨r, hr⟩ : ∃ r, r = i - 4 * d := ⟨_, rfl⟩
  rw [show min 4 (i - 4 * d) = r by omega, show min 4 (i + 1 - 4 * d) = r + 1 by omega, hy, show i = 4 * d + r by omega]
  rfl
theorem Dg.pF_other (b : List (BitVec 8)) (i d j : Nat) (hd : d = i / 4) (hj : j ≠ d) : Dg.pF b (i + 1) j = Dg.pF b i j := by
  unfold Dg.pF
  congr 1
  omega
theorem Dg.pF_end (b : List (BitVec 8)) (j : Nat) : Dg.pF b 64 j = if j < 16 then Dg.sch (Dg.m b) j else 0 := by
  unfold Dg.pF
  by_cases h : j < 16
  · rw [if_pos h, show min 4 (64 - 4 * j) = 4 by omega, Dg.acc_word, Dg.sch_lo _ h]; rfl
  · rw [if_neg h, show min 4 (64 - 4 * j) = 0 by omega]; rfl
theorem Dg.schF_same {m m' : Nat → BitVec 32} (h : ∀ t, t < 16 → m t = m' t) : ∀ f t, t ≤ f → Dg.schF m f t = Dg.schF m' f t
  | 0, t, ht => h t (by omega)
  | f + 1, t, ht => by
    unfold Dg.schF
    by_cases h1 : t < 16
    · rw [if_pos h1, if_pos h1, h t h1]
    · rw [if_neg h1, if_neg h1, Dg.schF_same h f (t - 2) (by omega), Dg.schF_same h f (t - 7) (by omega), Dg.schF_same h f (t - 15) (by omega), Dg.schF_same h f (t - 16) (by omega)]
theorem Dg.sch_same {m m' : Nat → BitVec 32} (h : ∀ t, t < 16 → m t = m' t) (t : Nat) : Dg.sch m t = Dg.sch m' t := Dg.schF_same h t t (Nat.le_refl _)
theorem Dg.steps_same {m m' : Nat → BitVec 32} (h : ∀ t, t < 16 → m t = m' t) (v : Dg.V8) : ∀ n, Dg.steps m v n = Dg.steps m' v n
  | 0 => rfl
  | n + 1 => by
    unfold Dg.steps
    rw [Dg.steps_same h v n, Dg.sch_same h n]
end Go.Proofs.YtagjolbpmhbifaaGreatDoor
