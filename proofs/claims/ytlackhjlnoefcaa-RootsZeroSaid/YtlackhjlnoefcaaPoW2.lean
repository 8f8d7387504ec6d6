/- Package poly: products, sums. -/
import Derived.Test.YtlackhjlnoefcaaPoW
namespace Go.Proofs.Ytlackhjlnoefcaa
open Go Go.RowKit

theorem Words32.bare {w : World} {a : Option Addr} {n : Nat} {l : List (BitVec 32)} (h : Words32 w a n l) : Words32 w a (Po.len1 l) (Po.trim l) :=
  h.take (by have := Po.len1_le l; have := h.1; omega)
namespace Po
def mulR (a b : List E) : List E := if len1 a = 0 ∨ len1 b = 0 then [] else mk (len1 a + len1 b - 1) (mulL (trim a) (cf b))
theorem amF_take (s : Nat → E) (N k : Nat) (lb la : List E) (hk : k < lb.length) (hs : ∀ j, j < N → s j = mulL (lb.take k) (cf la) j) (n : Nat) (hn : la.length = n) :
    ∀ j, j < N → amF s k (cf lb k) la n j = mulL (lb.take (k + 1)) (cf la) j := fun j hj => by
  rw [mulL_take hk]
  show (if k ≤ j ∧ j < k + n then s j ^^^ Gf.mul (cf lb k) (cf la (j - k)) else s j) = mulL (lb.take k) (cf la) j ^^^ Xn k (sclF (cf lb k) (cf la)) j
  rw [hs j hj]
  unfold Xn sclF
  by_cases h : k ≤ j
  · rw [if_pos h]
    by_cases h2 : j < k + n
    · rw [if_pos ⟨h, h2⟩]
    · rw [if_neg (by omega), cf_ge (l := la) (by omega), Gf.mul_zero, xz]
  · rw [if_neg (by omega), if_neg h, xz]
end Po
/-- nothing else of what lay has turned -/
def Only (B g : Nat) (w w' : World) : Prop := (∀ p, p < B → p ≠ g → w'.heap[p]? = w.heap[p]?) ∧ w.heap.size ≤ w'.heap.size

set_option maxHeartbeats 1000000 in
theorem mul_long (a b : Option Addr) (n c m d : Nat) (la lb : List (BitVec 32)) (w : World) (ha : Words32 w a n la) (hb : Words32 w b m lb) (hac : n ≤ c) (hbd : m ≤ d) (hs : n + m ≤ 549755813888)
    (h0a : Po.len1 la ≠ 0) (h0b : Po.len1 lb ≠ 0) (hsw : ¬ Po.len1 la < Po.len1 lb) :
    Calls Try.prog 27 #[.slice a n c, .slice b m d] w fun e w' => (∃ v, e = .returned v ∧ Fresh 37 w.heap.size w' v (Po.mulR la lb)) ∧ Below w.heap.size w w' := by
  have hla := Po.len1_le la
  have hlb := Po.len1_le lb
  have hln := ha.1
  have hlm := hb.1
  obtain ⟨N, hN⟩ : ∃ N, N + 1 = Po.len1 la + Po.len1 lb := ⟨Po.len1 la + Po.len1 lb - 1, by omega⟩
  have hNe : ((Po.len1 la : Int) + (Po.len1 lb : Int)) - 1 = (N : Int) := by omega
  have hmk := make_words N (by omega)
  have h0a' : 0 < Po.len1 la := by omega
  have h0b' : 0 < Po.len1 lb := by omega
  have hta : ((Po.len1 la : Int) == 0) = false := by simpa using h0a
  have htb : ((Po.len1 lb : Int) == 0) = false := by simpa using h0b
  have hfin : wcells N (fun j => Po.mulL (List.take (Po.len1 lb) (Po.trim lb)) (Po.cf (Po.trim la)) j) = wcells N (fun j => Po.mulL (Po.trim la) (Po.cf lb) j) := by
    refine wcells_congr fun j _ => ?_
    rw [List.take_of_length_le (by rw [Po.trim_length]; exact Nat.le_refl _)]
    rw [Po.mulL_comm, Po.cf_trim]
  go_enter Try.func27, Try.ntmps27
  go_wp2_with (first
    | (go_at_call 48; with_reducible refine (bare_any a n c la w ha hac).mono ?_; rintro e w1 ⟨rfl, hb1⟩)
    | (go_at_call 48; with_reducible refine (bare_any b m d lb _ (hb.below hb1) hbd).mono ?_; rintro e w2 ⟨rfl, hb2⟩))
  have hbw := hb1.trans (hb2.mono hb1.size)
  have hx : Words32 w2 a (Po.len1 la) (Po.trim la) := (ha.bare).below hbw
  have hy : Words32 w2 b (Po.len1 lb) (Po.trim lb) := (hb.bare).below hbw
  have hsz := hbw.size
  have hne : ∀ ad', a = some ad' → ad'.block ≠ w2.heap.size := fun ad' e => Nat.ne_of_lt (hx.block_lt (by omega) e)
  go_loopw [36] (fun i wr => ∃ k : Nat, k ≤ Po.len1 lb ∧ i = .int .i64 k ∧ Has wr w2.heap.size 37 (wcells N fun j => Po.mulL ((Po.trim lb).take k) (Po.cf (Po.trim la)) j) ∧ Below w2.heap.size w2 wr) (fun i _ => Po.len1 lb - (intOf i).toNat)
  case atStart => exact ⟨0, Nat.zero_le _, rfl, Has.fresh _ _ _, (Below.refl _ _).alloc (Nat.le_refl _) _⟩
  case round =>
    obtain ⟨k, hk, rfl, hgk, hbk⟩ := hrel
    by_cases hlt : k < Po.len1 lb
    · obtain ⟨ad, rfl, hxy⟩ := hy.2.2 k hlt
      obtain ⟨z, hz⟩ : ∃ z, z = (Po.trim lb).getD k 0 := ⟨_, rfl⟩
      rw [← hz] at hxy
      have hcell : wr.cell? (ad.add k) = some (.int .u32 (nb32 z)) := (hbk.cell (isSome_lt (by rw [hxy]; rfl))).trans hxy
      have hNk : ¬ N = k := by omega
      have hkN : k ≤ N := by omega
      have HZ := Lib.hid hz
      clear hz
      go_wp2_with (first
        | (go_at_call 49
           refine (addMultiple_any w2.heap.size k (N - k) (N - k) _ _ N _ (Po.trim la) z _ wr hgk (hx.below hbk) hne (by omega) (by omega)).mono ?_
           rintro e w3 ⟨rfl, hg3, _, hs3, hB3⟩))
      go_roundw
      case rel =>
        refine ⟨k + 1, by omega, by go_num, ?_, hbk.trans (hB3 _ (Nat.le_refl _) hbk.size)⟩
        have hz : z = Po.cf (Po.trim lb) k := HZ.out
        rw [hz] at hg3
        rwa [wcells_congr (Po.amF_take _ N k _ _ (by rw [Po.trim_length]; exact hlt) (fun _ _ => rfl) _ (Po.trim_length _))] at hg3
      case measure => simp [intOf]; omega
    · obtain rfl : k = Po.len1 lb := by omega
      go_wp2
      go_ret
      rw [hfin] at hgk
      have hml : Po.mulR la lb = Po.mk N (Po.mulL (Po.trim la) (Po.cf lb)) := by
        rw [Po.mulR, if_neg (by omega), show Po.len1 la + Po.len1 lb - 1 = N from by omega]
      refine ⟨⟨_, rfl, ?_⟩, hbw.trans (hbk.mono hsz)⟩
      rw [hml]
      refine Fresh.of_has hsz hgk (Po.mk_length _ _) (Nat.le_refl _) (by unfold maxLen; omega) (fun i hi => ?_)
      have := Po.cf_mk N (Po.mulL (Po.trim la) (Po.cf lb)) i
      rw [if_pos hi] at this
      exact this.symm

set_option maxHeartbeats 1000000 in
theorem mul_short (a b : Option Addr) (n c m d : Nat) (la lb : List (BitVec 32)) (w : World) (ha : Words32 w a n la) (hb : Words32 w b m lb) (hac : n ≤ c) (hbd : m ≤ d) (hs : n + m ≤ 549755813888)
    (h0a : Po.len1 la ≠ 0) (h0b : Po.len1 lb ≠ 0) (hsw : Po.len1 la < Po.len1 lb) :
    Calls Try.prog 27 #[.slice a n c, .slice b m d] w fun e w' => (∃ v, e = .returned v ∧ Fresh 37 w.heap.size w' v (Po.mulR la lb)) ∧ Below w.heap.size w w' := by
  have hla := Po.len1_le la
  have hlb := Po.len1_le lb
  have hln := ha.1
  have hlm := hb.1
  obtain ⟨N, hN⟩ : ∃ N, N + 1 = Po.len1 la + Po.len1 lb := ⟨Po.len1 la + Po.len1 lb - 1, by omega⟩
  have hNe : ((Po.len1 lb : Int) + (Po.len1 la : Int)) - 1 = (N : Int) := by omega
  have hmk := make_words N (by omega)
  have h0a' : 0 < Po.len1 la := by omega
  have h0b' : 0 < Po.len1 lb := by omega
  have hta : ((Po.len1 la : Int) == 0) = false := by simpa using h0a
  have htb : ((Po.len1 lb : Int) == 0) = false := by simpa using h0b
  have hfin : wcells N (fun j => Po.mulL (List.take (Po.len1 la) (Po.trim la)) (Po.cf (Po.trim lb)) j) = wcells N (fun j => Po.mulL (Po.trim la) (Po.cf lb) j) := by
    refine wcells_congr fun j _ => ?_
    rw [List.take_of_length_le (by rw [Po.trim_length]; exact Nat.le_refl _)]
    rw [Po.cf_trim]
  go_enter Try.func27, Try.ntmps27
  go_wp2_with (first
    | (go_at_call 48; with_reducible refine (bare_any a n c la w ha hac).mono ?_; rintro e w1 ⟨rfl, hb1⟩)
    | (go_at_call 48; with_reducible refine (bare_any b m d lb _ (hb.below hb1) hbd).mono ?_; rintro e w2 ⟨rfl, hb2⟩))
  have hbw := hb1.trans (hb2.mono hb1.size)
  have hx : Words32 w2 b (Po.len1 lb) (Po.trim lb) := (hb.bare).below hbw
  have hy : Words32 w2 a (Po.len1 la) (Po.trim la) := (ha.bare).below hbw
  have hsz := hbw.size
  have hne : ∀ ad', b = some ad' → ad'.block ≠ w2.heap.size := fun ad' e => Nat.ne_of_lt (hx.block_lt (by omega) e)
  go_loopw [36] (fun i wr => ∃ k : Nat, k ≤ Po.len1 la ∧ i = .int .i64 k ∧ Has wr w2.heap.size 37 (wcells N fun j => Po.mulL ((Po.trim la).take k) (Po.cf (Po.trim lb)) j) ∧ Below w2.heap.size w2 wr) (fun i _ => Po.len1 la - (intOf i).toNat)
  case atStart => exact ⟨0, Nat.zero_le _, rfl, Has.fresh _ _ _, (Below.refl _ _).alloc (Nat.le_refl _) _⟩
  case round =>
    obtain ⟨k, hk, rfl, hgk, hbk⟩ := hrel
    by_cases hlt : k < Po.len1 la
    · obtain ⟨ad, rfl, hxy⟩ := hy.2.2 k hlt
      obtain ⟨z, hz⟩ : ∃ z, z = (Po.trim la).getD k 0 := ⟨_, rfl⟩
      rw [← hz] at hxy
      have hcell : wr.cell? (ad.add k) = some (.int .u32 (nb32 z)) := (hbk.cell (isSome_lt (by rw [hxy]; rfl))).trans hxy
      have hNk : ¬ N = k := by omega
      have hkN : k ≤ N := by omega
      have HZ := Lib.hid hz
      clear hz
      go_wp2_with (first
        | (go_at_call 49
           refine (addMultiple_any w2.heap.size k (N - k) (N - k) _ _ N _ (Po.trim lb) z _ wr hgk (hx.below hbk) hne (by omega) (by omega)).mono ?_
           rintro e w3 ⟨rfl, hg3, _, hs3, hB3⟩))
      go_roundw
      case rel =>
        refine ⟨k + 1, by omega, by go_num, ?_, hbk.trans (hB3 _ (Nat.le_refl _) hbk.size)⟩
        have hz : z = Po.cf (Po.trim la) k := HZ.out
        rw [hz] at hg3
        rwa [wcells_congr (Po.amF_take _ N k _ _ (by rw [Po.trim_length]; exact hlt) (fun _ _ => rfl) _ (Po.trim_length _))] at hg3
      case measure => simp [intOf]; omega
    · obtain rfl : k = Po.len1 la := by omega
      go_wp2
      go_ret
      rw [hfin] at hgk
      have hml : Po.mulR la lb = Po.mk N (Po.mulL (Po.trim la) (Po.cf lb)) := by
        rw [Po.mulR, if_neg (by omega), show Po.len1 la + Po.len1 lb - 1 = N from by omega]
      refine ⟨⟨_, rfl, ?_⟩, hbw.trans (hbk.mono hsz)⟩
      rw [hml]
      refine Fresh.of_has hsz hgk (Po.mk_length _ _) (Nat.le_refl _) (by unfold maxLen; omega) (fun i hi => ?_)
      have := Po.cf_mk N (Po.mulL (Po.trim la) (Po.cf lb)) i
      rw [if_pos hi] at this
      exact this.symm

set_option maxHeartbeats 400000 in
theorem pmul_any (a b : Option Addr) (n c m d : Nat) (la lb : List (BitVec 32)) (w : World) (ha : Words32 w a n la) (hb : Words32 w b m lb) (hac : n ≤ c) (hbd : m ≤ d) (hs : n + m ≤ 549755813888) :
    Calls Try.prog 27 #[.slice a n c, .slice b m d] w fun e w' => (∃ v, e = .returned v ∧ Fresh 37 w.heap.size w' v (Po.mulR la lb)) ∧ Below w.heap.size w w' := by
  by_cases h0 : Po.len1 la = 0 ∨ Po.len1 lb = 0
  · have hla := Po.len1_le la
    have hlb := Po.len1_le lb
    have hln := ha.1
    have hlm := hb.1
    have hm : Po.mulR la lb = [] := by rw [Po.mulR, if_pos h0]
    have ht : (((Po.len1 la : Int) == 0) || ((Po.len1 lb : Int) == 0)) = true := by rcases h0 with h | h <;> simp [h]
    rw [hm]
    have HT := Lib.hid ht
    clear hm ht
    by_cases h0a : Po.len1 la = 0
    · have hta : ((Po.len1 la : Int) == 0) = true := by simp [h0a]
      go_enter Try.func27, Try.ntmps27
      go_wp2_with (first
        | (go_at_call 48; with_reducible refine (bare_any a n c la w ha hac).mono ?_; rintro e w1 ⟨rfl, hb1⟩)
        | (go_at_call 48; with_reducible refine (bare_any b m d lb _ (hb.below hb1) hbd).mono ?_; rintro e w2 ⟨rfl, hb2⟩))
      go_ret
      exact ⟨⟨_, rfl, Fresh.nil _ _ _⟩, hb1.trans (hb2.mono hb1.size)⟩
    · have hta : ((Po.len1 la : Int) == 0) = false := by simpa using h0a
      have htb : ((Po.len1 lb : Int) == 0) = true := by have := HT.out; rwa [hta, Bool.false_or] at this
      go_enter Try.func27, Try.ntmps27
      go_wp2_with (first
        | (go_at_call 48; with_reducible refine (bare_any a n c la w ha hac).mono ?_; rintro e w1 ⟨rfl, hb1⟩)
        | (go_at_call 48; with_reducible refine (bare_any b m d lb _ (hb.below hb1) hbd).mono ?_; rintro e w2 ⟨rfl, hb2⟩))
      go_ret
      exact ⟨⟨_, rfl, Fresh.nil _ _ _⟩, hb1.trans (hb2.mono hb1.size)⟩
  · by_cases hsw : Po.len1 la < Po.len1 lb
    · exact mul_short a b n c m d la lb w ha hb hac hbd hs (by omega) (by omega) hsw
    · exact mul_long a b n c m d la lb w ha hb hac hbd hs (by omega) (by omega) hsw

theorem scale_any (a : Option Addr) (n c : Nat) (la : List (BitVec 32)) (x : BitVec 32) (w : World) (ha : Words32 w a n la) (hac : n ≤ c) (hs : n ≤ 274877906944) :
    Calls Try.prog 25 #[.slice a n c, .int .u32 (nb32 x)] w fun e w' => (∃ v, e = .returned v ∧ Fresh 37 w.heap.size w' v (Po.mulR la [x])) ∧ Below w.heap.size w w' := by
  go_enter Try.func25, Try.ntmps25
  go_wp2_with (go_at_call 27; refine (pmul_any a _ n c 1 1 la [x] _ (ha.past _) (words_one w x _) hac (Nat.le_refl _) (by omega)).mono ?_; rintro e w1 ⟨⟨v, rfl, hv⟩, hb⟩)
  go_ret
  have hb' : Below w.heap.size w w1 := ((Below.refl _ w).alloc (Nat.le_refl _) _).trans (hb.mono (by simp))
  exact ⟨⟨_, rfl, hv.low (by simp)⟩, hb'⟩

namespace Po
def longF (W : Nat → List E) : Nat → Nat
  | 0 => 0
  | k + 1 => max (longF W k) (len1 (W k))
def sumF (W : Nat → List E) : Nat → Nat → E
  | 0 => fun _ => 0
  | k + 1 => addF (sumF W k) (cf (W k))
theorem longF_le (W : Nat → List E) (B : Nat) : ∀ k, (∀ i, i < k → len1 (W i) ≤ B) → longF W k ≤ B
  | 0, _ => Nat.zero_le _
  | k + 1, h => by
    have := longF_le W B k fun i hi => h i (by omega)
    have := h k (by omega)
    unfold longF
    omega
theorem len1_longF (W : Nat → List E) : ∀ k i, i < k → len1 (W i) ≤ longF W k
  | 0, i, h => by omega
  | k + 1, i, h => by
    unfold longF
    rcases Nat.lt_or_ge i k with h1 | h1
    · have := len1_longF W k i h1
      omega
    · obtain rfl : i = k := by omega
      omega
def inF (W : Nat → List E) (k j i : Nat) : E := if i < j then sumF W k i ^^^ cf (W k) i else sumF W k i
theorem inF_zero (W : Nat → List E) (k : Nat) : inF W k 0 = sumF W k := by funext i; simp [inF]
theorem inF_all (W : Nat → List E) (k j : Nat) (hj : len1 (W k) ≤ j) : inF W k j = sumF W (k + 1) := by
  funext i
  unfold inF
  split
  · rfl
  · show sumF W k i = sumF W k i ^^^ cf (W k) i
    rw [cf_len1 (W k) (by omega), xz]
theorem inF_here (W : Nat → List E) (k j : Nat) : inF W k j j = sumF W k j := by rw [inF, if_neg (by omega)]
theorem inF_step (W : Nat → List E) (N k j : Nat) (x : E) (hx : x = sumF W k j ^^^ cf (W k) j) : (wcells N (inF W k j)).setIfInBounds j (.int .u32 (nb32 x)) = wcells N (inF W k (j + 1)) := by
  refine wcells_put _ _ _ _ ?_ (fun i _ hne => ?_)
  · rw [inF, if_pos (by omega), hx]
  · unfold inF
    by_cases h : i < j
    · rw [if_pos h, if_pos (by omega)]
    · rw [if_neg h, if_neg (by omega)]
end Po
/-- a slice of slices of words -/
def WRows (w : World) (a : Option Addr) (n : Nat) (A : Nat → Option Addr) (L C : Nat → Nat) (W : Nat → List (BitVec 32)) : Prop :=
  n ≤ 1048576 ∧ ∀ i, i < n → (∃ x, a = some x ∧ w.cell? (x.add i) = some (.slice (A i) (L i) (C i))) ∧ Words32 w (A i) (L i) (W i) ∧ L i ≤ C i
theorem WRows.below {w w' : World} {a : Option Addr} {n : Nat} {A : Nat → Option Addr} {L C : Nat → Nat} {W : Nat → List (BitVec 32)} (h : WRows w a n A L C W) (hb : Below w.heap.size w w') : WRows w' a n A L C W :=
  ⟨h.1, fun i hi => by
    obtain ⟨⟨x, e, hx⟩, h2, h3⟩ := h.2 i hi
    exact ⟨⟨x, e, (hb.cell (isSome_lt (by rw [hx]; rfl))).trans hx⟩, h2.below hb, h3⟩⟩
set_option maxHeartbeats 2000000 in
theorem add_any (a : Option Addr) (n c : Nat) (A : Nat → Option Addr) (L C : Nat → Nat) (W : Nat → List (BitVec 32)) (w : World) (h : WRows w a n A L C W) (hs : ∀ i, i < n → L i ≤ 1099511627776) :
    Calls Try.prog 34 #[.slice a n c] w fun e w' => (∃ v, e = .returned v ∧ Fresh 37 w.heap.size w' v (Po.trim (Po.mk (Po.longF W n) (Po.sumF W n)))) ∧ Below w.heap.size w w' := by
  have hn := h.1
  have hlen : ∀ i, i < n → Po.len1 (W i) ≤ 1099511627776 := fun i hi => by
    have := (h.2 i hi).2.1.1
    have := Po.len1_le (W i)
    have := hs i hi
    omega
  have hmk := make_words (Po.longF W n) (Po.longF_le W _ n hlen)
  go_enter Try.func34, Try.ntmps34
  go_wp2
  go_loopw [3, 13] (fun x i wr => ∃ k : Nat, k ≤ n ∧ i = .int .i64 k ∧ x = .int .i64 (Po.longF W k) ∧ Below w.heap.size w wr) (fun _ i _ => n - (intOf i).toNat)
  case atStart => exact ⟨0, Nat.zero_le _, rfl, rfl, Below.refl _ _⟩
  case round =>
    obtain ⟨k, hk, rfl, rfl, hb⟩ := hrel
    by_cases hlt : k < n
    · obtain ⟨⟨ad, rfl, hx⟩, hw, hlc⟩ := h.2 k hlt
      have hcell := (hb.cell (isSome_lt (by rw [hx]; rfl))).trans hx
      go_wp2_with (first
        | (go_at_call 48; refine (bare_any _ _ _ (W k) _ (hw.below hb) hlc).mono ?_; rintro e w1 ⟨rfl, hb1⟩))
      go_roundw
      case rel =>
        refine ⟨k + 1, by omega, by go_num, ?_, hb.trans (hb1.mono hb.size)⟩
        rw [Po.longF]
        congr 1
        split <;> omega
      case measure => simp [intOf]; omega
    · obtain rfl : k = n := by omega
      obtain ⟨N, hN⟩ : ∃ N, N = Po.longF W k := ⟨_, rfl⟩
      have hlong : ∀ i, i < k → Po.len1 (W i) ≤ N := fun i hi => by rw [hN]; exact Po.len1_longF W k i hi
      have hNb : N ≤ 1099511627776 := by rw [hN]; exact Po.longF_le W _ k hlen
      rw [← hN] at hmk ⊢
      have HN := Lib.hid hN
      clear hN
      go_wp2
      have hsz := hb.size
      rename World => wA
      clear hmk
      go_loopw [27] (fun i w1 => ∃ m : Nat, m ≤ k ∧ i = .int .i64 m ∧ Has w1 wA.heap.size 37 (wcells N (Po.sumF W m)) ∧ Below wA.heap.size wA w1) (fun i _ => k - (intOf i).toNat)
      case atStart => exact ⟨0, Nat.zero_le _, rfl, Has.fresh _ _ _, (Below.refl _ _).alloc (Nat.le_refl _) _⟩
      case round =>
        obtain ⟨m, hm, rfl, hg, hb1⟩ := hrel
        rename World => wB
        by_cases hlt1 : m < k
        · obtain ⟨⟨ad, rfl, hx⟩, hw, hlc⟩ := h.2 m hlt1
          obtain ⟨Am, hAm⟩ : ∃ x, x = A m := ⟨_, rfl⟩
          rw [← hAm] at hx hw
          clear hAm
          have hcell := (hb1.cell (isSome_lt (by rw [(hb.cell (isSome_lt (by rw [hx]; rfl))).trans hx]; rfl))).trans ((hb.cell (isSome_lt (by rw [hx]; rfl))).trans hx)
          have hl1 := hlong m hlt1
          have hww := (hw.below hb).below hb1
          have hgl := hg.lt
          go_wp2_with (first
            | (go_at_call 48; refine (bare_any _ _ _ (W m) _ hww hlc).mono ?_; rintro e w2 ⟨rfl, hb2⟩))
          have hg2 := hg.under hb2 hgl
          have hb2' := hb1.trans (hb2.mono (Nat.le_of_lt hgl))
          go_loopw [34] (fun i w3 => ∃ j : Nat, j ≤ Po.len1 (W m) ∧ i = .int .i64 j ∧ Has w3 wA.heap.size 37 (wcells N (Po.inF W m j)) ∧ Below wA.heap.size wA w3) (fun i _ => Po.len1 (W m) - (intOf i).toNat)
          case atStart => exact ⟨0, Nat.zero_le _, rfl, by rw [Po.inF_zero]; exact hg2, hb2'⟩
          case round =>
            obtain ⟨j, hj, rfl, hg3, hb3⟩ := hrel
            have hw3 := ((hw.bare).below hb).below hb3
            by_cases hlt3 : j < Po.len1 (W m)
            · obtain ⟨ad3, rfl, hx3⟩ := hw3.2.2 j hlt3
              obtain ⟨z, hz⟩ : ∃ z, z = (Po.trim (W m)).getD j 0 := ⟨_, rfl⟩
              rw [← hz] at hx3
              have hcj := hg3.cell_at (wcells_at (i := j) _ (by omega))
              rw [Po.inF_here] at hcj
              have hfj := hg3.loose j
              have hg3l := hg3.lt
              have hz' : z = Po.cf (W m) j := hz.trans (congrFun (Po.cf_trim (W m)) j)
              have HZ := Lib.hid hz'
              have hjN : j < N := by omega
              clear hz hz'
              go_wp2_with (first
                | (go_at_call 44; refine (sum2 _ _ _).mono ?_; rintro e w4 ⟨rfl, rfl⟩))
              go_roundw
              case rel =>
                refine ⟨j + 1, by omega, by go_num, ?_, (hb3.setCell (p := ⟨wA.heap.size, j, none⟩) (Nat.le_refl _) _).alloc (by rw [World.size_setCell]; exact hb3.size) _⟩
                have := (hg3.put j (.int .u32 (nb32 (Po.sumF W m j ^^^ z)))).past (.cells #[.int .u32 (nb32 (Po.sumF W m j)), .int .u32 (nb32 z)] 37)
                rwa [Po.inF_step W N m j _ (by rw [HZ.out])] at this
              case measure => simp [intOf]; omega
            · obtain rfl : j = Po.len1 (W m) := by omega
              rw [Po.inF_all W m _ (Nat.le_refl _)] at hg3
              go_wp2
              go_roundw
              case rel => exact ⟨m + 1, by omega, by go_num, hg3, hb3⟩
              case measure => simp [intOf]; omega
        · obtain rfl : m = k := by omega
          have hwo : Words32 wB (some ⟨wA.heap.size, 0, none⟩) N (Po.mk N (Po.sumF W m)) := by
            refine ⟨Po.mk_length _ _, by unfold maxLen; omega, fun i hi => ⟨_, rfl, ?_⟩⟩
            rw [Addr.add_mid, Nat.zero_add, hg.cell, wcells_at _ hi]
            have := Po.cf_mk N (Po.sumF W m) i
            rw [if_pos hi] at this
            rw [show (Po.mk N (Po.sumF W m)).getD i 0 = _ from this]
          go_wp2_with (first
            | (go_at_call 28; refine (trim_any _ _ _ _ _ hwo (by omega)).mono ?_; rintro e w4 ⟨⟨v, rfl, hv⟩, hb4⟩))
          go_ret
          have hbb := hb.trans (hb1.mono hb.size)
          rw [HN.out] at hv
          exact ⟨⟨v, rfl, hv.low hbb.size⟩, hbb.trans (hb4.mono hbb.size)⟩
end Go.Proofs.Ytlackhjlnoefcaa
