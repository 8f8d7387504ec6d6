/- what the calls of package roots answer, as one premise; law04's common parts -/
import Derived.Test.YtlackhjlnoefcaaRoS
import Derived.Test.YtlackhjlnoefcaaPoC
namespace Go.Proofs.Ytlackhjlnoefcaa
open Go Go.RowKit Go.ChangeShapes Go.WideShapes
/-- what may be looked at -/
def Po.Fits (l : List (BitVec 32)) : Prop := Po.len1 l ≠ 0 ∧ Po.len1 l ≤ 61
structure RootsOk : Prop where
  all_no : ∀ (a : Option Addr) (n c : Nat) (l : List (BitVec 32)) (w : World), Words32 w a n l → n ≤ c → (a = none → c = 0) → n ≤ 1000 → ¬ Po.Fits l →
    Calls Try.prog 9 #[.slice a n c] w fun e w' => (∃ a' c', e = .returned (.tuple #[.slice a' 0 c', errRange])) ∧ Below w.heap.size w w'
  all_ok : ∀ (a : Option Addr) (n c : Nat) (l : List (BitVec 32)) (w : World), Words32 w a n l → n ≤ c → (a = none → c = 0) → n ≤ 1000 → Po.Fits l →
    Calls Try.prog 9 #[.slice a n c] w fun e w' => (∃ v, e = .returned (.tuple #[v, .nilIface]) ∧ Fresh 37 w.heap.size w' v (Po.rts l)) ∧ Below w.heap.size w w'
  count_no : ∀ (a : Option Addr) (n c : Nat) (l : List (BitVec 32)) (w : World), Words32 w a n l → n ≤ c → (a = none → c = 0) → n ≤ 1000 → ¬ Po.Fits l →
    Calls Try.prog 10 #[.slice a n c] w fun e w' => e = .returned (.tuple #[.int .i64 0, errRange]) ∧ Below w.heap.size w w'
  count_ok : ∀ (a : Option Addr) (n c : Nat) (l : List (BitVec 32)) (w : World), Words32 w a n l → n ≤ c → (a = none → c = 0) → n ≤ 1000 → Po.Fits l →
    Calls Try.prog 10 #[.slice a n c] w fun e w' => e = .returned (.tuple #[.int .i64 ((Po.rts l).length : Int), .nilIface]) ∧ Below w.heap.size w w'
  linear_no : ∀ (a : Option Addr) (n c : Nat) (l : List (BitVec 32)) (w : World), Words32 w a n l → n ≤ c → (a = none → c = 0) → n ≤ 1000 → ¬ Po.Fits l →
    Calls Try.prog 11 #[.slice a n c] w fun e w' => (∃ a' c', e = .returned (.tuple #[.slice a' 0 c', errRange])) ∧ Below w.heap.size w w'
  linear_ok : ∀ (a : Option Addr) (n c : Nat) (l : List (BitVec 32)) (w : World), Words32 w a n l → n ≤ c → (a = none → c = 0) → n ≤ 1000 → Po.Fits l →
    Calls Try.prog 11 #[.slice a n c] w fun e w' => (∃ v, e = .returned (.tuple #[v, .nilIface]) ∧ Fresh 37 w.heap.size w' v (Po.fromL (Po.rts l))) ∧ Below w.heap.size w w'
  split_no : ∀ (a : Option Addr) (n c : Nat) (l : List (BitVec 32)) (w : World), Words32 w a n l → n ≤ c → (a = none → c = 0) → n ≤ 1000 → ¬ (Po.Fits l ∧ (Po.rts l).length + 1 = Po.len1 l) →
    Calls Try.prog 12 #[.slice a n c] w fun e w' => (∃ a' c', e = .returned (.tuple #[.slice a' 0 c', .bool false])) ∧ Below w.heap.size w w'
  split_ok : ∀ (a : Option Addr) (n c : Nat) (l : List (BitVec 32)) (w : World), Words32 w a n l → n ≤ c → (a = none → c = 0) → n ≤ 1000 → (Po.Fits l ∧ (Po.rts l).length + 1 = Po.len1 l) →
    Calls Try.prog 12 #[.slice a n c] w fun e w' => (∃ v, e = .returned (.tuple #[v, .bool true]) ∧ Fresh 37 w.heap.size w' v (Po.rts l)) ∧ Below w.heap.size w w'
  traces_no : ∀ (a : Option Addr) (n c : Nat) (l : List (BitVec 32)) (b : BitVec 32) (w : World), Words32 w a n l → n ≤ c → (a = none → c = 0) → n ≤ 1000 → ¬ Po.Fits l →
    Calls Try.prog 19 #[.slice a n c, .int .u32 (nb32 b)] w fun e w' => (∃ a' c', e = .returned (.tuple #[.slice a' 0 c', errRange])) ∧ Below w.heap.size w w'
  traces_ok : ∀ (a : Option Addr) (n c : Nat) (l : List (BitVec 32)) (b : BitVec 32) (w : World), Words32 w a n l → n ≤ c → (a = none → c = 0) → n ≤ 1000 → Po.Fits l →
    Calls Try.prog 19 #[.slice a n c, .int .u32 (nb32 b)] w fun e w' => (∃ v, e = .returned (.tuple #[v, .nilIface]) ∧ Fresh 37 w.heap.size w' v (Po.trc l b 32)) ∧ Below w.heap.size w w'
theorem Po.rts_ex : Po.rts [2#32, 3#32, 1#32] = [1#32, 2#32] := by
  have h : Po.fromL [1#32, 2#32] = [2#32, 3#32, 1#32] := by decide +kernel
  rw [← h]
  exact Po.rts_from (List.pairwise_cons.2 ⟨fun b hb => by rw [List.mem_singleton.1 hb]; decide, List.pairwise_singleton _ _⟩)
theorem Po.fits_ex : Po.Fits [2#32, 3#32, 1#32] := by
  have : Po.len1 [2#32, 3#32, 1#32] = 3 := by decide +kernel
  exact ⟨by omega, by omega⟩
theorem alive04 (K : RootsOk) (w : World) :
    Calls Try.prog 8 #[] w fun e w' => e = .returned (.bool true) ∧ Below w.heap.size w w' := by
  go_enter Try.func8, Try.ntmps8
  go_wp2_with (first
    | (go_at_call 13; refine (words_same va _ 2 vc 2 2 [1#32, 2#32] [1#32, 2#32] _ (hvw.past _) (words_lit w1 _ 37 rfl rfl (by omega)) rfl).mono ?_; rintro e w2 ⟨rfl, hd⟩; have hB2 := (hB1.alloc hB1.size _).trans (hd.below _))
    | (go_at_call 9; refine (K.all_ok (some ⟨w.heap.size, 0, none⟩) 3 3 [2#32, 3#32, 1#32] _ (words_lit w _ 37 rfl rfl (by omega)) (Nat.le_refl _) (fun e => by cases e) (by omega) Po.fits_ex).mono ?_; rintro e w1 ⟨⟨v, rfl, hv⟩, hb1⟩; rw [Po.rts_ex] at hv; obtain ⟨va, vc, rfl, hvc, hv0, hvw⟩ := fresh_shapeK (K := 2) hv rfl; have hB1 := ((Below.refl _ w).alloc (Nat.le_refl _) _).trans (hb1.mono (by simp))))
  go_ret
  exact ⟨rfl, hB2⟩
end Go.Proofs.Ytlackhjlnoefcaa
