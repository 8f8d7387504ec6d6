/- package sketch: New, Read, Capacity, Bytes, Empty -/
import Derived.Test.YtamigcbodplmcaaSkF
namespace Go.Proofs.Ytamigcbodplmcaa
open Go Go.RowKit Go.ChangeShapes Go.WideShapes
theorem wcells_wlist (n : Nat) : wcells n (fun _ => 0#32) = (wlist (Po.mk n fun _ => 0)).toArray := by simp [wcells, cellsOf, wlist, Po.mk]
/-- what a header points to, boxed -/
theorem SkA.box {B ga K c : Nat} {w : World} {l : List (BitVec 32)} (h : OwnW 54 B w (.slice (some ⟨ga, 0, none⟩) K c) l) (hl : l.length = K) (hK : 1 ≤ K) (h40 : K ≤ 40) (hB : B ≤ w.heap.size) :
    SkA B (w.alloc (.cells #[.slice (some ⟨ga, 0, none⟩) K c] 57)) w.heap.size ga K c l :=
  ⟨hB, hl, Has.fresh _ _ _, h.below ((Below.refl _ w).alloc (Nat.le_refl _) _), hK, h40⟩
theorem own_head {T : TypeId} {B K : Nat} {w : World} {v : Value} {l : List (BitVec 32)} (h : OwnW T B w v l) (hl : l.length = K) (hK : 1 ≤ K) : ∃ ga c, v = .slice (some ⟨ga, 0, none⟩) K c := by
  obtain ⟨a, c, rfl, _⟩ := own_shape h hl
  obtain ⟨g, rfl, _⟩ := h.put (k := 0) hK
  exact ⟨g, c, rfl⟩
set_option maxRecDepth 100000 in
set_option maxHeartbeats 4000000 in
theorem new_ok (cap : Nat) (h1 : 1 ≤ cap) (h40 : cap ≤ 40) (a : Option Addr) (n d : Nat) (ids : List (BitVec 32)) (w : World) (hi : Words32 w a n ids) (h0 : ¬ (0 : BitVec 32) ∈ ids) :
    Calls Try.prog 8 #[.int .i64 (cap : Int), .slice a n d] w fun e w' => (∃ g ga c, e = .returned (.tuple #[.pointer (some ⟨g, 0, none⟩), .nilIface]) ∧ SkA w.heap.size w' g ga cap c (Sk.syn cap ids)) ∧ Below w.heap.size w w' := by
  have hmk := make_words cap (by omega) w
  have hHas := Has.fresh w 54 (wcells cap fun _ => 0#32)
  have hown := own_lit (B := w.heap.size) (l := Po.mk cap fun _ => 0) (Nat.le_refl _) hHas (wcells_wlist cap) (Po.mk_length _ _) (by omega)
  have hA := SkA.box hown (Po.mk_length _ _) h1 h40 (by simp)
  have hB1 : Below w.heap.size w (w.alloc (.cells (wcells cap fun _ => 0#32) 54)) := (Below.refl _ w).alloc (Nat.le_refl _) _
  have hB2 := hB1.alloc hB1.size (.cells #[.slice (some ⟨w.heap.size, 0, none⟩) cap cap] 57)
  have hi2 := (hi.past (.cells (wcells cap fun _ => 0#32) 54)).past (.cells #[.slice (some ⟨w.heap.size, 0, none⟩) cap cap] 57)
  have hne : 0 < n → ∀ x, a = some x → x.block ≠ w.heap.size := fun hn x e => by have := hi.block_lt hn e; omega
  have HS := Lib.hid (And.intro hne h0)
  clear hown hHas hB1 hne h0
  go_enter Try.func8, Try.ntmps8
  go_wp2_with fail
  have hsz : (w.alloc (.cells (wcells cap fun _ => 0#32) 54)).heap.size = w.heap.size + 1 := by simp
  rw [hsz] at hA
  generalize (w.alloc (.cells (wcells cap fun _ => 0#32) 54)).alloc (.cells #[.slice (some ⟨w.heap.size, 0, none⟩) cap cap] 57) = W2 at hA hB2 hi2 ⊢
  clear hmk hsz
  go_wp2_with (first
    | (go_at_call 25; refine (put_ok w.heap.size _ w.heap.size cap cap _ a n d ids _ hA hi2 HS.out.1 HS.out.2).mono ?_; rintro e w2 ⟨rfl, hs2, hg2⟩))
  go_ret2
  rw [Sk.addAll_syn] at hs2
  exact ⟨⟨_, _, _, rfl, hs2⟩, hB2.grown hg2 hB2.size (fun k e => by injection e with e; omega)⟩
set_option maxRecDepth 100000 in
set_option maxHeartbeats 4000000 in
theorem new_zero (cap : Nat) (h1 : 1 ≤ cap) (h40 : cap ≤ 40) (a : Option Addr) (n d : Nat) (ids : List (BitVec 32)) (w : World) (hi : Words32 w a n ids) (h0 : (0 : BitVec 32) ∈ ids) :
    Calls Try.prog 8 #[.int .i64 (cap : Int), .slice a n d] w fun e w' => e = .returned (.tuple #[.pointer none, errOf 1]) ∧ Below w.heap.size w w' := by
  have hmk := make_words cap (by omega) w
  have hB1 : Below w.heap.size w (w.alloc (.cells (wcells cap fun _ => 0#32) 54)) := (Below.refl _ w).alloc (Nat.le_refl _) _
  have hB2 := hB1.alloc hB1.size (.cells #[.slice (some ⟨w.heap.size, 0, none⟩) cap cap] 57)
  have hi2 := (hi.past (.cells (wcells cap fun _ => 0#32) 54)).past (.cells #[.slice (some ⟨w.heap.size, 0, none⟩) cap cap] 57)
  have HS := Lib.hid h0
  clear hB1 h0
  go_enter Try.func8, Try.ntmps8
  go_wp2_with fail
  generalize (w.alloc (.cells (wcells cap fun _ => 0#32) 54)).alloc (.cells #[.slice (some ⟨w.heap.size, 0, none⟩) cap cap] 57) = W2 at hB2 hi2 ⊢
  clear hmk
  go_wp2_with (first
    | (go_at_call 25; refine (put_no _ a n d ids _ hi2 HS.out).mono ?_; rintro e w2 ⟨rfl, rfl⟩))
  go_ret2
  exact ⟨rfl, hB2⟩
theorem new_no (z : Int) (hz : z < 1 ∨ 40 < z) (v : Value) (w : World) :
    Calls Try.prog 8 #[.int .i64 z, v] w fun e w' => e = .returned (.tuple #[.pointer none, errOf 1]) ∧ w = w' := by
  rcases hz with hz | hz
  · go_enter Try.func8, Try.ntmps8
    go_wp2
    go_ret2
    exact ⟨rfl, rfl⟩
  · have h1 : ¬ z < 1 := by omega
    go_enter Try.func8, Try.ntmps8
    go_wp2
    go_ret2
    exact ⟨rfl, rfl⟩
set_option maxRecDepth 100000 in
theorem sread_ok (a : Option Addr) (n c : Nat) (lb : List (BitVec 8)) (w : World) (h : Bytes8 w a n lb) (hnc : n ≤ c) (q : Nat) (hq : Hid (n = 4 * q)) (h1 : 1 ≤ q) (h40 : q ≤ 40) :
    Calls Try.prog 9 #[.slice a n c] w fun e w' => (∃ g ga d, e = .returned (.tuple #[.pointer (some ⟨g, 0, none⟩), .nilIface]) ∧ SkA w.heap.size w' g ga q d (sums8 lb)) ∧ Below w.heap.size w w' := by
  have hl := h.1
  have hqi : (n : Int).tdiv 4 = (q : Int) := by rw [show (n : Int).tdiv 4 = ((n / 4 : Nat) : Int) from rfl, hq.out]; omega
  have hqi2 : (n : Int) / 4 = (q : Int) := by have := hq.out; omega
  have hmi : (n : Int).tmod 4 = 0 := by rw [show (n : Int).tmod 4 = ((n % 4 : Nat) : Int) from rfl, hq.out]; omega
  have hmi2 : (n : Int) % 4 = 0 := by have := hq.out; omega
  have hn0 : ¬ (n : Int) = 0 := by have := hq.out; omega
  have hn0' : ¬ n = 0 := by have := hq.out; omega
  have hn1 : n ≤ 4000 := by have := hq.out; omega
  have hq40 : ¬ (40 : Int) < (q : Int) := by omega
  have hsl : (sums8 lb).length = q := by rw [sums8_length, hl, hq.out]; omega
  have HS := Lib.hid hsl
  clear hsl
  go_enter Try.func9, Try.ntmps9
  have h4 : Hid (n % 4 = 0) := Lib.hid (by have := hq.out; omega)
  go_wp2_with (first
    | (go_at_call 26; refine (read_any a n c lb _ h hnc h4 hn1).mono ?_; rintro e w2 ⟨⟨v, rfl, ho⟩, hb⟩; obtain ⟨ga, d, rfl⟩ := own_head ho HS.out h1))
  go_ret2
  exact ⟨⟨_, _, _, rfl, SkA.box ho HS.out h1 h40 hb.size⟩, hb.alloc hb.size _⟩
set_option maxRecDepth 100000 in
theorem sread_no (a : Option Addr) (n c : Nat) (w : World) (hmx : n ≤ 9223372036854775807) (hq : Hid (n = 0 ∨ n % 4 ≠ 0 ∨ 40 < n / 4)) :
    Calls Try.prog 9 #[.slice a n c] w fun e w' => e = .returned (.tuple #[.pointer none, errOf 2]) ∧ w = w' := by
  by_cases h0 : n = 0
  · subst h0
    go_enter Try.func9, Try.ntmps9
    go_wp2
    go_ret2
    exact ⟨rfl, rfl⟩
  · have hn0 : ¬ (n : Int) = 0 := by omega
    obtain ⟨q, hqe⟩ : ∃ q, n / 4 = q := ⟨_, rfl⟩
    have hqi : (n : Int).tdiv 4 = (q : Int) := by rw [show (n : Int).tdiv 4 = ((n / 4 : Nat) : Int) from rfl, hqe]
    have hqi2 : (n : Int) / 4 = (q : Int) := by omega
    obtain ⟨m, hme⟩ : ∃ m, n % 4 = m := ⟨_, rfl⟩
    have hmi : (n : Int).tmod 4 = (m : Int) := by rw [show (n : Int).tmod 4 = ((n % 4 : Nat) : Int) from rfl, hme]
    have hmi2 : (n : Int) % 4 = (m : Int) := by omega
    by_cases hm : m = 0
    · have hq40 : (40 : Int) < (q : Int) := by have := hq.out; omega
      have hm0 : (m : Int) = 0 := by omega
      have HH := Lib.hid (And.intro hqe hme)
      clear hqe hme
      subst hm
      go_enter Try.func9, Try.ntmps9
      go_wp2
      go_ret2
      exact ⟨rfl, rfl⟩
    · have hm0 : ¬ (m : Int) = 0 := by omega
      have HH := Lib.hid (And.intro hqe hme)
      clear hqe hme
      go_enter Try.func9, Try.ntmps9
      go_wp2
      go_ret2
      exact ⟨rfl, rfl⟩
theorem sbytes_any (B g ga K c : Nat) (l : List (BitVec 32)) (w : World) (h : SkA B w g ga K c l) :
    Calls Try.prog 14 #[.pointer (some ⟨g, 0, none⟩)] w fun e w' => (∃ v, e = .returned v ∧ OwnB 5 w.heap.size w' v (bytes8 l)) ∧ Below w.heap.size w w' := by
  have hc := h.hcell
  have hw := h.words
  have h40 := h.top
  go_enter Try.func14, Try.ntmps14
  go_wp2_with (first
    | (go_at_call 28; refine (written_any _ K c l _ hw (by omega)).mono ?_; rintro e w2 ⟨⟨v, rfl, ho⟩, hb⟩))
  go_ret
  exact ⟨⟨_, rfl, ho⟩, hb⟩
theorem sbytes_nil (w : World) :
    Calls Try.prog 14 #[.pointer none] w fun e w' => e = .returned (.slice none 0 0) ∧ w = w' := by
  go_enter Try.func14, Try.ntmps14
  go_wp2
  go_ret
  exact ⟨rfl, rfl⟩
end Go.Proofs.Ytamigcbodplmcaa
