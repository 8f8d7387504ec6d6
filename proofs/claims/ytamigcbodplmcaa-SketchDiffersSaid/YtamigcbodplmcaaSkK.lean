/- the reference's Bytes and Sums -/
import Derived.Test.YtamigcbodplmcaaSkM
import Derived.Test.YtamigcbodplmcaaSt
import Derived.OwnWalk
namespace Go.Proofs.Ytamigcbodplmcaa
open Go Go.RowKit Go.ChangeShapes Go.WideShapes
set_option maxRecDepth 100000 in
set_option maxHeartbeats 4000000 in
theorem rbytes5_any (a : Option Addr) (n c : Nat) (l : List (BitVec 32)) (w : World) (h : Words32 w a n l) (hn : n ≤ 1000) :
    Calls Try.prog 18 #[.slice a n c] w fun e w' => (∃ v, e = .returned v ∧ OwnB 5 w.heap.size w' v (bytes8 l)) ∧ Below w.heap.size w w' := by
  have hl := h.1
  go_enter Try.func18, Try.ntmps18
  go_wp2
  go_loopw [3, 4] (fun vo iv wr => ∃ i : Nat, i ≤ n ∧ iv = .int .i64 i ∧ OwnB 5 w.heap.size wr vo (bytes8 (l.take i)) ∧ Below w.heap.size w wr) (fun _ iv _ => n - (intOf iv).toNat)
  case atStart => exact ⟨0, Nat.zero_le _, rfl, OwnB.nil _ _ _, Below.refl _ _⟩
  case round =>
    obtain ⟨i, hi, rfl, ho, hb⟩ := hrel
    by_cases hlt : i < n
    · obtain ⟨ad, rfl, hx⟩ := h.2.2 i hlt
      have hlt0 := isSome_lt (w := w) (p := ad.add i) (by rw [hx]; rfl)
      have hx2 := (hb.cell hlt0).trans hx
      obtain ⟨x, hxe⟩ : ∃ x, x = l.getD i 0 := ⟨_, rfl⟩
      rw [← hxe] at hx2
      have HX : RowKit.Hid (bytes8 (l.take (i + 1)) = bytes8 (l.take i) ++ by4 x) := Lib.hid (by rw [hxe]; exact bytes8_snoc (by omega))
      have hle : (bytes8 (l.take i)).length + 4 ≤ 1099511627776 := by rw [bytes8_length, List.length_take]; omega
      have hcs : #[.int .u8 (nb8 ((x % 256#32).setWidth 8)), .int .u8 (nb8 ((x / 256#32 % 256#32).setWidth 8)), .int .u8 (nb8 ((x / 65536#32 % 256#32).setWidth 8)), .int .u8 (nb8 ((x / 16777216#32).setWidth 8))] = (blist (by4 x)).toArray := by rw [by4_div]; rfl
      have hbD := hb.drew
      have hoD : OwnB 5 w.heap.size wr.drew u3 (bytes8 (l.take i)) := ho
      have hi0 : (0 : Int) ≤ (i : Int) := by omega
      have hin : (i : Int) < (n : Int) := by omega
      have hK : ∀ o w2, (wr.drew.alloc o).grownBy w2 u3.ownBlock → w2.cell? (ad.add i) = some (.int .u32 (nb32 x)) := fun o w2 hg =>
        ((below_own_row (hbD.alloc hbD.size o) hg ho.lt).cell hlt0).trans (by rw [hx, hxe])
      have HCS := Lib.hid hcs
      have HK := Lib.hid hK
      clear hxe hcs hK hx
      go_wp2_with fail
      go_region_held3 (fun w' => w'.cell? (ad.add i) = some (.int .u32 (nb32 x))) (first | (exact HK.out _ _ (by assumption)) | go_keep)
        ((refine step_append_lit rfl (.tmp 11) (.tmp 38) 23 rfl 5 Try.underlying23 info_byte w.heap.size u3 (bytes8 (l.take i)) (by simp [Act.eval]) hoD 4 (by4 x) rfl _ HCS.out _ rfl (by simp [Act.eval]) hle hbD.size ?_; intro v' w2 h2 h3))
      all_goals
        (go_wp2
         go_roundw
         case rel => exact ⟨i + 1, by omega, by go_num, by rw [HX.out]; exact h2, below_own_row (hbD.alloc hbD.size _) h3 ho.lt⟩
         case measure => (simp [intOf]; try omega))
    · have hii : ¬ (i : Int) < (n : Int) := by omega
      have hti : l.take i = l := List.take_of_length_le (by omega)
      rw [hti] at ho
      clear hti
      go_wp2
      go_ret
      exact ⟨⟨_, rfl, ho⟩, hb⟩
theorem rsums5_no (a : Option Addr) (n c : Nat) (w : World) (hd : Hid (n % 4 ≠ 0)) :
    Calls Try.prog 11 #[.slice a n c] w fun e w' => e = .returned (.tuple #[.slice none 0 0, .bool false]) ∧ w = w' := by
  obtain ⟨m, hme⟩ : ∃ m, n % 4 = m := ⟨_, rfl⟩
  have hmi : (n : Int).tmod 4 = (m : Int) := by rw [show (n : Int).tmod 4 = ((n % 4 : Nat) : Int) from rfl, hme]
  have hmi2 : (n : Int) % 4 = (m : Int) := by omega
  have hm0 : ¬ (m : Int) = 0 := by have := hd.out; omega
  have hm1 : ¬ m = 0 := by have := hd.out; omega
  have HM := Lib.hid hme
  clear hme
  go_enter Try.func11, Try.ntmps11
  go_wp2
  go_ret2
  exact ⟨rfl, rfl⟩
set_option maxRecDepth 100000 in
set_option maxHeartbeats 4000000 in
theorem rsums5_ok (a : Option Addr) (n c : Nat) (lb : List (BitVec 8)) (w : World) (h : Bytes8 w a n lb) (hd : Hid (n % 4 = 0)) (hn : n ≤ 4000) :
    Calls Try.prog 11 #[.slice a n c] w fun e w' => (∃ v, e = .returned (.tuple #[v, .bool true]) ∧ OwnW 54 w.heap.size w' v (sums8 lb)) ∧ Below w.heap.size w w' := by
  have hl := h.1
  have hmi : (n : Int).tmod 4 = 0 := by rw [show (n : Int).tmod 4 = ((n % 4 : Nat) : Int) from rfl, hd.out]; rfl
  have hmi2 : (n : Int) % 4 = 0 := by have := hd.out; omega
  obtain ⟨F, hF⟩ : ∃ F : Nat → BitVec 32, F = fun k => un4 (cb lb (4 * k)) (cb lb (4 * k + 1)) (cb lb (4 * k + 2)) (cb lb (4 * k + 3)) := ⟨_, rfl⟩
  have hfin : sums8 lb = Po.mk (n / 4) F := by rw [hF, ← hl]; rfl
  have HF := Lib.hid (And.intro hF hfin)
  clear hF hfin
  go_enter Try.func11, Try.ntmps11
  go_wp2
  go_loopw [4, 5] (fun vo iv wr => ∃ p : Nat, p ≤ n ∧ Hid (p % 4 = 0) ∧ iv = .int .i64 p ∧ OwnW 54 w.heap.size wr vo (Po.mk (p / 4) F) ∧ Below w.heap.size w wr) (fun _ iv _ => n - (intOf iv).toNat)
  case atStart => exact ⟨0, Nat.zero_le _, Lib.hid rfl, rfl, by rw [Nat.zero_div]; exact OwnW.nil _ _ _, Below.refl _ _⟩
  case round =>
    obtain ⟨p, hp, hp4, rfl, ho, hb⟩ := hrel
    by_cases hlt : p < n
    · have hp5 : p + 4 ≤ n := by have := hd.out; have := hp4.out; omega
      obtain ⟨ad, ha, _⟩ := h.2.2 p hlt
      subst ha
      have hby : ∀ j, j < 4 → w.cell? (ad.add (p + j)) = some (.int .u8 (nb8 (cb lb (p + j)))) := fun j hj => by
        obtain ⟨_, e, hc⟩ := h.2.2 (p + j) (by omega)
        injection e with e
        subst e
        exact hc
      have hbl : ∀ j, j < 4 → (ad.add (p + j)).block < w.heap.size := fun j hj => isSome_lt (w := w) (by rw [hby j hj]; rfl)
      have hbc : ∀ w2, Below w.heap.size w w2 → ∀ j, j < 4 → w2.cell? (ad.add (p + j)) = some (.int .u8 (nb8 (cb lb (p + j)))) := fun w2 h2 j hj => (h2.cell (hbl j hj)).trans (hby j hj)
      obtain ⟨p1, hp1⟩ : ∃ p1, p1 = p + 1 := ⟨_, rfl⟩
      obtain ⟨p2, hp2⟩ : ∃ p2, p2 = p + 2 := ⟨_, rfl⟩
      obtain ⟨p3, hp3⟩ : ∃ p3, p3 = p + 3 := ⟨_, rfl⟩
      obtain ⟨k, hk⟩ : ∃ k, k = p / 4 := ⟨_, rfl⟩
      have hx4 : p = 4 * k := by have := hp4.out; omega
      obtain ⟨b0, hb0⟩ : ∃ b, b = cb lb p := ⟨_, rfl⟩
      obtain ⟨b1, hb1⟩ : ∃ b, b = cb lb (p + 1) := ⟨_, rfl⟩
      obtain ⟨b2, hb2'⟩ : ∃ b, b = cb lb (p + 2) := ⟨_, rfl⟩
      obtain ⟨b3, hb3⟩ : ∃ b, b = cb lb (p + 3) := ⟨_, rfl⟩
      have hval : un4 b0 b1 b2 b3 = F k := by rw [HF.out.1, hb0, hb1, hb2', hb3, hx4]
      have hall : ∀ w2, Below w.heap.size w w2 → w2.cell? (ad.add p) = some (.int .u8 (nb8 b0)) ∧ w2.cell? (ad.add p1) = some (.int .u8 (nb8 b1)) ∧ w2.cell? (ad.add p2) = some (.int .u8 (nb8 b2)) ∧ w2.cell? (ad.add p3) = some (.int .u8 (nb8 b3)) := fun w2 h2 =>
        ⟨by rw [hb0]; exact hbc w2 h2 0 (by omega), by rw [hb1, hp1]; exact hbc w2 h2 1 (by omega), by rw [hb2', hp2]; exact hbc w2 h2 2 (by omega), by rw [hb3, hp3]; exact hbc w2 h2 3 (by omega)⟩
      obtain ⟨hc0, hc1, hc2, hc3⟩ := hall wr hb
      have hk1 : (p + 4) / 4 = k + 1 := by omega
      rw [← hk] at ho
      have hsum : b0.setWidth 32 + 256#32 * b1.setWidth 32 + 65536#32 * b2.setWidth 32 + 16777216#32 * b3.setWidth 32 = un4 b0 b1 b2 b3 := un4_add b0 b1 b2 b3
      have hkq : k ≤ 1000 := by omega
      have hlen : (Po.mk k F).length + 1 ≤ 1099511627776 := by rw [Po.mk_length]; omega
      have hbD := hb.drew
      have hoD : OwnW 54 w.heap.size wr.drew u4 (Po.mk k F) := ho
      have hK : ∀ o w2, (wr.drew.alloc o).grownBy w2 u4.ownBlock → w2.cell? (ad.add p) = some (.int .u8 (nb8 b0)) ∧ w2.cell? (ad.add p1) = some (.int .u8 (nb8 b1)) ∧ w2.cell? (ad.add p2) = some (.int .u8 (nb8 b2)) ∧ w2.cell? (ad.add p3) = some (.int .u8 (nb8 b3)) := fun o w2 hg =>
        hall w2 (below_own_row (hbD.alloc hbD.size o) hg ho.lt)
      have hA : ∀ o, (wr.drew.alloc o).cell? (ad.add p) = some (.int .u8 (nb8 b0)) ∧ (wr.drew.alloc o).cell? (ad.add p1) = some (.int .u8 (nb8 b1)) ∧ (wr.drew.alloc o).cell? (ad.add p2) = some (.int .u8 (nb8 b2)) ∧ (wr.drew.alloc o).cell? (ad.add p3) = some (.int .u8 (nb8 b3)) := fun o => hall _ (hbD.alloc hbD.size o)
      have HK := Lib.hid (And.intro hK (And.intro hval (And.intro hk1 (And.intro hsum hA))))
      have hw1 : IntKind.i64.wrap (p1 : Int) = (p1 : Int) := IntWalk.i64_in _ (by omega)
      have hv1 : (p : Int) + 1 = (p1 : Int) := by omega
      have hw2 : IntKind.i64.wrap (p2 : Int) = (p2 : Int) := IntWalk.i64_in _ (by omega)
      have hv2 : (p : Int) + 2 = (p2 : Int) := by omega
      have hw3 : IntKind.i64.wrap (p3 : Int) = (p3 : Int) := IntWalk.i64_in _ (by omega)
      have hv3 : (p : Int) + 3 = (p3 : Int) := by omega
      have hi0 : (0 : Int) ≤ (p : Int) := by omega
      have hi1 : (0 : Int) ≤ (p1 : Int) := by omega
      have hi2 : (0 : Int) ≤ (p2 : Int) := by omega
      have hi3 : (0 : Int) ≤ (p3 : Int) := by omega
      have hin : (p : Int) < (n : Int) := by omega
      have hin1 : (p1 : Int) < (n : Int) := by omega
      have hin2 : (p2 : Int) < (n : Int) := by omega
      have hin3 : (p3 : Int) < (n : Int) := by omega
      have hpn1 : p1 < n := by omega
      have hpn2 : p2 < n := by omega
      have hpn3 : p3 < n := by omega
      clear hp1 hp2 hp3 hby hbl hbc hb0 hb1 hb2' hb3 hval hk1 hx4 hk hsum hK hA hall
      go_wp2_with fail
      go_region_held3 (fun w' => w'.cell? (ad.add p) = some (.int .u8 (nb8 b0)) ∧ w'.cell? (ad.add p1) = some (.int .u8 (nb8 b1)) ∧ w'.cell? (ad.add p2) = some (.int .u8 (nb8 b2)) ∧ w'.cell? (ad.add p3) = some (.int .u8 (nb8 b3))) (first | (exact HK.out.1 _ _ (by assumption)) | (exact HK.out.2.2.2.2 _) | (exact ⟨hc0, hc1, hc2, hc3⟩) | go_keep)
        ((refine step_append_wd rfl (.tmp 17) (.tmp 47) 22 rfl 54 Try.underlying22 info_word w.heap.size u4 (Po.mk k F) (by simp [Act.eval]) hoD (b0.setWidth 32 + 256#32 * b1.setWidth 32 + 65536#32 * b2.setWidth 32 + 16777216#32 * b3.setWidth 32) _ rfl (by simp [Act.eval]) hlen hbD.size ?_; intro v' w2 h2 h3))
      all_goals
        (go_wp2
         go_roundw
         case rel => exact ⟨p + 4, by omega, Lib.hid (by have := hp4.out; omega), by go_num, by rw [HK.out.2.2.1]; exact own_snoc h2 (by rw [HK.out.2.2.2.1]; exact HK.out.2.1), below_own_row (hbD.alloc hbD.size _) h3 ho.lt⟩
         case measure => (simp [intOf]; try omega))
    · obtain rfl : p = n := by omega
      have hw3 : IntKind.i64.wrap ((p : Int) + 3) = (p : Int) + 3 := IntWalk.i64_in _ (by omega)
      have hii : ¬ (p : Int) + 3 < (p : Int) := by omega
      rw [← HF.out.2] at ho
      go_wp2
      go_ret2
      exact ⟨⟨_, rfl, ho⟩, hb⟩
end Go.Proofs.Ytamigcbodplmcaa
