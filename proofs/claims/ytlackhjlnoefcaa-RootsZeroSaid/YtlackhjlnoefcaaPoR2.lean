/- The reference's sums and products. -/
import Derived.Test.YtlackhjlnoefcaaPoR
namespace Go.Proofs.Ytlackhjlnoefcaa
open Go Go.RowKit
theorem mk_len1 (k : Nat) (F : Nat → BitVec 32) : (Po.mk k F).length = k := Po.mk_length k F
theorem OwnW.step {T : TypeId} {B : Nat} {w : World} {v : Value} {k : Nat} {F : Nat → BitVec 32} {x : BitVec 32} (h : OwnW T B w v (Po.mk k F ++ [x])) (hx : x = F k) : OwnW T B w v (Po.mk (k + 1) F) := by
  rw [Po.mk_succ, ← hx]; exact h
theorem OwnW.shape {T : TypeId} {B : Nat} {w : World} {v : Value} {k : Nat} {F : Nat → BitVec 32} (h : OwnW T B w v (Po.mk k F)) : ∃ a c, v = .slice a k c ∧ k ≤ c ∧ (a = none → c = 0) ∧ Words32 w a k (Po.mk k F) := by
  obtain ⟨a, c, rfl, h1, h2⟩ := h.fresh.slice
  have h3 := h.fresh.cap0
  rw [Po.mk_length] at h1 h2 ⊢
  exact ⟨a, c, rfl, h1, h3, h2⟩
set_option maxHeartbeats 1000000 in
theorem radd_any (a b : Option Addr) (n c m d : Nat) (la lb : List (BitVec 32)) (w : World) (ha : Words32 w a n la) (hb : Words32 w b m lb) (hs : n ≤ 274877906944) (hs2 : m ≤ 274877906944) :
    Calls Try.prog 40 #[.slice a n c, .slice b m d] w fun e w' => (∃ v l, e = .returned v ∧ Fresh 37 w.heap.size w' v l ∧ Po.Norm l (Po.addF (Po.cf la) (Po.cf lb))) ∧ Below w.heap.size w w' := by
  have hla := ha.1
  have hlb := hb.1
  obtain ⟨N, hN⟩ : ∃ N, N = max n m := ⟨_, rfl⟩
  have hF : ∀ i, N ≤ i → Po.addF (Po.cf la) (Po.cf lb) i = 0 := fun i hi => by
    show Po.cf la i ^^^ Po.cf lb i = 0
    rw [Po.cf_ge (by omega), Po.cf_ge (by omega)]; rfl
  have hnorm : Po.Norm (Po.trim (Po.mk N (Po.addF (Po.cf la) (Po.cf lb)))) (Po.addF (Po.cf la) (Po.cf lb)) := by
    have := Po.Norm.trim (Po.mk N (Po.addF (Po.cf la) (Po.cf lb)))
    rwa [Po.cf_mk_all hF] at this
  clear hF
  generalize hFd : Po.addF (Po.cf la) (Po.cf lb) = F at hnorm ⊢
  have HN := Lib.hid (And.intro hnorm hFd)
  clear hnorm hFd
  go_enter Try.func40, Try.ntmps40
  go_wp2
  go_loopw [5, 6] (fun x i wr => ∃ k : Nat, k ≤ N ∧ i = .int .i64 k ∧ OwnW 37 w.heap.size wr x (Po.mk k F) ∧ Below w.heap.size w wr) (fun _ i _ => N - (intOf i).toNat)
  case atStart => exact ⟨0, Nat.zero_le _, rfl, OwnW.nil _ _ _, Below.refl _ _⟩
  case round =>
    obtain ⟨k, hk, rfl, hown, hbw⟩ := hrel
    rename Value => xv
    have hlen := mk_len1 k F
    by_cases hlt : k < N
    · by_cases h1 : k < n
      all_goals
        (first | (have h1' : k < m := by omega) | skip)
        go_wp2_with (first
          | (go_at_call 59; with_reducible refine (coefficient_any a n c la k _ (ha.below hbw)).mono ?_; rintro e w1 ⟨rfl, rfl⟩)
          | (go_at_call 59; with_reducible refine (coefficient_any b m d lb k _ (hb.below hbw)).mono ?_; rintro e w1 ⟨rfl, rfl⟩)
          | (at_builtin; refine wpList_append_word rfl (.tmp 19) (.tmp 27) 22 rfl 37 Try.underlying22 info_word w.heap.size _ (Po.mk k F) rfl hown _ rfl (by rw [hlen]; omega) hbw.size ?_; intro v' w2 h2 h3))
        go_roundw
        case rel => exact ⟨k + 1, by omega, by go_num, h2.step (by rw [← HN.out.2]; rfl), below_own_row (hbw.alloc hbw.size _) h3 hown.lt⟩
        case measure => simp [intOf]; omega
    · obtain rfl : k = N := by omega
      obtain ⟨va, vc, rfl, hvc, hv0, hvw⟩ := hown.shape
      have h1 : ¬ k < n := by omega
      have h2 : ¬ k < m := by omega
      have hkb : k ≤ 549755813888 := by omega
      clear hN
      go_wp2_with (first
        | (go_at_call 14; refine (rtrim_any va k vc _ _ hvw hvc hv0 hkb).mono ?_; rintro e w2 ⟨⟨v, rfl, hv⟩, hb2⟩))
      go_ret
      exact ⟨⟨v, _, rfl, hv.low hbw.size, HN.out.1⟩, hbw.trans (hb2.mono hbw.size)⟩
end Go.Proofs.Ytlackhjlnoefcaa
