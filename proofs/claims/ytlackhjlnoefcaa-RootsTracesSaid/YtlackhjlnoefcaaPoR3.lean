/- The reference's products. -/
import Derived.Test.YtlackhjlnoefcaaPoR2
namespace Go.Proofs.Ytlackhjlnoefcaa
open Go Go.RowKit
set_option maxHeartbeats 1000000 in
theorem rscale_any (a : Option Addr) (n c p : Nat) (la : List (BitVec 32)) (x : BitVec 32) (w : World) (ha : Words32 w a n la) (hs : n ≤ 274877906944) (hs2 : p ≤ 274877906944) :
    Calls Try.prog 57 #[.slice a n c, .int .u32 (nb32 x), .int .i64 (p : Int)] w fun e w' => (∃ v l, e = .returned v ∧ Fresh 37 w.heap.size w' v l ∧ Po.Norm l (Po.Xn p (Po.sclF x (Po.cf la)))) ∧ Below w.heap.size w w' := by
  have hla := ha.1
  have hF : ∀ i, p + n ≤ i → Po.Xn p (Po.sclF x (Po.cf la)) i = 0 := fun i hi => by
    show (if p ≤ i then Gf.mul x (Po.cf la (i - p)) else 0) = 0
    rw [if_pos (by omega), Po.cf_ge (by omega), Gf.mul_zero]
  have hnorm : Po.Norm (Po.trim (Po.mk (p + n) (Po.Xn p (Po.sclF x (Po.cf la))))) (Po.Xn p (Po.sclF x (Po.cf la))) := by
    have := Po.Norm.trim (Po.mk (p + n) (Po.Xn p (Po.sclF x (Po.cf la))))
    rwa [Po.cf_mk_all hF] at this
  clear hF
  have hF0 : ∀ i, i < p → (0#32) = Po.Xn p (Po.sclF x (Po.cf la)) i := fun i hi => by
    show 0#32 = (if p ≤ i then Gf.mul x (Po.cf la (i - p)) else 0)
    rw [if_neg (by omega)]; rfl
  have hF1 : ∀ i, Gf.mul (Po.cf la i) x = Po.Xn p (Po.sclF x (Po.cf la)) (p + i) := fun i => by
    show _ = (if p ≤ p + i then Gf.mul x (Po.cf la (p + i - p)) else 0)
    rw [if_pos (by omega), Nat.add_sub_cancel_left, Gf.mul_comm]
  generalize Po.Xn p (Po.sclF x (Po.cf la)) = F at hnorm hF0 hF1 ⊢
  have HN := Lib.hid (And.intro hnorm (And.intro hF0 hF1))
  clear hnorm hF0 hF1
  go_enter Try.func57, Try.ntmps57
  go_wp2
  go_loopw [7, 8] (fun y i wr => ∃ k : Nat, k ≤ p ∧ i = .int .i64 k ∧ OwnW 37 w.heap.size wr y (Po.mk k F) ∧ Below w.heap.size w wr) (fun _ i _ => p - (intOf i).toNat)
  case atStart => exact ⟨0, Nat.zero_le _, rfl, OwnW.nil _ _ _, Below.refl _ _⟩
  case round =>
    obtain ⟨k, hk, rfl, hown, hbw⟩ := hrel
    rename Value => yv
    have hlen := mk_len1 k F
    by_cases hlt : k < p
    · go_wp2_with (first
        | (at_builtin; refine wpList_append_word rfl (.tmp 15) (.tmp 16) 22 rfl 37 Try.underlying22 info_word w.heap.size _ (Po.mk k F) rfl hown 0#32 rfl (by rw [hlen]; omega) hbw.size ?_; intro v' w2 h2 h3))
      go_roundw
      case rel => exact ⟨k + 1, by omega, by go_num, h2.step (HN.out.2.1 k hlt), below_own_row (hbw.alloc hbw.size _) h3 hown.lt⟩
      case measure => simp [intOf]; omega
    · obtain rfl : k = p := by omega
      go_wp2
      rename World => wA
      go_loopw [7, 9] (fun y i wr => ∃ j : Nat, j ≤ n ∧ i = .int .i64 j ∧ OwnW 37 w.heap.size wr y (Po.mk (k + j) F) ∧ Below w.heap.size w wr) (fun _ i _ => n - (intOf i).toNat)
      case atStart => exact ⟨0, Nat.zero_le _, rfl, hown, hbw⟩
      case round =>
        obtain ⟨j, hj, rfl, hown2, hbw2⟩ := hrel
        clear hown hlen
        rename Value => zv
        have hlen := mk_len1 (k + j) F
        by_cases hlt2 : j < n
        · obtain ⟨ad, rfl, hx⟩ := ha.2.2 j hlt2
          obtain ⟨z, hz⟩ : ∃ z, z = la.getD j 0 := ⟨_, rfl⟩
          rw [← hz] at hx
          have hcell := (hbw2.cell (isSome_lt (by rw [hx]; rfl))).trans hx
          have HZ := Lib.hid (show z = Po.cf la j from hz)
          clear hz hx
          go_wp2_with (first
            | (go_at_call 71; refine (rmul_any _ _ _).mono ?_; rintro e w1 ⟨rfl, rfl⟩)
            | (at_builtin; refine wpList_append_word rfl (.tmp 24) (.tmp 31) 22 rfl 37 Try.underlying22 info_word w.heap.size _ (Po.mk (k + j) F) rfl hown2 _ rfl (by rw [hlen]; omega) hbw2.size ?_; intro v' w2 h2 h3))
          go_roundw
          case rel => exact ⟨j + 1, by omega, by go_num, h2.step (by rw [HZ.out]; exact HN.out.2.2 j), below_own_row (hbw2.alloc hbw2.size _) h3 hown2.lt⟩
          case measure => simp [intOf]; omega
        · obtain rfl : j = n := by omega
          obtain ⟨va, vc, rfl, hvc, hv0, hvw⟩ := hown2.shape
          have hkb : k + j ≤ 549755813888 := by omega
          go_wp2_with (first
            | (go_at_call 14; refine (rtrim_any va (k + j) vc _ _ hvw hvc hv0 hkb).mono ?_; rintro e w2 ⟨⟨v, rfl, hv⟩, hb2⟩))
          go_ret
          exact ⟨⟨v, _, rfl, hv.low hbw2.size, HN.out.1⟩, hbw2.trans (hb2.mono hbw2.size)⟩
set_option maxHeartbeats 1000000 in
theorem rpmul_any (a b : Option Addr) (n c m d : Nat) (la lb : List (BitVec 32)) (w : World) (ha : Words32 w a n la) (hb : Words32 w b m lb) (hs : n ≤ 68719476736) (hs2 : m ≤ 68719476736) :
    Calls Try.prog 38 #[.slice a n c, .slice b m d] w fun e w' => (∃ v l, e = .returned v ∧ Fresh 37 w.heap.size w' v l ∧ Po.Norm l (Po.mulL la (Po.cf lb))) ∧ Below w.heap.size w w' := by
  have hla := ha.1
  have hlb := hb.1
  go_enter Try.func38, Try.ntmps38
  go_wp2
  go_loopw [5, 6] (fun y i wr => ∃ (k : Nat) (l : List (BitVec 32)), k ≤ n ∧ i = .int .i64 k ∧ Fresh 37 w.heap.size wr y l ∧ Po.Norm l (Po.mulL (la.take k) (Po.cf lb)) ∧ Below w.heap.size w wr) (fun _ i _ => n - (intOf i).toNat)
  case atStart => exact ⟨0, [], Nat.zero_le _, rfl, Fresh.nil _ _ _, ⟨rfl, Po.cf_nil⟩, Below.refl _ _⟩
  case round =>
    obtain ⟨k, l, hk, rfl, hf, hnm, hbw⟩ := hrel
    obtain ⟨va, vc, rfl, hvc, hvw⟩ := hf.slice
    have hv0 := hf.cap0
    have hll : l.length ≤ k + m := hnm.len fun i hi => Po.mulL_ge _ _ m (fun i hi => Po.cf_ge (by omega)) i (by rw [List.length_take]; omega)
    have HM := Lib.hid hnm
    clear hnm
    have hlb1 : l.length ≤ 274877906944 := by omega
    have hkb1 : k + m ≤ 274877906944 := by omega
    have hmb1 : m ≤ 274877906944 := by omega
    have hkb2 : k ≤ 274877906944 := by omega
    by_cases hlt : k < n
    · obtain ⟨ad, rfl, hx⟩ := ha.2.2 k hlt
      obtain ⟨z, hz⟩ : ∃ z, z = la.getD k 0 := ⟨_, rfl⟩
      rw [← hz] at hx
      have hcell := (hbw.cell (isSome_lt (by rw [hx]; rfl))).trans hx
      have HZ := Lib.hid (show z = Po.cf la k from hz)
      clear hz hx
      go_wp2_with (first
        | (go_at_call 57; refine (rscale_any b m d k lb z _ (hb.below hbw) hmb1 hkb2).mono ?_; rintro e w1 ⟨⟨u, lu, rfl, hu, hnu⟩, hb1⟩; obtain ⟨ua, uc, rfl, huc, huw⟩ := hu.slice
           have hlu : lu.length ≤ k + m := hnu.len fun i hi => by
             show (if k ≤ i then Gf.mul z (Po.cf lb (i - k)) else 0) = 0
             rw [if_pos (by omega), Po.cf_ge (by omega), Gf.mul_zero])
        | (go_at_call 40; refine (radd_any _ _ _ _ _ _ l lu _ (hvw.below hb1) huw hlb1 (Nat.le_trans hlu hkb1)).mono ?_; rintro e w2 ⟨⟨v2, l2, rfl, hv2, hn2⟩, hb2⟩))
      go_roundw
      case rel =>
        have hb12 := hbw.trans (hb1.mono hbw.size)
        refine ⟨k + 1, l2, by omega, by go_num, hv2.low hb12.size, ?_, hb12.trans (hb2.mono hb12.size)⟩
        rw [Po.mulL_take (by omega), ← HM.out.2, ← HZ.out, ← hnu.2]
        exact hn2
      case measure => simp [intOf]; omega
    · obtain rfl : k = n := by omega
      have hlb2 : l.length ≤ 549755813888 := by omega
      go_wp2_with (first
        | (go_at_call 14; refine (rtrim_any va l.length vc l _ hvw hvc hv0 hlb2).mono ?_; rintro e w2 ⟨⟨v, rfl, hv⟩, hb2⟩))
      go_ret
      have hnm := HM.out
      rw [List.take_of_length_le (by omega)] at hnm
      rw [hnm.1] at hv
      exact ⟨⟨v, _, rfl, hv.low hbw.size, hnm⟩, hbw.trans (hb2.mono hbw.size)⟩
end Go.Proofs.Ytlackhjlnoefcaa
