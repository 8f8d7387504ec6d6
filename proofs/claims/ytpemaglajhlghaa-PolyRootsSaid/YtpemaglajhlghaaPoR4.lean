/- The reference's values, derivatives, division. -/
import Derived.Test.YtpemaglajhlghaaPoR3
namespace Go.Proofs.Ytpemaglajhlghaa
open Go Go.RowKit
set_option maxHeartbeats 1000000 in
theorem rderived_any (a : Option Addr) (n c : Nat) (la : List (BitVec 32)) (w : World) (ha : Words32 w a n la) (hs : n ≤ 274877906944) :
    Calls Try.prog 21 #[.slice a n c] w fun e w' => (∃ v l, e = .returned v ∧ Fresh 23 w.heap.size w' v l ∧ Po.Norm l (Po.dvF (Po.cf la))) ∧ Below w.heap.size w w' := by
  have hla := ha.1
  have hF : ∀ i, n - 1 ≤ i → Po.dvF (Po.cf la) i = 0 := fun i hi => by
    unfold Po.dvF
    split
    · exact Po.cf_ge (by omega)
    · rfl
  have hnorm : Po.Norm (Po.trim (Po.mk (n - 1) (Po.dvF (Po.cf la)))) (Po.dvF (Po.cf la)) := by
    have := Po.Norm.trim (Po.mk (n - 1) (Po.dvF (Po.cf la)))
    rwa [Po.cf_mk_all hF] at this
  have hF0 : ∀ i, i % 2 = 0 → Po.cf la (i + 1) = Po.dvF (Po.cf la) i := fun i hi => by rw [Po.dvF, if_pos hi]
  have hF1 : ∀ i, ¬ i % 2 = 0 → 0#32 = Po.dvF (Po.cf la) i := fun i hi => by rw [Po.dvF, if_neg hi]; rfl
  clear hF
  generalize Po.dvF (Po.cf la) = F at hnorm hF0 hF1 ⊢
  have HN := Lib.hid (And.intro hnorm (And.intro hF0 hF1))
  clear hnorm hF0 hF1
  go_enter Try.func21, Try.ntmps21
  go_wp2
  go_loopw [3, 4] (fun y i wr => ∃ k : Nat, k ≤ n - 1 ∧ i = .int .i64 ((k + 1 : Nat) : Int) ∧ OwnW 23 w.heap.size wr y (Po.mk k F) ∧ Below w.heap.size w wr) (fun _ i _ => n - (intOf i).toNat)
  case atStart => exact ⟨0, Nat.zero_le _, rfl, OwnW.nil _ _ _, Below.refl _ _⟩
  case round =>
    obtain ⟨k, hk, rfl, hown, hbw⟩ := hrel
    rename Value => yv
    have hlen := mk_len1 k F
    have hlb : (Po.mk k F).length + 1 ≤ 1099511627776 := by omega
    by_cases hlt : k + 1 < n
    · by_cases hev : k % 2 = 0
      · obtain ⟨ad, rfl, hx⟩ := ha.2.2 (k + 1) hlt
        obtain ⟨z, hz⟩ : ∃ z, z = la.getD (k + 1) 0 := ⟨_, rfl⟩
        rw [← hz] at hx
        have hcell := (hbw.cell (isSome_lt (by rw [hx]; rfl))).trans hx
        have HZ := Lib.hid (show z = F k from hz.trans (HN.out.2.1 k hev))
        clear hz hx
        have ht : (((k + 1 : Nat) : Int) % 2 == 1) = true := by rw [beq_iff_eq]; omega
        obtain ⟨K, hK⟩ : ∃ K, K = k + 1 := ⟨_, rfl⟩
        rw [← hK] at hcell ht hlt ⊢
        have HK := Lib.hid hK
        clear hK
        go_wp2_with (first
          | (at_builtin; refine wpList_append_word rfl (.tmp 14) (.tmp 19) 22 rfl 23 Try.underlying22 info_word w.heap.size _ (Po.mk k F) rfl hown z rfl hlb hbw.size ?_; intro v' w2 h2 h3))
        go_roundw
        case rel => exact ⟨k + 1, by have := HK.out; omega, by rw [HK.out]; go_num, h2.step HZ.out, below_own_row (hbw.alloc hbw.size _) h3 hown.lt⟩
        case measure => simp [intOf]; omega
      · have ht : (((k + 1 : Nat) : Int) % 2 == 1) = false := by rw [beq_eq_false_iff_ne]; omega
        obtain ⟨K, hK⟩ : ∃ K, K = k + 1 := ⟨_, rfl⟩
        rw [← hK] at ht hlt ⊢
        have HK := Lib.hid hK
        clear hK
        go_wp2_with (first
          | (at_builtin; refine wpList_append_word rfl (.tmp 21) (.tmp 22) 22 rfl 23 Try.underlying22 info_word w.heap.size _ (Po.mk k F) rfl hown 0#32 rfl hlb hbw.size ?_; intro v' w2 h2 h3))
        go_roundw
        case rel => exact ⟨k + 1, by have := HK.out; omega, by rw [HK.out]; go_num, h2.step (HN.out.2.2 k hev), below_own_row (hbw.alloc hbw.size _) h3 hown.lt⟩
        case measure => simp [intOf]; omega
    · obtain rfl : k = n - 1 := by omega
      obtain ⟨va, vc, rfl, hvc, hv0, hvw⟩ := hown.shape
      have hkb : n - 1 ≤ 549755813888 := by omega
      have hex : ¬ (((n - 1 + 1 : Nat) : Int) < (n : Int)) := by omega
      obtain ⟨K, hK⟩ : ∃ K, K = n - 1 + 1 := ⟨_, rfl⟩
      rw [← hK] at hex ⊢
      clear hK
      go_wp2_with (first
        | (go_at_call 23; refine (rtrim_any va (n - 1) vc _ _ hvw hvc hv0 hkb).mono ?_; rintro e w2 ⟨⟨v, rfl, hv⟩, hb2⟩))
      go_ret
      exact ⟨⟨v, _, rfl, hv.low hbw.size, HN.out.1⟩, hbw.trans (hb2.mono hbw.size)⟩
set_option maxHeartbeats 1000000 in
theorem rat_any (a : Option Addr) (n c : Nat) (la : List (BitVec 32)) (x : BitVec 32) (w : World) (ha : Words32 w a n la) (hs : n ≤ 274877906944) :
    Calls Try.prog 19 #[.slice a n c, .int .u32 (nb32 x)] w fun e w' => e = .returned (.int .u32 (nb32 (Po.ev la x))) ∧ Drawn w w' := by
  have hla := ha.1
  go_enter Try.func19, Try.ntmps19
  go_wp2
  go_loopw [5, 6] (fun y i wr => ∃ k : Nat, k ≤ n ∧ i = .int .i64 k ∧ y = .int .u32 (nb32 (Po.ev (la.take k) x)) ∧ Drawn w wr) (fun _ i _ => n - (intOf i).toNat)
  case atStart => exact ⟨0, Nat.zero_le _, rfl, rfl, Drawn.refl _⟩
  case round =>
    obtain ⟨k, hk, rfl, rfl, hd⟩ := hrel
    by_cases hlt : k < n
    · obtain ⟨ad, rfl, hx⟩ := ha.2.2 k hlt
      obtain ⟨z, hz⟩ : ∃ z, z = la.getD k 0 := ⟨_, rfl⟩
      rw [← hz] at hx
      have hcell := ((hd.below w.heap.size).cell (isSome_lt (by rw [hx]; rfl))).trans hx
      have hst : Po.ev (la.take k) x ^^^ Gf.mul z (Gf.pow x k) = Po.ev (la.take (k + 1)) x := by
        rw [Po.ev_take (by omega), show z = Po.cf la k from hz]
      have HS := Lib.hid hst
      clear hst hz hx
      generalize Po.ev (la.take k) x = s at HS ⊢
      have h0 : (0 : Int) ≤ (k : Int) := by omega
      have h1 : (k : Int) < (n : Int) := by omega
      have hpw : (BitVec.ofNat 64 k).toNat = k := by rw [BitVec.toNat_ofNat]; omega
      have hcv : IntKind.u64.wrap (k : Int) = nb64 (BitVec.ofNat 64 k) := by
        rw [IntWalk.u64_in _ (by omega)]
        unfold nb64
        rw [hpw]
      have HP := Lib.hid hpw
      clear hpw
      go_wp2_with fail
      go_quiet (first
        | (go_at_call 44; exact Calls.quiet_of_same ((rpow x (BitVec.ofNat 64 k) _).mono fun e w' h => ⟨h.1, h.2.symm⟩))
        | (go_at_call 40; exact Calls.quiet_of_same ((rmul_any z _ _).mono fun e w' h => ⟨h.1, h.2.symm⟩)))
      go_wp2
      go_roundw
      case rel => exact ⟨k + 1, by omega, by go_num, by rw [← HS.out, powQ, HP.out], hd.draws _⟩
      case measure => simp [intOf]; omega
    · obtain rfl : k = n := by omega
      go_wp2
      go_ret
      rw [List.take_of_length_le (by omega)]
      exact ⟨rfl, hd⟩
end Go.Proofs.Ytpemaglajhlghaa
