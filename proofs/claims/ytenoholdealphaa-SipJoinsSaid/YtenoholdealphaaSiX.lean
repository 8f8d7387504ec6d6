/- package sip: the words of a chunk; begun, take, end, word -/
import Derived.Test.YtenoholdealphaaSiW
namespace Go.Proofs.Ytenoholdealphaa
open Go Go.RowKit Go.ChangeShapes Go.WideShapes
namespace Si
/-- the first k bytes at p, low byte first, as a number -/
def lsum (l : List (BitVec 8)) (p : Nat) : Nat → Nat
  | 0 => 0
  | k + 1 => 2 ^ (8 * k) * (cb l (p + k)).toNat + lsum l p k
/-- the same, as the code has it -/
def wlo (l : List (BitVec 8)) (p : Nat) : Nat → BitVec 64
  | 0 => 0
  | k + 1 => wlo l p k ||| (cb l (p + k)).setWidth 64 <<< (8 * k)
theorem lsum_lt (l : List (BitVec 8)) (p : Nat) : ∀ k, lsum l p k < 2 ^ (8 * k)
  | 0 => by simp [lsum]
  | k + 1 => by
    have h := lsum_lt l p k
    have hb := (cb l (p + k)).isLt
    have e : 2 ^ (8 * (k + 1)) = 2 ^ (8 * k) * 256 := by rw [show 8 * (k + 1) = 8 * k + 8 by omega, Nat.pow_add]
    have h2 : 2 ^ (8 * k) * (cb l (p + k)).toNat ≤ 2 ^ (8 * k) * 255 := Nat.mul_le_mul_left _ (by omega)
    show 2 ^ (8 * k) * (cb l (p + k)).toNat + lsum l p k < _
    rw [e]
    omega
theorem pow_le_64 {k : Nat} (hk : k ≤ 8) : 2 ^ (8 * k) ≤ 18446744073709551616 := Nat.le_trans (Nat.pow_le_pow_right (by omega) (show 8 * k ≤ 64 by omega)) (by decide)
theorem wlo_eq (l : List (BitVec 8)) (p : Nat) : ∀ k, k ≤ 8 → (wlo l p k).toNat = lsum l p k
  | 0, _ => rfl
  | k + 1, hk => by
    have h := lsum_lt l p k
    have h1 := lsum_lt l p (k + 1)
    have h2 := pow_le_64 hk
    have e1 : lsum l p (k + 1) = 2 ^ (8 * k) * (cb l (p + k)).toNat + lsum l p k := rfl
    show (wlo l p k ||| (cb l (p + k)).setWidth 64 <<< (8 * k)).toNat = _
    rw [BitVec.toNat_or, wlo_eq l p k (by omega), BitVec.toNat_shiftLeft, BitVec.toNat_setWidth, Nat.shiftLeft_eq, Nat.mod_eq_of_lt (a := (cb l (p + k)).toNat) (by have := (cb l (p + k)).isLt; omega), Nat.mul_comm (cb l (p + k)).toNat, Nat.mod_eq_of_lt (by omega), e1, Nat.or_comm]
    exact (Nat.two_pow_add_eq_or_of_lt h _).symm
theorem word_toNat (l : List (BitVec 8)) (p : Nat) : (word l p).toNat = lsum l p 8 := by
  have h : word l p = BitVec.ofNat 64 (lsum l p 8) := by
    simp only [word, wdn, lsum, Nat.reduceSub]
    apply BitVec.eq_of_toNat_eq
    simp only [BitVec.toNat_add, BitVec.toNat_mul, BitVec.toNat_setWidth, BitVec.toNat_ofNat]
    omega
  rw [h, BitVec.toNat_ofNat]
  exact Nat.mod_eq_of_lt (Nat.lt_of_lt_of_le (lsum_lt l p 8) (pow_le_64 (Nat.le_refl 8)))
theorem wlo_whole {l : List (BitVec 8)} {p : Nat} (h : p + 8 ≤ l.length) : wlo l p 8 = msg l p := by
  unfold msg
  rw [if_neg (by omega)]
  apply BitVec.eq_of_toNat_eq
  rw [wlo_eq l p 8 (Nat.le_refl _), word_toNat]
theorem lsum_out {l : List (BitVec 8)} {p : Nat} : ∀ k r, l.length ≤ p + r → lsum l p (r + k) = lsum l p r
  | 0, _, _ => rfl
  | k + 1, r, h => by
    rw [← Nat.add_assoc]
    show 2 ^ (8 * (r + k)) * (cb l (p + (r + k))).toNat + lsum l p (r + k) = _
    rw [cb_out (by omega), lsum_out k r h]
    simp
theorem wlo_last {l : List (BitVec 8)} {p r n : Nat} (hn : l.length = n) (hr : n = p + r) (h8 : r < 8) : wlo l p r ||| BitVec.ofNat 64 n <<< 56 = msg l p := by
  unfold msg
  rw [if_pos (by omega)]
  have h := lsum_lt l p r
  have h7 : 2 ^ (8 * r) ≤ 2 ^ 56 := Nat.pow_le_pow_right (by omega) (by omega)
  have e8 : lsum l p 8 = lsum l p r := by
    have := lsum_out (l := l) (p := p) (8 - r) r (by omega)
    rwa [show r + (8 - r) = 8 by omega] at this
  apply BitVec.eq_of_toNat_eq
  rw [BitVec.toNat_or, wlo_eq l p r (by omega), BitVec.toNat_shiftLeft, BitVec.toNat_ofNat, Nat.shiftLeft_eq, BitVec.toNat_add, word_toNat, e8, BitVec.toNat_mul, BitVec.toNat_ofNat, BitVec.toNat_ofNat, hn]
  have e : n % 2 ^ 64 * 2 ^ 56 % 2 ^ 64 = 2 ^ 56 * (n % 256) := by omega
  rw [e, Nat.or_comm, ← Nat.two_pow_add_eq_or_of_lt (Nat.lt_of_lt_of_le h h7)]
  omega
end Si
theorem size_state : (Try.prog.info? 49).map (·.size) = some 4 := by kernel_rfl
set_option maxRecDepth 100000 in
set_option maxHeartbeats 4000000 in
theorem sbegun_any (k0 k1 : BitVec 64) (w : World) :
    Calls Try.prog 17 #[.agg #[.int .u64 (nb64 k0), .int .u64 (nb64 k1)]] w fun e w' =>
      e = .returned (.agg #[.int .u64 (nb64 (Si.init k0 k1).a), .int .u64 (nb64 (Si.init k0 k1).b), .int .u64 (nb64 (Si.init k0 k1).c), .int .u64 (nb64 (Si.init k0 k1).d)]) ∧ Below w.heap.size w w' := by
  go_enter Try.func17, Try.ntmps17
  go_wp2
  have hE := Has.fresh_at (n := w.heap.size + 1) (w.alloc (.cells #[.int .u64 (nb64 k0), .int .u64 (nb64 k1)] 27)) 49 #[.int .u64 (nb64 (k0 ^^^ 8317987319222330741#64)), .int .u64 (nb64 (k1 ^^^ 7237128888997146477#64)), .int .u64 (nb64 (k0 ^^^ 7816392313619706465#64)), .int .u64 (nb64 (k1 ^^^ 8387220255154660723#64))] (by simp)
  exact bodyPost_ret (results_one_cell rfl _ _ (w.heap.size + 1) rfl _ (run_loadVar_mid _ _ 0 49 _ _ hE.range Try.underlying49 rfl size_state)) rfl ⟨rfl, ((Below.refl _ _).alloc (Nat.le_refl _) _).alloc (by simp) _⟩
set_option maxRecDepth 100000 in
set_option maxHeartbeats 4000000 in
theorem stake_any (v : Si.St) (g : Nat) (m : BitVec 64) (w : World) (hG : Has w g 49 #[.int .u64 (nb64 v.a), .int .u64 (nb64 v.b), .int .u64 (nb64 v.c), .int .u64 (nb64 v.d)]) :
    Calls Try.prog 20 #[.pointer (some ⟨g, 0, none⟩), .int .u64 (nb64 m)] w fun e w' =>
      (∃ v, e = .returned v) ∧ Has w' g 49 #[.int .u64 (nb64 (Si.feed v m).a), .int .u64 (nb64 (Si.feed v m).b), .int .u64 (nb64 (Si.feed v m).c), .int .u64 (nb64 (Si.feed v m).d)] ∧ w.grownBy w' (some g) := by
  obtain ⟨a, b, c, d⟩ := v
  replace hG : Has w g 49 #[.int .u64 (nb64 a), .int .u64 (nb64 b), .int .u64 (nb64 c), .int .u64 (nb64 d)] := hG
  have c3 := hG.cell_at (i := 3) rfl
  have f3 := hG.loose 3
  go_enter Try.func20, Try.ntmps20
  go_upto_region 1 with fail
  have hG1 : Has (w.setCell ⟨g, 3, none⟩ (.int .u64 (nb64 (d ^^^ m)))) g 49 #[.int .u64 (nb64 a), .int .u64 (nb64 b), .int .u64 (nb64 c), .int .u64 (nb64 (d ^^^ m))] := hG.put 3 _
  have hgr1 : w.grownBy (w.setCell ⟨g, 3, none⟩ (.int .u64 (nb64 (d ^^^ m)))) (some g) := grown_put (grown_refl _ _) _ _
  generalize (w.setCell ⟨g, 3, none⟩ (.int .u64 (nb64 (d ^^^ m)))) = w1 at hG1 hgr1 ⊢
  clear c3 f3
  go_upto_region 2 with (go_at_call 24; refine (sround_any ⟨a, b, c, d ^^^ m⟩ g 2 2 rfl (by omega) w1 hG1).mono ?_; rintro e w2 ⟨⟨vv, rfl⟩, hG2, hgr2⟩; obtain ⟨⟨ua, ub, uc, ud⟩, hu⟩ : ∃ u, u = Si.rounds 2 ⟨a, b, c, d ^^^ m⟩ := ⟨_, rfl⟩; rw [← hu] at hG2; have HU := Lib.hid hu; clear hu)
  replace hG2 : Has w2 g 49 #[.int .u64 (nb64 ua), .int .u64 (nb64 ub), .int .u64 (nb64 uc), .int .u64 (nb64 ud)] := hG2
  have c0 := hG2.cell_at (i := 0) rfl
  have f0 := hG2.loose 0
  go_wp2_with fail
  go_end0
  refine ⟨⟨_, rfl⟩, ?_, grown_put (grown_trans hgr1 hgr2) _ _⟩
  unfold Si.feed
  simp only
  rw [← HU.out]
  exact hG2.put 0 _
set_option maxRecDepth 100000 in
set_option maxHeartbeats 4000000 in
theorem send_any (v : Si.St) (g : Nat) (w : World) (hG : Has w g 49 #[.int .u64 (nb64 v.a), .int .u64 (nb64 v.b), .int .u64 (nb64 v.c), .int .u64 (nb64 v.d)]) :
    Calls Try.prog 21 #[.pointer (some ⟨g, 0, none⟩)] w fun e w' => e = .returned (.int .u64 (nb64 (Si.close v))) ∧ w.grownBy w' (some g) := by
  obtain ⟨a, b, c, d⟩ := v
  replace hG : Has w g 49 #[.int .u64 (nb64 a), .int .u64 (nb64 b), .int .u64 (nb64 c), .int .u64 (nb64 d)] := hG
  have c2 := hG.cell_at (i := 2) rfl
  have f2 := hG.loose 2
  go_enter Try.func21, Try.ntmps21
  go_upto_region 2 with fail
  have hG1 : Has (w.setCell ⟨g, 2, none⟩ (.int .u64 (nb64 (c ^^^ 255#64)))) g 49 #[.int .u64 (nb64 a), .int .u64 (nb64 b), .int .u64 (nb64 (c ^^^ 255#64)), .int .u64 (nb64 d)] := hG.put 2 _
  have hgr1 : w.grownBy (w.setCell ⟨g, 2, none⟩ (.int .u64 (nb64 (c ^^^ 255#64)))) (some g) := grown_put (grown_refl _ _) _ _
  generalize (w.setCell ⟨g, 2, none⟩ (.int .u64 (nb64 (c ^^^ 255#64)))) = w1 at hG1 hgr1 ⊢
  clear c2 f2
  go_upto_region 3 with (go_at_call 24; refine (sround_any ⟨a, b, c ^^^ 255#64, d⟩ g 4 4 rfl (by omega) w1 hG1).mono ?_; rintro e w2 ⟨⟨vv, rfl⟩, hG2, hgr2⟩; obtain ⟨⟨ua, ub, uc, ud⟩, hu⟩ : ∃ u, u = Si.rounds 4 ⟨a, b, c ^^^ 255#64, d⟩ := ⟨_, rfl⟩; rw [← hu] at hG2; have HU := Lib.hid hu; clear hu)
  replace hG2 : Has w2 g 49 #[.int .u64 (nb64 ua), .int .u64 (nb64 ub), .int .u64 (nb64 uc), .int .u64 (nb64 ud)] := hG2
  have c0 := hG2.cell_at (i := 0) rfl
  have c1 := hG2.cell_at (i := 1) rfl
  have c2 := hG2.cell_at (i := 2) rfl
  have c3 := hG2.cell_at (i := 3) rfl
  go_quiet (fail)
  go_wp2
  go_ret
  refine ⟨?_, grown_drewN (grown_trans hgr1 hgr2) _⟩
  unfold Si.close
  simp only
  rw [← HU.out]
  rfl
set_option maxRecDepth 100000 in
set_option maxHeartbeats 4000000 in
theorem sword_any (l : List (BitVec 8)) (ad : Option Addr) (p r cp : Nat) (w : World) (hr : r ≤ 8) (hc : ∀ j, j < r → ∃ x, ad = some x ∧ w.cell? (x.add j) = some (.int .u8 (nb8 (cb l (p + j))))) :
    Calls Try.prog 19 #[.slice ad r cp] w fun e w' => e = .returned (.int .u64 (nb64 (Si.wlo l p r))) ∧ w = w' := by
  go_enter Try.func19, Try.ntmps19
  go_wp2
  go_loop [3, 8] (fun mv iv => ∃ k : Nat, k ≤ r ∧ iv = .int .i64 k ∧ mv = .int .u64 (nb64 (Si.wlo l p k))) (fun _ iv => r - (intOf iv).toNat)
  case atStart => exact ⟨0, Nat.zero_le _, rfl, rfl⟩
  case round =>
    obtain ⟨k, hk, rfl, rfl⟩ := hrel
    by_cases hlt : k < r
    · obtain ⟨x, rfl, hx⟩ := hc k hlt
      have hkr : (k : Int) < (r : Int) := by omega
      have hk0 : (0 : Int) ≤ (k : Int) := by omega
      have hrb : (r : Int) ≤ 8 := by omega
      obtain ⟨b, hb⟩ : ∃ b, b = cb l (p + k) := ⟨_, rfl⟩
      rw [← hb] at hx
      have HS := Lib.hid (show Si.wlo l p (k + 1) = Si.wlo l p k ||| b.setWidth 64 <<< (8 * k) by rw [hb]; rfl)
      obtain ⟨q, hq⟩ : ∃ q, q = 8 * k := ⟨_, rfl⟩
      have hqb : q ≤ 100 := by omega
      have h8 : (8 : Int) * (k : Int) = (q : Int) := by omega
      have hqw : IntKind.i64.wrap (q : Int) = (q : Int) := IntWalk.i64_in _ (by omega)
      have hq0 : (0 : Int) ≤ (q : Int) := by omega
      rw [← hq] at HS
      clear hb hc hq
      go_wp2_with fail
      go_round
      case rel => exact ⟨k + 1, by omega, by go_num, by rw [HS.out]⟩
      case measure => (simp [intOf]; try omega)
    · obtain rfl : k = r := by omega
      have hkr : ¬ (k : Int) < (k : Int) := by omega
      go_wp2
      go_ret
      exact ⟨rfl, rfl⟩
end Go.Proofs.Ytenoholdealphaa
