/- the reference's Hash -/
import Derived.Test.YtenoholdealphaaSiR
import Derived.Test.YtenoholdealphaaV
import Derived.Deep.Cut
namespace Go.Proofs.Ytenoholdealphaa
open Go Go.RowKit Go.ChangeShapes Go.WideShapes
theorem Si.wdn_step (l : List (BitVec 8)) (p e q : Nat) (b : BitVec 8) (he : e + 1 ≤ 8) (hq : q = p + e) (hb : b = cb l q) : Si.wdn l p (8 - e) = Si.wdn l p (7 - e) * 256#64 + b.setWidth 64 := by
  subst hq hb
  rw [show 8 - e = (7 - e) + 1 by omega]
  show Si.wdn l p (7 - e) * 256#64 + (cb l (p + (7 - (7 - e)))).setWidth 64 = _
  rw [show 7 - (7 - e) = e by omega]
theorem Si.wdn_out (l : List (BitVec 8)) (p e : Nat) (he : e + 1 ≤ 8) (hq : l.length ≤ p + e) : Si.wdn l p (8 - e) = Si.wdn l p (7 - e) * 256#64 := by
  rw [Si.wdn_step l p e (p + e) 0 he rfl (Si.cb_out hq).symm]
  exact BitVec.add_zero _
set_option maxRecDepth 100000 in
set_option maxHeartbeats 8000000 in
theorem shash_any (k0 k1 : BitVec 64) (ad : Option Addr) (n cp : Nat) (l : List (BitVec 8)) (w : World) (hw : Bytes8 w ad n l) (hn : n ≤ 1000000) :
    Calls Try.prog 9 #[.agg #[.int .u64 (nb64 k0), .int .u64 (nb64 k1)], .slice ad n cp] w fun e w' => e = .returned (.int .u64 (nb64 (Si.hash k0 k1 l))) ∧ Below w.heap.size w w' := by
  have hln := hw.1
  have HL := Lib.hid hln
  clear hln
  go_enter Try.func9, Try.ntmps9
  go_upto_region 2 with fail
  have hG : Has ((w.alloc (.cells #[.int .u64 (nb64 k0), .int .u64 (nb64 k1)] 29)).alloc (.cells #[.int .u64 (nb64 (k0 ^^^ 8317987319222330741#64)), .int .u64 (nb64 (k1 ^^^ 7237128888997146477#64)), .int .u64 (nb64 (k0 ^^^ 7816392313619706465#64)), .int .u64 (nb64 (k1 ^^^ 8387220255154660723#64))] 58)) (w.heap.size + 1) 58 #[.int .u64 (nb64 (Si.init k0 k1).a), .int .u64 (nb64 (Si.init k0 k1).b), .int .u64 (nb64 (Si.init k0 k1).c), .int .u64 (nb64 (Si.init k0 k1).d)] := Has.fresh_at _ _ _ (by simp)
  have hB : Below w.heap.size w ((w.alloc (.cells #[.int .u64 (nb64 k0), .int .u64 (nb64 k1)] 29)).alloc (.cells #[.int .u64 (nb64 (k0 ^^^ 8317987319222330741#64)), .int .u64 (nb64 (k1 ^^^ 7237128888997146477#64)), .int .u64 (nb64 (k0 ^^^ 7816392313619706465#64)), .int .u64 (nb64 (k1 ^^^ 8387220255154660723#64))] 58)) := ((Below.refl _ _).alloc (Nat.le_refl _) _).alloc (by simp) _
  generalize ((w.alloc (.cells #[.int .u64 (nb64 k0), .int .u64 (nb64 k1)] 29)).alloc (.cells #[.int .u64 (nb64 (k0 ^^^ 8317987319222330741#64)), .int .u64 (nb64 (k1 ^^^ 7237128888997146477#64)), .int .u64 (nb64 (k0 ^^^ 7816392313619706465#64)), .int .u64 (nb64 (k1 ^^^ 8387220255154660723#64))] 58)) = w0 at hG hB ⊢
  go_wp2_with fail
  go_loopw [6] (fun iv wr => ∃ k : Nat, 8 * k ≤ n + 8 ∧ iv = .int .i64 ((8 * k : Nat) : Int) ∧ (∃ u : Si.St, Hid (u = Si.feeds l (Si.init k0 k1) k) ∧ Has wr (w.heap.size + 1) 58 #[.int .u64 (nb64 u.a), .int .u64 (nb64 u.b), .int .u64 (nb64 u.c), .int .u64 (nb64 u.d)]) ∧ Below w.heap.size w wr) (fun iv _ => n + 8 - (intOf iv).toNat)
  case atStart => exact ⟨0, Nat.zero_le _, rfl, ⟨_, Lib.hid rfl, hG⟩, hB⟩
  case round =>
    clear hG hB
    obtain ⟨k, hk, rfl, ⟨⟨a, b, c, d⟩, HU, hG⟩, hB⟩ := hrel
    replace hG : Has wr (w.heap.size + 1) 58 #[.int .u64 (nb64 a), .int .u64 (nb64 b), .int .u64 (nb64 c), .int .u64 (nb64 d)] := hG
    obtain ⟨p, hp⟩ : ∃ p, p = 8 * k := ⟨_, rfl⟩
    rw [← hp] at hk ⊢
    have HP := Lib.hid hp
    clear hp
    have hwr := hw.below hB
    by_cases hlt : p ≤ n
    · have hii : (p : Int) ≤ (n : Int) := by omega
      have hpb : (p : Int) ≤ 1000000 := by omega
      have hnb : (n : Int) ≤ 1000000 := by omega
      go_wp2_with fail
      go_loop [7, 8] (fun mv iv => ∃ e : Nat, e ≤ 8 ∧ iv = .int .i64 ((e : Int) - 1) ∧ mv = .int .u64 (nb64 (Si.wdn l p (8 - e)))) (fun _ iv => (intOf iv + 1).toNat)
      case atStart => exact ⟨8, Nat.le_refl _, rfl, rfl⟩
      case round =>
        obtain ⟨e, he, rfl, rfl⟩ := hrel
        rcases e with _ | e
        · have hm1 : ((0 : Nat) : Int) - 1 = -1 := rfl
          rw [hm1]
          by_cases hl8 : n < p + 8
          · have hli : (n : Int) < (p : Int) + 8 := by omega
            obtain ⟨r, hr⟩ : ∃ r, n % 256 = r := ⟨_, rfl⟩
            have hr1 : (n : Int).tmod 256 = (r : Int) := by rw [show (n : Int).tmod 256 = ((n % 256 : Nat) : Int) from rfl, hr]
            have hr2 : (n : Int) % 256 = (r : Int) := by omega
            have hr3 : IntKind.u64.wrap (r : Int) = nb64 (BitVec.ofNat 64 r) := nat_to_u64 r
            have HM := Lib.hid (show Si.msg l p = Si.wdn l p 8 + BitVec.ofNat 64 r * 72057594037927936#64 by unfold Si.msg Si.word; rw [if_pos (by rw [HL.out]; omega), HL.out, hr])
            clear hr
            go_upto_region 14 with fail
            rw [← HM.out]
            obtain ⟨m, hm⟩ : ∃ m, m = Si.msg l p := ⟨_, rfl⟩
            rw [← hm]
            have HMM := Lib.hid hm
            clear hm HM
            have c0 : wr.cell? ⟨(w.heap.size + 1), 0, none⟩ = some (.int .u64 (nb64 a)) := hG.cell_at rfl
            have c1 : wr.cell? ⟨(w.heap.size + 1), 1, none⟩ = some (.int .u64 (nb64 b)) := hG.cell_at rfl
            have c2 : wr.cell? ⟨(w.heap.size + 1), 2, none⟩ = some (.int .u64 (nb64 c)) := hG.cell_at rfl
            have c3 : wr.cell? ⟨(w.heap.size + 1), 3, none⟩ = some (.int .u64 (nb64 d)) := hG.cell_at rfl
            have f0 := hG.loose 0
            have f1 := hG.loose 1
            have f2 := hG.loose 2
            have f3 := hG.loose 3
            go_upto_region 15 with fail
            clear c0 f0 c1 f1 c2 f2 c3 f3
            obtain ⟨x0, hx0⟩ : ∃ x, x = d ^^^ m := ⟨_, rfl⟩
            rw [← hx0]
            obtain ⟨wr1, hw'⟩ : ∃ x, x = wr.setCell ⟨(w.heap.size + 1), 3, none⟩ (.int .u64 (nb64 x0)) := ⟨_, rfl⟩
            rw [← hw']
            replace hG : Has wr1 (w.heap.size + 1) 58 #[.int .u64 (nb64 a), .int .u64 (nb64 b), .int .u64 (nb64 c), .int .u64 (nb64 x0)] := by rw [hw']; exact hG.put 3 _
            replace hB := (show Below w.heap.size w wr1 by rw [hw']; exact hB.setCell (Nat.le_succ _) _)
            have Hx0 := Lib.hid hx0
            clear hw' hx0
            have c0 : wr1.cell? ⟨(w.heap.size + 1), 0, none⟩ = some (.int .u64 (nb64 a)) := hG.cell_at rfl
            have c1 : wr1.cell? ⟨(w.heap.size + 1), 1, none⟩ = some (.int .u64 (nb64 b)) := hG.cell_at rfl
            have c2 : wr1.cell? ⟨(w.heap.size + 1), 2, none⟩ = some (.int .u64 (nb64 c)) := hG.cell_at rfl
            have c3 : wr1.cell? ⟨(w.heap.size + 1), 3, none⟩ = some (.int .u64 (nb64 x0)) := hG.cell_at rfl
            have f0 := hG.loose 0
            have f1 := hG.loose 1
            have f2 := hG.loose 2
            have f3 := hG.loose 3
            go_upto_region 16 with (go_at_call 22; refine (srounds_any ⟨a, b, c, x0⟩ 2 2 rfl (by omega) _).mono ?_; rintro e wq ⟨rfl, hb⟩; obtain ⟨⟨ua, ub, uc, ud⟩, hu⟩ : ∃ u, u = Si.rounds 2 ⟨a, b, c, x0⟩ := ⟨_, rfl⟩; rw [← hu]; have Hu := Lib.hid hu; clear hu; replace hG := hG.under hb hG.lt; replace hB := hB.trans (hb.mono hB.size); clear c0 f0 c1 f1 c2 f2 c3 f3; have c0 : wq.cell? ⟨(w.heap.size + 1), 0, none⟩ = some (.int .u64 (nb64 a)) := hG.cell_at rfl; have c1 : wq.cell? ⟨(w.heap.size + 1), 1, none⟩ = some (.int .u64 (nb64 b)) := hG.cell_at rfl; have c2 : wq.cell? ⟨(w.heap.size + 1), 2, none⟩ = some (.int .u64 (nb64 c)) := hG.cell_at rfl; have c3 : wq.cell? ⟨(w.heap.size + 1), 3, none⟩ = some (.int .u64 (nb64 x0)) := hG.cell_at rfl; have f0 := hG.loose 0; have f1 := hG.loose 1; have f2 := hG.loose 2; have f3 := hG.loose 3)
            obtain ⟨wv, hw'⟩ : ∃ x, x = ((((wq.setCell ⟨(w.heap.size + 1), 0, none⟩ (.int .u64 (nb64 ua))).setCell ⟨(w.heap.size + 1), 1, none⟩ (.int .u64 (nb64 ub))).setCell ⟨(w.heap.size + 1), 2, none⟩ (.int .u64 (nb64 uc))).setCell ⟨(w.heap.size + 1), 3, none⟩ (.int .u64 (nb64 ud))) := ⟨_, rfl⟩
            rw [← hw']
            replace hG : Has wv (w.heap.size + 1) 58 #[.int .u64 (nb64 ua), .int .u64 (nb64 ub), .int .u64 (nb64 uc), .int .u64 (nb64 ud)] := by rw [hw']; exact (((hG.put 0 _).put 1 _).put 2 _).put 3 _
            replace hB : Below w.heap.size w wv := by rw [hw']; exact (((hB.setCell (Nat.le_succ _) _).setCell (Nat.le_succ _) _).setCell (Nat.le_succ _) _).setCell (Nat.le_succ _) _
            clear hw'
            have c0 : wv.cell? ⟨(w.heap.size + 1), 0, none⟩ = some (.int .u64 (nb64 ua)) := hG.cell_at rfl
            have c1 : wv.cell? ⟨(w.heap.size + 1), 1, none⟩ = some (.int .u64 (nb64 ub)) := hG.cell_at rfl
            have c2 : wv.cell? ⟨(w.heap.size + 1), 2, none⟩ = some (.int .u64 (nb64 uc)) := hG.cell_at rfl
            have c3 : wv.cell? ⟨(w.heap.size + 1), 3, none⟩ = some (.int .u64 (nb64 ud)) := hG.cell_at rfl
            have f0 := hG.loose 0
            have f1 := hG.loose 1
            have f2 := hG.loose 2
            have f3 := hG.loose 3
            go_upto_region 4 with fail
            clear c0 f0 c1 f1 c2 f2 c3 f3
            obtain ⟨x1, hx1⟩ : ∃ x, x = ua ^^^ m := ⟨_, rfl⟩
            rw [← hx1]
            obtain ⟨wr2, hw'⟩ : ∃ x, x = wv.setCell ⟨(w.heap.size + 1), 0, none⟩ (.int .u64 (nb64 x1)) := ⟨_, rfl⟩
            rw [← hw']
            replace hG : Has wr2 (w.heap.size + 1) 58 #[.int .u64 (nb64 x1), .int .u64 (nb64 ub), .int .u64 (nb64 uc), .int .u64 (nb64 ud)] := by rw [hw']; exact hG.put 0 _
            replace hB := (show Below w.heap.size w wr2 by rw [hw']; exact hB.setCell (Nat.le_succ _) _)
            have Hx1 := Lib.hid hx1
            clear hw' hx1
            have c0 : wr2.cell? ⟨(w.heap.size + 1), 0, none⟩ = some (.int .u64 (nb64 x1)) := hG.cell_at rfl
            have c1 : wr2.cell? ⟨(w.heap.size + 1), 1, none⟩ = some (.int .u64 (nb64 ub)) := hG.cell_at rfl
            have c2 : wr2.cell? ⟨(w.heap.size + 1), 2, none⟩ = some (.int .u64 (nb64 uc)) := hG.cell_at rfl
            have c3 : wr2.cell? ⟨(w.heap.size + 1), 3, none⟩ = some (.int .u64 (nb64 ud)) := hG.cell_at rfl
            have f0 := hG.loose 0
            have f1 := hG.loose 1
            have f2 := hG.loose 2
            have f3 := hG.loose 3
            clear c0 f0 c1 f1 c2 f2 c3 f3
            go_wp2_with fail
            go_roundw
            case rel => exact ⟨k + 1, by have := HP.out; omega, by have := HP.out; go_num, ⟨⟨x1, ub, uc, ud⟩, Lib.hid (by
              rw [show Si.feeds l (Si.init k0 k1) (k + 1) = Si.feed (Si.feeds l (Si.init k0 k1) k) (Si.msg l (8 * k)) from rfl, ← HU.out, ← HP.out, ← HMM.out, Hx1.out]
              unfold Si.feed
              simp only
              rw [← Hx0.out, ← Hu.out]), hG⟩, hB⟩
            case measure => (simp [intOf]; try omega)
          · have hli : ¬ (n : Int) < (p : Int) + 8 := by omega
            have HM := Lib.hid (show Si.msg l p = Si.wdn l p 8 by unfold Si.msg Si.word; rw [if_neg (by rw [HL.out]; omega)])
            go_upto_region 14 with fail
            rw [← HM.out]
            obtain ⟨m, hm⟩ : ∃ m, m = Si.msg l p := ⟨_, rfl⟩
            rw [← hm]
            have HMM := Lib.hid hm
            clear hm HM
            have c0 : wr.cell? ⟨(w.heap.size + 1), 0, none⟩ = some (.int .u64 (nb64 a)) := hG.cell_at rfl
            have c1 : wr.cell? ⟨(w.heap.size + 1), 1, none⟩ = some (.int .u64 (nb64 b)) := hG.cell_at rfl
            have c2 : wr.cell? ⟨(w.heap.size + 1), 2, none⟩ = some (.int .u64 (nb64 c)) := hG.cell_at rfl
            have c3 : wr.cell? ⟨(w.heap.size + 1), 3, none⟩ = some (.int .u64 (nb64 d)) := hG.cell_at rfl
            have f0 := hG.loose 0
            have f1 := hG.loose 1
            have f2 := hG.loose 2
            have f3 := hG.loose 3
            go_upto_region 15 with fail
            clear c0 f0 c1 f1 c2 f2 c3 f3
            obtain ⟨x0, hx0⟩ : ∃ x, x = d ^^^ m := ⟨_, rfl⟩
            rw [← hx0]
            obtain ⟨wr1, hw'⟩ : ∃ x, x = wr.setCell ⟨(w.heap.size + 1), 3, none⟩ (.int .u64 (nb64 x0)) := ⟨_, rfl⟩
            rw [← hw']
            replace hG : Has wr1 (w.heap.size + 1) 58 #[.int .u64 (nb64 a), .int .u64 (nb64 b), .int .u64 (nb64 c), .int .u64 (nb64 x0)] := by rw [hw']; exact hG.put 3 _
            replace hB := (show Below w.heap.size w wr1 by rw [hw']; exact hB.setCell (Nat.le_succ _) _)
            have Hx0 := Lib.hid hx0
            clear hw' hx0
            have c0 : wr1.cell? ⟨(w.heap.size + 1), 0, none⟩ = some (.int .u64 (nb64 a)) := hG.cell_at rfl
            have c1 : wr1.cell? ⟨(w.heap.size + 1), 1, none⟩ = some (.int .u64 (nb64 b)) := hG.cell_at rfl
            have c2 : wr1.cell? ⟨(w.heap.size + 1), 2, none⟩ = some (.int .u64 (nb64 c)) := hG.cell_at rfl
            have c3 : wr1.cell? ⟨(w.heap.size + 1), 3, none⟩ = some (.int .u64 (nb64 x0)) := hG.cell_at rfl
            have f0 := hG.loose 0
            have f1 := hG.loose 1
            have f2 := hG.loose 2
            have f3 := hG.loose 3
            go_upto_region 16 with (go_at_call 22; refine (srounds_any ⟨a, b, c, x0⟩ 2 2 rfl (by omega) _).mono ?_; rintro e wq ⟨rfl, hb⟩; obtain ⟨⟨ua, ub, uc, ud⟩, hu⟩ : ∃ u, u = Si.rounds 2 ⟨a, b, c, x0⟩ := ⟨_, rfl⟩; rw [← hu]; have Hu := Lib.hid hu; clear hu; replace hG := hG.under hb hG.lt; replace hB := hB.trans (hb.mono hB.size); clear c0 f0 c1 f1 c2 f2 c3 f3; have c0 : wq.cell? ⟨(w.heap.size + 1), 0, none⟩ = some (.int .u64 (nb64 a)) := hG.cell_at rfl; have c1 : wq.cell? ⟨(w.heap.size + 1), 1, none⟩ = some (.int .u64 (nb64 b)) := hG.cell_at rfl; have c2 : wq.cell? ⟨(w.heap.size + 1), 2, none⟩ = some (.int .u64 (nb64 c)) := hG.cell_at rfl; have c3 : wq.cell? ⟨(w.heap.size + 1), 3, none⟩ = some (.int .u64 (nb64 x0)) := hG.cell_at rfl; have f0 := hG.loose 0; have f1 := hG.loose 1; have f2 := hG.loose 2; have f3 := hG.loose 3)
            obtain ⟨wv, hw'⟩ : ∃ x, x = ((((wq.setCell ⟨(w.heap.size + 1), 0, none⟩ (.int .u64 (nb64 ua))).setCell ⟨(w.heap.size + 1), 1, none⟩ (.int .u64 (nb64 ub))).setCell ⟨(w.heap.size + 1), 2, none⟩ (.int .u64 (nb64 uc))).setCell ⟨(w.heap.size + 1), 3, none⟩ (.int .u64 (nb64 ud))) := ⟨_, rfl⟩
            rw [← hw']
            replace hG : Has wv (w.heap.size + 1) 58 #[.int .u64 (nb64 ua), .int .u64 (nb64 ub), .int .u64 (nb64 uc), .int .u64 (nb64 ud)] := by rw [hw']; exact (((hG.put 0 _).put 1 _).put 2 _).put 3 _
            replace hB : Below w.heap.size w wv := by rw [hw']; exact (((hB.setCell (Nat.le_succ _) _).setCell (Nat.le_succ _) _).setCell (Nat.le_succ _) _).setCell (Nat.le_succ _) _
            clear hw'
            have c0 : wv.cell? ⟨(w.heap.size + 1), 0, none⟩ = some (.int .u64 (nb64 ua)) := hG.cell_at rfl
            have c1 : wv.cell? ⟨(w.heap.size + 1), 1, none⟩ = some (.int .u64 (nb64 ub)) := hG.cell_at rfl
            have c2 : wv.cell? ⟨(w.heap.size + 1), 2, none⟩ = some (.int .u64 (nb64 uc)) := hG.cell_at rfl
            have c3 : wv.cell? ⟨(w.heap.size + 1), 3, none⟩ = some (.int .u64 (nb64 ud)) := hG.cell_at rfl
            have f0 := hG.loose 0
            have f1 := hG.loose 1
            have f2 := hG.loose 2
            have f3 := hG.loose 3
            go_upto_region 4 with fail
            clear c0 f0 c1 f1 c2 f2 c3 f3
            obtain ⟨x1, hx1⟩ : ∃ x, x = ua ^^^ m := ⟨_, rfl⟩
            rw [← hx1]
            obtain ⟨wr2, hw'⟩ : ∃ x, x = wv.setCell ⟨(w.heap.size + 1), 0, none⟩ (.int .u64 (nb64 x1)) := ⟨_, rfl⟩
            rw [← hw']
            replace hG : Has wr2 (w.heap.size + 1) 58 #[.int .u64 (nb64 x1), .int .u64 (nb64 ub), .int .u64 (nb64 uc), .int .u64 (nb64 ud)] := by rw [hw']; exact hG.put 0 _
            replace hB := (show Below w.heap.size w wr2 by rw [hw']; exact hB.setCell (Nat.le_succ _) _)
            have Hx1 := Lib.hid hx1
            clear hw' hx1
            have c0 : wr2.cell? ⟨(w.heap.size + 1), 0, none⟩ = some (.int .u64 (nb64 x1)) := hG.cell_at rfl
            have c1 : wr2.cell? ⟨(w.heap.size + 1), 1, none⟩ = some (.int .u64 (nb64 ub)) := hG.cell_at rfl
            have c2 : wr2.cell? ⟨(w.heap.size + 1), 2, none⟩ = some (.int .u64 (nb64 uc)) := hG.cell_at rfl
            have c3 : wr2.cell? ⟨(w.heap.size + 1), 3, none⟩ = some (.int .u64 (nb64 ud)) := hG.cell_at rfl
            have f0 := hG.loose 0
            have f1 := hG.loose 1
            have f2 := hG.loose 2
            have f3 := hG.loose 3
            clear c0 f0 c1 f1 c2 f2 c3 f3
            go_wp2_with fail
            go_roundw
            case rel => exact ⟨k + 1, by have := HP.out; omega, by have := HP.out; go_num, ⟨⟨x1, ub, uc, ud⟩, Lib.hid (by
              rw [show Si.feeds l (Si.init k0 k1) (k + 1) = Si.feed (Si.feeds l (Si.init k0 k1) k) (Si.msg l (8 * k)) from rfl, ← HU.out, ← HP.out, ← HMM.out, Hx1.out]
              unfold Si.feed
              simp only
              rw [← Hx0.out, ← Hu.out]), hG⟩, hB⟩
            case measure => (simp [intOf]; try omega)
        · have hi1 : ((e + 1 : Nat) : Int) - 1 = (e : Int) := by omega
          rw [hi1]
          have he0 : (0 : Int) ≤ (e : Int) := by omega
          have he7 : (e : Int) ≤ 7 := by omega
          obtain ⟨q, hq⟩ : ∃ q, q = p + e := ⟨_, rfl⟩
          have hqv : (p : Int) + (e : Int) = (q : Int) := by omega
          have hqw : IntKind.i64.wrap (q : Int) = (q : Int) := IntWalk.i64_in _ (by omega)
          have hq0 : (0 : Int) ≤ (q : Int) := by omega
          by_cases hqn : q < n
          · obtain ⟨x, rfl, hx⟩ := hwr.2.2 q hqn
            have hqi : (q : Int) < (n : Int) := by omega
            obtain ⟨bb, hbb⟩ : ∃ bb, bb = cb l q := ⟨_, rfl⟩
            rw [← hbb] at hx
            have HS := Lib.hid (Si.wdn_step l p e q bb he hq hbb)
            have HE := Lib.hid (And.intro he hq)
            clear hbb hq hi1 he
            go_wp2_with fail
            go_round
            case rel => exact ⟨e, by have := HE.out; omega, rfl, by rw [HS.out]⟩
            case measure => (simp [intOf]; try omega)
          · have hqi : ¬ (q : Int) < (n : Int) := by omega
            have HS := Lib.hid (Si.wdn_out l p e he (by rw [HL.out]; omega))
            have HE := Lib.hid (And.intro he hq)
            clear hq hi1 he
            go_wp2_with fail
            go_round
            case rel => exact ⟨e, by have := HE.out; omega, rfl, by rw [HS.out]⟩
            case measure => (simp [intOf]; try omega)
    · have hii : ¬ (p : Int) ≤ (n : Int) := by omega
      have hkn : k = n / 8 + 1 := by have := HP.out; omega
      have HK := Lib.hid hkn
      clear hkn
      go_upto_region 17 with fail
      have c0 : wr.cell? ⟨(w.heap.size + 1), 0, none⟩ = some (.int .u64 (nb64 a)) := hG.cell_at rfl
      have c1 : wr.cell? ⟨(w.heap.size + 1), 1, none⟩ = some (.int .u64 (nb64 b)) := hG.cell_at rfl
      have c2 : wr.cell? ⟨(w.heap.size + 1), 2, none⟩ = some (.int .u64 (nb64 c)) := hG.cell_at rfl
      have c3 : wr.cell? ⟨(w.heap.size + 1), 3, none⟩ = some (.int .u64 (nb64 d)) := hG.cell_at rfl
      have f0 := hG.loose 0
      have f1 := hG.loose 1
      have f2 := hG.loose 2
      have f3 := hG.loose 3
      go_upto_region 18 with fail
      clear c0 f0 c1 f1 c2 f2 c3 f3
      obtain ⟨x0, hx0⟩ : ∃ x, x = c ^^^ 255#64 := ⟨_, rfl⟩
      rw [← hx0]
      obtain ⟨wr1, hw'⟩ : ∃ x, x = wr.setCell ⟨(w.heap.size + 1), 2, none⟩ (.int .u64 (nb64 x0)) := ⟨_, rfl⟩
      rw [← hw']
      replace hG : Has wr1 (w.heap.size + 1) 58 #[.int .u64 (nb64 a), .int .u64 (nb64 b), .int .u64 (nb64 x0), .int .u64 (nb64 d)] := by rw [hw']; exact hG.put 2 _
      replace hB := (show Below w.heap.size w wr1 by rw [hw']; exact hB.setCell (Nat.le_succ _) _)
      have Hx0 := Lib.hid hx0
      clear hw' hx0
      have c0 : wr1.cell? ⟨(w.heap.size + 1), 0, none⟩ = some (.int .u64 (nb64 a)) := hG.cell_at rfl
      have c1 : wr1.cell? ⟨(w.heap.size + 1), 1, none⟩ = some (.int .u64 (nb64 b)) := hG.cell_at rfl
      have c2 : wr1.cell? ⟨(w.heap.size + 1), 2, none⟩ = some (.int .u64 (nb64 x0)) := hG.cell_at rfl
      have c3 : wr1.cell? ⟨(w.heap.size + 1), 3, none⟩ = some (.int .u64 (nb64 d)) := hG.cell_at rfl
      have f0 := hG.loose 0
      have f1 := hG.loose 1
      have f2 := hG.loose 2
      have f3 := hG.loose 3
      go_upto_region 19 with (go_at_call 22; refine (srounds_any ⟨a, b, x0, d⟩ 4 4 rfl (by omega) _).mono ?_; rintro e wq ⟨rfl, hb⟩; obtain ⟨⟨ua, ub, uc, ud⟩, hu⟩ : ∃ u, u = Si.rounds 4 ⟨a, b, x0, d⟩ := ⟨_, rfl⟩; rw [← hu]; have Hu := Lib.hid hu; clear hu; replace hG := hG.under hb hG.lt; replace hB := hB.trans (hb.mono hB.size); clear c0 f0 c1 f1 c2 f2 c3 f3; have c0 : wq.cell? ⟨(w.heap.size + 1), 0, none⟩ = some (.int .u64 (nb64 a)) := hG.cell_at rfl; have c1 : wq.cell? ⟨(w.heap.size + 1), 1, none⟩ = some (.int .u64 (nb64 b)) := hG.cell_at rfl; have c2 : wq.cell? ⟨(w.heap.size + 1), 2, none⟩ = some (.int .u64 (nb64 x0)) := hG.cell_at rfl; have c3 : wq.cell? ⟨(w.heap.size + 1), 3, none⟩ = some (.int .u64 (nb64 d)) := hG.cell_at rfl; have f0 := hG.loose 0; have f1 := hG.loose 1; have f2 := hG.loose 2; have f3 := hG.loose 3)
      obtain ⟨wv, hw'⟩ : ∃ x, x = ((((wq.setCell ⟨(w.heap.size + 1), 0, none⟩ (.int .u64 (nb64 ua))).setCell ⟨(w.heap.size + 1), 1, none⟩ (.int .u64 (nb64 ub))).setCell ⟨(w.heap.size + 1), 2, none⟩ (.int .u64 (nb64 uc))).setCell ⟨(w.heap.size + 1), 3, none⟩ (.int .u64 (nb64 ud))) := ⟨_, rfl⟩
      rw [← hw']
      replace hG : Has wv (w.heap.size + 1) 58 #[.int .u64 (nb64 ua), .int .u64 (nb64 ub), .int .u64 (nb64 uc), .int .u64 (nb64 ud)] := by rw [hw']; exact (((hG.put 0 _).put 1 _).put 2 _).put 3 _
      replace hB : Below w.heap.size w wv := by rw [hw']; exact (((hB.setCell (Nat.le_succ _) _).setCell (Nat.le_succ _) _).setCell (Nat.le_succ _) _).setCell (Nat.le_succ _) _
      clear hw'
      have c0 : wv.cell? ⟨(w.heap.size + 1), 0, none⟩ = some (.int .u64 (nb64 ua)) := hG.cell_at rfl
      have c1 : wv.cell? ⟨(w.heap.size + 1), 1, none⟩ = some (.int .u64 (nb64 ub)) := hG.cell_at rfl
      have c2 : wv.cell? ⟨(w.heap.size + 1), 2, none⟩ = some (.int .u64 (nb64 uc)) := hG.cell_at rfl
      have c3 : wv.cell? ⟨(w.heap.size + 1), 3, none⟩ = some (.int .u64 (nb64 ud)) := hG.cell_at rfl
      have f0 := hG.loose 0
      have f1 := hG.loose 1
      have f2 := hG.loose 2
      have f3 := hG.loose 3
      go_wp2_with fail
      go_ret
      refine ⟨?_, hB⟩
      have e : Si.hash k0 k1 l = ua ^^^ ub ^^^ uc ^^^ ud := by
        unfold Si.hash
        rw [HL.out, ← HK.out, ← HU.out]
        unfold Si.close
        simp only
        rw [← Hx0.out, ← Hu.out]
      show Ending.returned (.int .u64 (nb64 (ua ^^^ ub ^^^ uc ^^^ ud))) = _
      rw [e]
end Go.Proofs.Ytenoholdealphaa
