/- package pack: isSize, Out.Num -/
import Derived.Test.YtcedecljbgailaaDoorPkr
import Derived.Test.YtcedecljbgailaaDoorLz
import Derived.Deep.RegionLaw
import Derived.Deep.RegionHeld3
namespace Go.Proofs.YtcedecljbgailaaDoor
open Go Go.RowKit Go.ChangeShapes Go.WideShapes
/-- a buffer at block g whose slice is v: its bytes are l -/
def OutS (B : Nat) (w : World) (g : Nat) (v : Value) (l : List (BitVec 8)) : Prop := Has w g 90 #[v] ∧ OwnB 5 B w v l
def outF (g : Nat) (v : Value) : Nat → Prop := fun k => k = g ∨ v.ownBlock = some k
/-- behind a call that puts -/
def OutPost (B g : Nat) (v : Value) (l : List (BitVec 8)) (w0 : World) (e : Ending) (w' : World) : Prop :=
  (∃ u, e = .returned u) ∧ ∃ v', OutS B w' g v' l ∧ Moved (outF g v) w0 w' ∧ Lies w0 v v'
theorem OutS.apart {B : Nat} {w : World} {g : Nat} {v : Value} {l : List (BitVec 8)} (h : OutS B w g v l) : ∀ k, v.ownBlock = some k → k ≠ g := h.2.apart h.1 (by rfl)
theorem outF_lies {w : World} {g : Nat} {v v' : Value} (h : Lies w v v') : ∀ k, outF g v' k → outF g v k ∨ w.heap.size ≤ k := fun k hk => hk.elim (fun e => .inl (.inl e)) (fun e => (h k e).elim (fun e => .inl (.inr e)) .inr)
theorem OutPost.then {B g : Nat} {v v1 : Value} {l : List (BitVec 8)} {w0 w1 : World} (hm : Moved (outF g v) w0 w1) (hl : Lies w0 v v1) {e : Ending} {w' : World} (h : OutPost B g v1 l w1 e w') : OutPost B g v l w0 e w' := by
  obtain ⟨hu, v', h1, h2, h3⟩ := h
  exact ⟨hu, v', h1, hm.trans h2 (outF_lies hl), hl.trans h3 hm.size⟩
/-- the buffer's bytes appended to, and the new slice stored -/
theorem OutS.grow {B : Nat} {w0 w w1 w2 : World} {g : Nat} {v0 v a : Value} {l m : List (BitVec 8)} (h : OutS B w g v l) (hm : Moved (outF g v0) w0 w) (hli : Lies w0 v0 v) (hb : Below w.heap.size w w1) (hg : w1.grownBy w2 v.ownBlock) (ho : OwnB 5 B w2 a m) (hl : Lies w1 v a) :
    Has w2 g 90 #[v] ∧ OutS B (w2.setCell ⟨g, 0, none⟩ a) g a m ∧ Moved (outF g v0) w0 (w2.setCell ⟨g, 0, none⟩ a) ∧ Lies w0 v0 a := by
  have h1 : Has w1 g 90 #[v] := h.1.under hb h.1.lt
  have h2 : Has w2 g 90 #[v] := h1.moved (F := fun k => v.ownBlock = some k) (Moved.of_grown hg (fun _ e => e)) (fun e => h.apart g e rfl)
  have hap := ho.apart h2 (by rfl)
  have hm1 : Moved (outF g v0) w0 w1 := hm.then hb
  have hm2 : Moved (outF g v0) w0 w2 := hm1.trans (G := fun k => v.ownBlock = some k) (Moved.of_grown hg (fun _ e => e)) (fun k e => (hli k e).elim (fun e => .inl (.inr e)) .inr)
  exact ⟨h2, ⟨h2.put 0 a, ho.moved (F := fun k => k = g) ⟨rfl, rfl, rfl, by simp, fun k hk hf => Below.heap_setCell w2 _ a k hf⟩ hap⟩, hm2.put (.inl (.inl rfl)) 0 a, hli.trans hl hm1.size⟩
theorem isSize_no (z : Int) (hz : ¬ Pk.okSize z) (w : World) : Calls Tryd.prog 59 #[.int .i64 z] w fun e w' => e = .returned (.bool false) ∧ w = w' := by
  unfold Pk.okSize at hz
  have h1 : (z == 1) = false := by simp; omega
  have h2 : (z == 2) = false := by simp; omega
  have h4 : (z == 4) = false := by simp; omega
  have h8 : (z == 8) = false := by simp; omega
  clear hz
  go_enter Tryd.func59, Tryd.ntmps59
  go_wp2
  go_ret
  exact ⟨rfl, rfl⟩
theorem isSize_ok (z : Int) (hz : Pk.okSize z) (w : World) : Calls Tryd.prog 59 #[.int .i64 z] w fun e w' => e = .returned (.bool true) ∧ w = w' := by
  unfold Pk.okSize at hz
  rcases hz with rfl | rfl | rfl | rfl <;>
  · go_enter Tryd.func59, Tryd.ntmps59
    go_wp2
    go_ret
    exact ⟨rfl, rfl⟩
theorem outNum_none (x : BitVec 64) (z : Int) (w : World) : Calls Tryd.prog 50 #[.pointer none, .int .u64 (nb64 x), .int .i64 z] w fun e w' => (∃ u, e = .returned u) ∧ w = w' := by
  go_enter Tryd.func50, Tryd.ntmps50
  go_wp2
  exact bodyPost_ret (results_none rfl _ _ _) rfl ⟨⟨_, rfl⟩, rfl⟩
theorem outNum_no (g : Nat) (x : BitVec 64) (z : Int) (hz : ¬ Pk.okSize z) (w : World) : Calls Tryd.prog 50 #[.pointer (some ⟨g, 0, none⟩), .int .u64 (nb64 x), .int .i64 z] w fun e w' => (∃ u, e = .returned u) ∧ w = w' := by
  have HI := Lib.hid (isSize_no z hz w)
  clear hz
  go_enter Tryd.func50, Tryd.ntmps50
  go_wp2_with (go_at_call 59; refine HI.out.mono ?_; rintro e w' ⟨rfl, rfl⟩)
  exact bodyPost_ret (results_none rfl _ _ _) rfl ⟨⟨_, rfl⟩, rfl⟩
set_option maxRecDepth 100000 in
set_option maxHeartbeats 4000000 in
theorem outNum_ok (B g : Nat) (v : Value) (l : List (BitVec 8)) (x : BitVec 64) (K : Nat) (hK : Pk.okSize K) (hl : l.length ≤ 1000000) (w : World) (h : OutS B w g v l) (hBw : B ≤ w.heap.size) :
    Calls Tryd.prog 50 #[.pointer (some ⟨g, 0, none⟩), .int .u64 (nb64 x), .int .i64 K] w (OutPost B g v (l ++ Pk.le x K) w) := by
  have HI := Lib.hid (isSize_ok K hK w)
  have hK8 : K ≤ 8 := by unfold Pk.okSize at hK; omega
  have HL := Lib.hid hl
  have HS := Lib.hid h
  have HBW := Lib.hid hBw
  clear hK hl h hBw
  go_enter Tryd.func50, Tryd.ntmps50
  go_wp2_with (go_at_call 59; refine HI.out.mono ?_; rintro e w' ⟨rfl, rfl⟩)
  go_loopw [15] (fun iv wr => ∃ i : Nat, i ≤ K ∧ iv = .int .i64 i ∧ ∃ v', OutS B wr g v' (l ++ Pk.le x i) ∧ Moved (outF g v) w wr ∧ Lies w v v') (fun iv _ => K - (intOf iv).toNat)
  case atStart => exact ⟨0, Nat.zero_le _, rfl, v, by simpa [Pk.le] using HS.out, Moved.refl _ _, Lies.refl _ _⟩
  case round =>
    obtain ⟨i, hi, rfl, v', ho, hm, hli⟩ := hrel
    by_cases hlt : i < K
    · have hii : (i : Int) < (K : Int) := by omega
      have HX := Lib.hid (show (l ++ Pk.le x i) ++ [(x >>> (8 * i)).setWidth 8] = l ++ Pk.le x (i + 1) by rw [Pk.le_snoc, List.append_assoc])
      obtain ⟨M, hM⟩ : ∃ M, (l ++ Pk.le x i ++ [(x >>> (8 * i)).setWidth 8]).length = M := ⟨_, rfl⟩
      have HM := Lib.hid hM
      clear hM
      have HLE := Lib.hid (show (l ++ Pk.le x i).length + 1 ≤ 1099511627776 by rw [List.length_append, Pk.le_len]; have := HL.out; omega)
      have c0 : wr.cell? ⟨g, 0, none⟩ = some v' := ho.1.cell_at rfl
      have f0 : wr.frozen? ⟨g, 0, none⟩ = false := ho.1.loose 0
      have cA : (wr.alloc (.cells #[.int .u8 (nb8 ((x >>> (8 * i)).setWidth 8))] 5)).cell? ⟨g, 0, none⟩ = some v' := (ho.1.past _).cell_at rfl
      have hwi : IntKind.i64.wrap ((i : Int)) = (i : Int) := IntWalk.i64_in _ (by omega)
      have hw8 : IntKind.i64.wrap (8 * (i : Int)) = ((8 * i : Nat) : Int) := by rw [IntWalk.i64_in _ (by omega)]; omega
      have HO := Lib.hid ho
      have HN := Lib.hid (show ∀ w2, w2 = wr.drew.alloc (.cells #[.int .u8 (nb8 ((x >>> (8 * i)).setWidth 8))] 5) → Bytes8 w2 (some ⟨wr.heap.size, 0, none⟩) 1 [(x >>> (8 * i)).setWidth 8] from fun w2 e => by
        subst e
        refine ⟨rfl, by unfold maxLen; omega, fun j hj => ⟨_, rfl, ?_⟩⟩
        obtain rfl : j = 0 := by omega
        exact (Has.fresh wr.drew 5 _).cell_at rfl)
      have HBR := Lib.hid (show B ≤ (wr.drew.alloc (.cells #[.int .u8 (nb8 ((x >>> (8 * i)).setWidth 8))] 5)).heap.size by have := hm.size; have := HBW.out; simp; omega)
      clear ho
      have hshr : ∀ t, binOp .shr t (.int .u64 (nb64 x)) (.int .i64 (8 * (i : Int))) = pure (.int .u64 (nb64 (x >>> (8 * i)))) := fun t => by
        have := u64_shr_n t .i64 x (8 * i)
        rwa [show ((8 * i : Nat) : Int) = 8 * (i : Int) by omega] at this
      go_upto_region 4 with fail
      go_region_law (refine step_append_bytes_at (by rfl) (.tmp 22) (.tmp 28) 58 rfl 5 Tryd.underlying58 info_byte B v' (l ++ Pk.le x i) (by simp [Act.eval]) (HO.out.2.below (((Below.refl _ _).drew).alloc (Nat.le_refl _) _)) (some ⟨wr.heap.size, 0, none⟩) 1 1 [(x >>> (8 * i)).setWidth 8] (by simp [Act.eval]) (HN.out _ rfl) (fun e => by cases e) HLE.out HBR.out ?_; intro v2 w2 h1 h2 h3; obtain ⟨a2, c2, rfl, _, _, _⟩ := h1.shape HM.out; obtain ⟨hg2, hs2, hm2, hl2⟩ := HO.out.grow hm hli (((Below.refl _ _).drew).alloc (Nat.le_refl _) _) h2 h1 h3; have hc2 := hg2.cell_at (i := 0) rfl; have hf2 := hg2.loose 0)
      all_goals
        go_wp2
        go_roundw
        case rel => exact ⟨i + 1, by omega, by go_num, _, by rw [← HX.out]; exact hs2, hm2, hl2⟩
        case measure => (simp [intOf]; try omega)
    · have hik : i = K := by omega
      subst hik
      have hii : ¬ (i : Int) < (i : Int) := by omega
      go_wp2
      exact bodyPost_ret (results_none rfl _ _ _) rfl ⟨⟨_, rfl⟩, v', ho, hm, hli⟩
end Go.Proofs.YtcedecljbgailaaDoor
