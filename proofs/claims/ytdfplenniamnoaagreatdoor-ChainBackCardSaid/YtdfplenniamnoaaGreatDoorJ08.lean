/- package pack: isSize, Out.Num · package pack: Out.Count, Text, Hash, Bytes; slices.Clone · reading integers, counts, texts, digests off bytes: as the reference does it. Nothing of the program. · counts as the package reads them; what was put is read, what was read is put again. Nothing of the program. · the reference's ReadNum · the reference's ReadNum: a number that is there · package pack: a reader; Read, fail, take · the reference's ReadNum: whatever is read · package pack: In.Num, above, Count, Text, Hash, Left, End; Read · package pack: In.Count, Text, Hash, Left, End; Read · package pack: In.Hash · the reference's put (mktxt.py) · the reference's Bytes, Base, Weight -/
import Derived.Test.YtdfplenniamnoaaGreatDoorJ06
import Derived.Test.YtdfplenniamnoaaGreatDoorJ01
import Derived.Deep.RegionLaw
import Derived.Deep.RegionHeld3
import Derived.Lib.SliceRun
import Derived.Test.YtdfplenniamnoaaGreatDoorJ03
import Derived.Test.YtdfplenniamnoaaGreatDoorJ04
import Derived.Test.YtdfplenniamnoaaGreatDoorJ07
/-! package pack: isSize, Out.Num -/
namespace Go.Proofs.YtdfplenniamnoaaGreatDoor
open Go Go.RowKit Go.ChangeShapes Go.WideShapes
/-- a buffer at block g whose slice is v: its bytes are l -/
def OutS (B : Nat) (w : World) (g : Nat) (v : Value) (l : List (BitVec 8)) : Prop := Has w g 165 #[v] ∧ OwnB 5 B w v l
def outF (g : Nat) (v : Value) : Nat → Prop := fun k => k = g ∨ v.ownBlock = some k
/-- behind a call that puts -/
def OutPost (B g : Nat) (v : Value) (l : List (BitVec 8)) (w0 : World) (e : Ending) (w' : World) : Prop :=
  (∃ u, e = .returned u) ∧ ∃ v', OutS B w' g v' l ∧ Moved (outF g v) w0 w' ∧ Lies w0 v v'
theorem OutS.apart {B : Nat} {w : World} {g : Nat} {v : Value} {l : List (BitVec 8)} (h : OutS B w g v l) : ∀ k, v.ownBlock = some k → k ≠ g := h.2.apart h.1 (by rfl)
theorem outF_lies {w : World} {g : Nat} {v v' : Value} (h : Lies w v v') : ∀ k, outF g v' k → outF g v k ∨ w.heap.size ≤ k := fun k hk => hk.elim (fun e => .inl (.inl e)) (fun e => (h k e).elim (fun e => .inl (.inr e)) .inr)
theorem OutPost.then {B g : Nat} {v v1 : Value} {l : List (BitVec 8)} {w0 w1 : World} (hm : Moved (outF g v) w0 w1) (hl : Lies w0 v v1) {e : Ending} {w' : World} (h : OutPost B g v1 l w1 e w') : OutPost B g v l w0 e w' := by
  obtain ⟨hu, v', h1, h2, h3⟩ := h
  exact ⟨hu, v', h1, hm.trans h2 (outF_lies hl), hl.trans h3 hm.size⟩
/-- the buffer's bytes appended to, and the new slice stored -/
theorem OutS.grow {B : Nat} {w0 w w1 w2 : World} {g : Nat} {v0 v a : Value} {l m : List (BitVec 8)} (h : OutS B w g v l) (hm : Moved (outF g v0) w0 w) (hli : Lies w0 v0 v) (hb : Below w.heap.size w w1) (hg : w1.grownBy w2 v.ownBlock) (ho : OwnB 5 B w2 a m) (hl : Lies w1 v a) :
    Has w2 g 165 #[v] ∧ OutS B (w2.setCell ⟨g, 0, none⟩ a) g a m ∧ Moved (outF g v0) w0 (w2.setCell ⟨g, 0, none⟩ a) ∧ Lies w0 v0 a := by
  have h1 : Has w1 g 165 #[v] := h.1.under hb h.1.lt
  have h2 : Has w2 g 165 #[v] := h1.moved (F := fun k => v.ownBlock = some k) (Moved.of_grown hg (fun _ e => e)) (fun e => h.apart g e rfl)
  have hap := ho.apart h2 (by rfl)
  have hm1 : Moved (outF g v0) w0 w1 := hm.then hb
  have hm2 : Moved (outF g v0) w0 w2 := hm1.trans (G := fun k => v.ownBlock = some k) (Moved.of_grown hg (fun _ e => e)) (fun k e => (hli k e).elim (fun e => .inl (.inr e)) .inr)
  exact ⟨h2, ⟨h2.put 0 a, ho.moved (F := fun k => k = g) ⟨rfl, rfl, rfl, by simp, fun k hk hf => Below.heap_setCell w2 _ a k hf⟩ hap⟩, hm2.put (.inl (.inl rfl)) 0 a, hli.trans hl hm1.size⟩
theorem isSize_no (z : Int) (hz : ¬ Pk.okSize z) (w : World) : Calls Tryz.prog 135 #[.int .i64 z] w fun e w' => e = .returned (.bool false) ∧ w = w' := by
  unfold Pk.okSize at hz
  have h1 : (z == 1) = false := by simp; omega
  have h2 : (z == 2) = false := by simp; omega
  have h4 : (z == 4) = false := by simp; omega
  have h8 : (z == 8) = false := by simp; omega
  clear hz
  go_enter Tryz.func135, Tryz.ntmps135
  go_wp2
  go_ret
  exact ⟨rfl, rfl⟩
theorem isSize_ok (z : Int) (hz : Pk.okSize z) (w : World) : Calls Tryz.prog 135 #[.int .i64 z] w fun e w' => e = .returned (.bool true) ∧ w = w' := by
  unfold Pk.okSize at hz
  rcases hz with rfl | rfl | rfl | rfl <;>
  · go_enter Tryz.func135, Tryz.ntmps135
    go_wp2
    go_ret
    exact ⟨rfl, rfl⟩
theorem outNum_no (g : Nat) (x : BitVec 64) (z : Int) (hz : ¬ Pk.okSize z) (w : World) : Calls Tryz.prog 93 #[.pointer (some ⟨g, 0, none⟩), .int .u64 (nb64 x), .int .i64 z] w fun e w' => (∃ u, e = .returned u) ∧ w = w' := by
  have HI := Lib.hid (isSize_no z hz w)
  clear hz
  go_enter Tryz.func93, Tryz.ntmps93
  go_wp2_with (go_at_call 135; refine HI.out.mono ?_; rintro e w' ⟨rfl, rfl⟩)
  exact bodyPost_ret (results_none rfl _ _ _) rfl ⟨⟨_, rfl⟩, rfl⟩
set_option maxRecDepth 100000 in
set_option maxHeartbeats 4000000 in
theorem outNum_ok (B g : Nat) (v : Value) (l : List (BitVec 8)) (x : BitVec 64) (K : Nat) (hK : Pk.okSize K) (hl : l.length ≤ 1000000) (w : World) (h : OutS B w g v l) (hBw : B ≤ w.heap.size) :
    Calls Tryz.prog 93 #[.pointer (some ⟨g, 0, none⟩), .int .u64 (nb64 x), .int .i64 K] w (OutPost B g v (l ++ Pk.le x K) w) := by
  have HI := Lib.hid (isSize_ok K hK w)
  have hK8 : K ≤ 8 := by unfold Pk.okSize at hK; omega
  have HL := Lib.hid hl
  have HS := Lib.hid h
  have HBW := Lib.hid hBw
  clear hK hl h hBw
  go_enter Tryz.func93, Tryz.ntmps93
  go_wp2_with (go_at_call 135; refine HI.out.mono ?_; rintro e w' ⟨rfl, rfl⟩)
  go_loopw [15] (fun iv wr => ∃ i : Nat, i ≤ K ∧ iv = .int .i64 i ∧ ∃ v', OutS B wr g v' (l ++ Pk.le x i) ∧ Moved (outF g v) w wr ∧ Lies w v v') (fun iv _ => K - (intOf iv).toNat)
  case atStart => exact ⟨0, Nat.zero_le _, rfl, v, by simpa [Pk.le] using HS.out, Moved.refl _ _, Lies.refl _ _⟩
  case round =>
    obtain ⟨i, hi, rfl, v', ho, hm, hli⟩ := hrel
    by_cases hlt : i < K
    · have hii : (i : Int) < (K : Int) := by omega
      have HX := Lib.hid (show (l ++ Pk.le x i) ++ [(x >>> (8 * i)).setWidth 8] = l ++ Pk.le x (i + 1) by rw [Pk.le_snoc, List.append_assoc])
      obtain ⟨M, hM⟩ : ∃ M, (l ++ Pk.le x i ++ [(x >>> (8 * i)).setWidth 8]).length = M := ⟨_, rfl⟩
      have HM := Lib.hid hM
      clear hM
      have HLE := Lib.hid (show (l ++ Pk.le x i).length + 1 ≤ 1099511627776 by rw [List.length_append, Pk.le_len]; have := HL.out; omega)
      have c0 : wr.cell? ⟨g, 0, none⟩ = some v' := ho.1.cell_at rfl
      have f0 : wr.frozen? ⟨g, 0, none⟩ = false := ho.1.loose 0
      have cA : (wr.alloc (.cells #[.int .u8 (nb8 ((x >>> (8 * i)).setWidth 8))] 5)).cell? ⟨g, 0, none⟩ = some v' := (ho.1.past _).cell_at rfl
      have hwi : IntKind.i64.wrap ((i : Int)) = (i : Int) := IntWalk.i64_in _ (by omega)
      have hw8 : IntKind.i64.wrap (8 * (i : Int)) = ((8 * i : Nat) : Int) := by rw [IntWalk.i64_in _ (by omega)]; omega
      have HO := Lib.hid ho
      have HN := Lib.hid (show ∀ w2, w2 = wr.drew.alloc (.cells #[.int .u8 (nb8 ((x >>> (8 * i)).setWidth 8))] 5) → Bytes8 w2 (some ⟨wr.heap.size, 0, none⟩) 1 [(x >>> (8 * i)).setWidth 8] from fun w2 e => by
        subst e
        refine ⟨rfl, by unfold maxLen; omega, fun j hj => ⟨_, rfl, ?_⟩⟩
        obtain rfl : j = 0 := by omega
        exact (Has.fresh wr.drew 5 _).cell_at rfl)
      have HBR := Lib.hid (show B ≤ (wr.drew.alloc (.cells #[.int .u8 (nb8 ((x >>> (8 * i)).setWidth 8))] 5)).heap.size by have := hm.size; have := HBW.out; simp; omega)
      clear ho
      have hshr : ∀ t, binOp .shr t (.int .u64 (nb64 x)) (.int .i64 (8 * (i : Int))) = pure (.int .u64 (nb64 (x >>> (8 * i)))) := fun t => by
        have := u64_shr_n t .i64 x (8 * i)
        rwa [show ((8 * i : Nat) : Int) = 8 * (i : Int) by omega] at this
      go_upto_region 4 with fail
      go_region_law (refine step_append_bytes_at (by rfl) (.tmp 22) (.tmp 28) 163 rfl 5 Tryz.underlying163 info_byte B v' (l ++ Pk.le x i) (by simp [Act.eval]) (HO.out.2.below (((Below.refl _ _).drew).alloc (Nat.le_refl _) _)) (some ⟨wr.heap.size, 0, none⟩) 1 1 [(x >>> (8 * i)).setWidth 8] (by simp [Act.eval]) (HN.out _ rfl) (fun e => by cases e) HLE.out HBR.out ?_; intro v2 w2 h1 h2 h3; obtain ⟨a2, c2, rfl, _, _, _⟩ := h1.shape HM.out; obtain ⟨hg2, hs2, hm2, hl2⟩ := HO.out.grow hm hli (((Below.refl _ _).drew).alloc (Nat.le_refl _) _) h2 h1 h3; have hc2 := hg2.cell_at (i := 0) rfl; have hf2 := hg2.loose 0)
      all_goals
        go_wp2
        go_roundw
        case rel => exact ⟨i + 1, by omega, by go_num, _, by rw [← HX.out]; exact hs2, hm2, hl2⟩
        case measure => (simp [intOf]; try omega)
    · have hik : i = K := by omega
      subst hik
      have hii : ¬ (i : Int) < (i : Int) := by omega
      go_wp2
      exact bodyPost_ret (results_none rfl _ _ _) rfl ⟨⟨_, rfl⟩, v', ho, hm, hli⟩
end Go.Proofs.YtdfplenniamnoaaGreatDoor

/-! package pack: Out.Count, Text, Hash, Bytes; slices.Clone -/
namespace Go.Proofs.YtdfplenniamnoaaGreatDoor
open Go Go.RowKit Go.ChangeShapes Go.WideShapes
theorem OutPost.same {B g : Nat} {v : Value} {l l' : List (BitVec 8)} {w : World} (h : OutS B w g v l) (hl : l = l') {e : Ending} (hu : ∃ u, e = .returned u) : OutPost B g v l' w e w := by
  subst hl
  exact ⟨hu, v, h, Moved.refl _ _, Lies.refl _ _⟩
theorem outNum_any (B g : Nat) (v : Value) (l : List (BitVec 8)) (x : BitVec 64) (z : Int) (hl : l.length ≤ 1000000) (w : World) (h : OutS B w g v l) (hBw : B ≤ w.heap.size) :
    Calls Tryz.prog 93 #[.pointer (some ⟨g, 0, none⟩), .int .u64 (nb64 x), .int .i64 z] w (OutPost B g v (l ++ Pk.num x z) w) := by
  unfold Pk.num
  by_cases hz : Pk.okSize z
  · rw [if_pos hz]
    have hK : ∃ K : Nat, z = K := ⟨z.toNat, by unfold Pk.okSize at hz; omega⟩
    obtain ⟨K, rfl⟩ := hK
    exact outNum_ok B g v l x K hz hl w h hBw
  · rw [if_neg hz]
    refine (outNum_no g x z hz w).mono ?_
    rintro e w' ⟨hu, rfl⟩
    exact OutPost.same h (by simp) hu
set_option maxRecDepth 100000 in
set_option maxHeartbeats 4000000 in
theorem outCount_big (B g : Nat) (v : Value) (l : List (BitVec 8)) (z : Int) (t : BitVec 8) (K : Nat) (hK : t = 253#8 ∧ K = 2 ∧ 252 < z ∧ z ≤ 65535 ∨ t = 254#8 ∧ K = 4 ∧ 65535 < z ∧ z ≤ 4294967295 ∨ t = 255#8 ∧ K = 8 ∧ 4294967295 < z) (hl : l.length ≤ 999999) (w : World) (h : OutS B w g v l) (hBw : B ≤ w.heap.size) :
    Calls Tryz.prog 191 #[.pointer (some ⟨g, 0, none⟩), .int .i64 z] w (OutPost B g v (l ++ ([t] ++ Pk.le (BitVec.ofInt 64 z) K)) w) := by
  have hcv := int_to_u64 z
  obtain ⟨x, hx⟩ : ∃ x, x = BitVec.ofInt 64 z := ⟨_, rfl⟩
  rw [← hx] at hcv ⊢
  have H1 : ∀ n : BitVec 64, OutS B w g v l → Calls Tryz.prog 93 #[.pointer (some ⟨g, 0, none⟩), .int .u64 (nb64 n), .int .i64 1] w (OutPost B g v (l ++ [n.setWidth 8]) w) := fun n h => by
    have := outNum_ok B g v l n 1 (.inl rfl) (by omega) w h hBw
    rwa [show Pk.le n 1 = [n.setWidth 8] by simp [Pk.le]] at this
  have H2 : ∀ (v1 : Value) (w1 : World), OutS B w1 g v1 (l ++ [t]) → Moved (outF g v) w w1 → Calls Tryz.prog 93 #[.pointer (some ⟨g, 0, none⟩), .int .u64 (nb64 x), .int .i64 K] w1 (OutPost B g v1 ((l ++ [t]) ++ Pk.le x K) w1) := fun v1 w1 h hm =>
    outNum_ok B g v1 (l ++ [t]) x K (by unfold Pk.okSize; omega) (by simp; omega) w1 h (Nat.le_trans hBw hm.size)
  have HA := Lib.hid (show l ++ [t] ++ Pk.le x K = l ++ ([t] ++ Pk.le x K) by rw [List.append_assoc])
  have HS := Lib.hid h
  clear hx h hBw
  rcases hK with ⟨rfl, rfl, h1, h2⟩ | ⟨rfl, rfl, h1, h2⟩ | ⟨rfl, rfl, h1⟩
  case' inl => have G1 := Lib.hid (show Calls Tryz.prog 93 #[.pointer (some ⟨g, 0, none⟩), .int .u64 253, .int .i64 1] w (OutPost B g v (l ++ [253#8]) w) from H1 253#64 HS.out)
  case' inr.inl => have G1 := Lib.hid (show Calls Tryz.prog 93 #[.pointer (some ⟨g, 0, none⟩), .int .u64 254, .int .i64 1] w (OutPost B g v (l ++ [254#8]) w) from H1 254#64 HS.out)
  case' inr.inr => have G1 := Lib.hid (show Calls Tryz.prog 93 #[.pointer (some ⟨g, 0, none⟩), .int .u64 255, .int .i64 1] w (OutPost B g v (l ++ [255#8]) w) from H1 255#64 HS.out)
  case' inl => have hz3 : z ≤ 65535 := h2
  case' inr.inl => have hz3 : ¬ (z ≤ 65535) := by omega
  case' inr.inr => have hz3 : ¬ (z ≤ 65535) := by omega
  case' inl => have hz4 : z ≤ 4294967295 := by omega
  case' inr.inl => have hz4 : z ≤ 4294967295 := by omega
  case' inr.inr => have hz4 : ¬ (z ≤ 4294967295) := by omega
  all_goals
    have hz1 : ¬ (z < 0) := by omega
    have hz2 : ¬ (z ≤ 252) := by omega
    have G2 := Lib.hid H2
    clear H1 H2 h1
    try clear h2
    go_enter Tryz.func191, Tryz.ntmps191
    go_wp2_with (first
      | (go_at_call 93; refine (G2.out _ _ hs1 hm1).mono ?_; intro e w2 hp2; obtain ⟨⟨u2, rfl⟩, v2, hs2, hm2, hl2⟩ := hp2.then hm1 hl1)
      | (go_at_call 93; (with_reducible refine G1.out.mono ?_); rintro e w1 ⟨⟨u1, rfl⟩, v1, hs1, hm1, hl1⟩))
    exact bodyPost_ret (results_none rfl _ _ _) rfl ⟨⟨_, rfl⟩, v2, HA.out ▸ hs2, hm2, hl2⟩
set_option maxHeartbeats 4000000 in
theorem outCount_any (B g : Nat) (v : Value) (l : List (BitVec 8)) (z : Int) (hl : l.length ≤ 999999) (w : World) (h : OutS B w g v l) (hBw : B ≤ w.heap.size) :
    Calls Tryz.prog 191 #[.pointer (some ⟨g, 0, none⟩), .int .i64 z] w (OutPost B g v (l ++ Pk.count z) w) := by
  unfold Pk.count
  by_cases h0 : z < 0
  · rw [if_pos h0]
    have HS := Lib.hid h
    clear h
    go_enter Tryz.func191, Tryz.ntmps191
    go_wp2
    exact bodyPost_ret (results_none rfl _ _ _) rfl (OutPost.same HS.out (by simp) ⟨_, rfl⟩)
  · rw [if_neg h0]
    by_cases h1 : z ≤ 252
    · rw [if_pos h1]
      have hcv := int_to_u64 z
      obtain ⟨x, hx⟩ : ∃ x, x = BitVec.ofInt 64 z := ⟨_, rfl⟩
      rw [← hx] at hcv ⊢
      have G := Lib.hid (outNum_ok B g v l x 1 (.inl rfl) (by omega) w h hBw)
      clear hx h
      go_enter Tryz.func191, Tryz.ntmps191
      go_wp2_with (go_at_call 93; refine G.out.mono ?_; rintro e w1 ⟨⟨u1, rfl⟩, v1, hs1, hm1, hl1⟩)
      exact bodyPost_ret (results_none rfl _ _ _) rfl ⟨⟨_, rfl⟩, v1, hs1, hm1, hl1⟩
    · rw [if_neg h1]
      by_cases h2 : z ≤ 65535
      · rw [if_pos h2]
        exact outCount_big B g v l z _ 2 (.inl ⟨rfl, rfl, by omega, h2⟩) hl w h hBw
      · rw [if_neg h2]
        by_cases h3 : z ≤ 4294967295
        · rw [if_pos h3]
          exact outCount_big B g v l z _ 4 (.inr (.inl ⟨rfl, rfl, by omega, h3⟩)) hl w h hBw
        · rw [if_neg h3]
          exact outCount_big B g v l z _ 8 (.inr (.inr ⟨rfl, rfl, by omega⟩)) hl w h hBw
set_option maxHeartbeats 4000000 in
theorem outText_any (B g : Nat) (v : Value) (l s : List (BitVec 8)) (hl : l.length ≤ 900000) (hs : s.length ≤ 1000000) (w : World) (h : OutS B w g v l) (hBw : B ≤ w.heap.size) :
    Calls Tryz.prog 186 #[.pointer (some ⟨g, 0, none⟩), .string (strB s)] w (OutPost B g v (l ++ Pk.text s) w) := by
  have hsz := strB_size s
  obtain ⟨n, hn⟩ : ∃ n, n = s.length := ⟨_, rfl⟩
  have HX := Lib.hid (show (l ++ Pk.count n) ++ s = l ++ Pk.text s by unfold Pk.text; rw [List.append_assoc, hn])
  have HL := Lib.hid (show (l ++ Pk.count n).length + s.length ≤ 1099511627776 by rw [List.length_append]; have := Pk.count_le n; omega)
  obtain ⟨M, hM⟩ : ∃ M, (l ++ Pk.count n ++ s).length = M := ⟨_, rfl⟩
  have HM := Lib.hid hM
  have HB := Lib.hid hBw
  have HC := Lib.hid (outCount_any B g v l (n : Int) (by omega) w h hBw)
  rw [← hn] at hsz
  clear hl hs hM hBw h hn
  go_enter Tryz.func186, Tryz.ntmps186
  go_upto_region 2 with (go_at_call 191; refine HC.out.mono ?_; rintro e w1 ⟨⟨u1, rfl⟩, v1, hs1, hm1, hl1⟩)
  have c0 : w1.cell? ⟨g, 0, none⟩ = some v1 := hs1.1.cell_at rfl
  have f0 : w1.frozen? ⟨g, 0, none⟩ = false := hs1.1.loose 0
  have HS1 := Lib.hid hs1
  clear hs1
  go_wp2_with (at_builtin; refine wpList_append_str_at rfl (.tmp 14) (.tmp 15) 163 9 rfl 5 Tryz.underlying163 Tryz.underlying9 info_byte B v1 _ rfl HS1.out.2 s rfl HL.out (Nat.le_trans HB.out hm1.size) ?_; intro v2 w2 h1 h2 h3; obtain ⟨a2, c2, rfl, _, _, _⟩ := h1.shape HM.out; obtain ⟨hg2, hs2, hm2, hl2⟩ := HS1.out.grow hm1 hl1 (Below.refl _ _) h2 h1 h3; have hc2 := hg2.cell_at (i := 0) rfl; have hf2 := hg2.loose 0)
  exact bodyPost_ret (results_none rfl _ _ _) rfl ⟨⟨_, rfl⟩, _, by rw [← HX.out]; exact hs2, hm2, hl2⟩
set_option maxRecDepth 100000 in
set_option maxHeartbeats 4000000 in
theorem outHash_any (B g : Nat) (v : Value) (l s : List (BitVec 8)) (hl : l.length ≤ 1000000) (hs : s.length = 32) (w : World) (h : OutS B w g v l) (hBw : B ≤ w.heap.size) :
    Calls Tryz.prog 92 #[.pointer (some ⟨g, 0, none⟩), .agg (blist s).toArray] w (OutPost B g v (l ++ s) w) := by
  have HL := Lib.hid (show l.length + 32 ≤ 1099511627776 by omega)
  obtain ⟨w0, hw0⟩ : ∃ x, x = w.alloc (.cells (blist s).toArray 34) := ⟨_, rfl⟩
  have hb0 : Below w.heap.size w w0 := by rw [hw0]; exact (Below.refl _ _).alloc (Nat.le_refl _) _
  have HA := Lib.hid (show Bytes8 w0 (some ⟨w.heap.size, 0, none⟩) 32 s from ⟨hs, by unfold maxLen; omega, fun i hi => ⟨_, rfl, by
    rw [Addr.add_mid, Nat.zero_add, hw0]
    exact (Has.fresh w 34 _).cell_at (by rw [List.getElem?_toArray]; exact blist_at s i (by omega))⟩⟩)
  have HS := Lib.hid (show OutS B w0 g v l from ⟨h.1.under hb0 h.1.lt, h.2.below hb0⟩)
  have HB := Lib.hid (Nat.le_trans hBw hb0.size)
  have HM := Lib.hid (show (l ++ s).length = l.length + 32 by simp [hs])
  obtain ⟨M, hM⟩ : ∃ M, M = l.length + 32 := ⟨_, rfl⟩
  rw [← hM] at HM
  have c0 : w0.cell? ⟨g, 0, none⟩ = some v := HS.out.1.cell_at rfl
  have f0 : w0.frozen? ⟨g, 0, none⟩ = false := HS.out.1.loose 0
  have HW0 := Lib.hid hw0
  clear hl hs h hBw hM hw0
  go_enter Tryz.func92, Tryz.ntmps92
  go_upto_region 2 with fail
  rw [← HW0.out]
  go_region_law (refine step_append_bytes_at (by rfl) (.tmp 10) (.tmp 11) 163 rfl 5 Tryz.underlying163 info_byte B v l (by simp [Act.eval]) (HS.out.2.below (Below.refl _ _).drew) (some ⟨w.heap.size, 0, none⟩) 32 32 s (by simp [Act.eval]) HA.out.draw (fun e => by cases e) HL.out HB.out ?_; intro v2 w2 h1 h2 h3; obtain ⟨a2, c2, rfl, _, _, _⟩ := h1.shape HM.out; obtain ⟨hg2, hs2, hm2, hl2⟩ := HS.out.grow (Moved.of_below hb0) ((Lies.refl w v).up (Nat.le_refl _)) (Below.refl _ _).drew h2 h1 h3; have hc2 := hg2.cell_at (i := 0) rfl; have hf2 := hg2.loose 0)
  all_goals
    go_wp2
    exact bodyPost_ret (results_none rfl _ _ _) rfl ⟨⟨_, rfl⟩, _, hs2, hm2, hl2⟩
set_option maxHeartbeats 4000000 in
theorem clone8_any (a : Option Addr) (n c : Nat) (l : List (BitVec 8)) (w : World) (h : Bytes8 w a n l) (hc : a = none → c = 0) (hn : n ≤ 1000000000) :
    Calls Tryz.prog 138 #[.slice a n c] w (BytesPost8 5 w.heap.size l w) := by
  cases a with
  | none =>
    obtain rfl := hc rfl
    have h0 : n = 0 := by
      rcases Nat.eq_zero_or_pos n with h0 | h0
      · exact h0
      · obtain ⟨_, e, _⟩ := h.2.2 0 h0
        cases e
    subst h0
    obtain rfl := List.length_eq_zero_iff.1 h.1
    have hq := Lib.run_eql_slice_nil (P := Tryz.prog) w 163 5 none 0 0 0 0 Tryz.underlying163
    go_enter Tryz.func138, Tryz.ntmps138
    go_wp2
    go_ret
    exact ⟨_, rfl, OwnB.nil _ _ _, Below.refl _ _⟩
  | some x =>
    have HB := Lib.hid ((Below.refl w.heap.size w).alloc (Nat.le_refl _) (.cells #[] 5))
    have HO := Lib.hid (show OwnB 5 w.heap.size (w.alloc (.cells #[] 5)) (.slice (some ⟨w.heap.size, 0, none⟩) 0 0) [] from OwnB.empty (Nat.le_refl _) (Has.fresh _ _ _))
    have HA := Lib.hid (h.past (.cells #[] 5))
    have HN := Lib.hid hn
    have hq := Lib.run_eql_slice_nil (P := Tryz.prog) w 163 5 (some x) n c 0 0 Tryz.underlying163
    clear h hn hc
    go_enter Tryz.func138, Tryz.ntmps138
    go_wp2_with (at_builtin; refine wpList_append_bytes rfl (.tmp 5) (.tmp 6) 163 rfl 5 Tryz.underlying163 info_byte w.heap.size _ _ rfl HO.out (some x) n c _ rfl HA.out (fun e => by cases e) (by have := HN.out; simp; omega) (by simp) ?_; intro v3 w3 ho3 hg3)
    go_ret
    exact ⟨_, rfl, ho3, below_own_rowb HB.out hg3 HO.out.lt⟩
set_option maxHeartbeats 4000000 in
theorem outBytes_any (B g : Nat) (v : Value) (l : List (BitVec 8)) (hl : l.length ≤ 1000000) (w : World) (h : OutS B w g v l) :
    Calls Tryz.prog 97 #[.pointer (some ⟨g, 0, none⟩)] w (BytesPost8 5 w.heap.size l w) := by
  have c0 : w.cell? ⟨g, 0, none⟩ = some v := h.1.cell_at rfl
  obtain ⟨M, hM⟩ : ∃ M, l.length = M := ⟨_, rfl⟩
  obtain ⟨a, c, rfl, hc, h0, hB⟩ := h.2.shape hM
  have HC := Lib.hid (clone8_any a M c l w hB h0 (by omega))
  clear h hM hB h0 hl
  go_enter Tryz.func97, Tryz.ntmps97
  go_wp2_with (go_at_call 138; refine HC.out.mono ?_; rintro e w1 ⟨v1, rfl, hv1, hb1⟩)
  go_ret
  exact ⟨_, rfl, hv1, hb1⟩
end Go.Proofs.YtdfplenniamnoaaGreatDoor

/-! reading integers, counts, texts, digests off bytes: as the reference does it. Nothing of the program. -/
namespace Go.Proofs.YtdfplenniamnoaaGreatDoor.Pk
open Go.Proofs.YtdfplenniamnoaaGreatDoor
end Go.Proofs.YtdfplenniamnoaaGreatDoor.Pk

/-! counts as the package reads them; what was put is read, what was read is put again. Nothing of the program. -/
namespace Go.Proofs.YtdfplenniamnoaaGreatDoor.Pk
open Go.Proofs.YtdfplenniamnoaaGreatDoor
/-! counts, as the package reads them -/
end Go.Proofs.YtdfplenniamnoaaGreatDoor.Pk

/-! the reference's ReadNum -/
namespace Go.Proofs.YtdfplenniamnoaaGreatDoor
open Go Go.RowKit Go.ChangeShapes Go.WideShapes
end Go.Proofs.YtdfplenniamnoaaGreatDoor

/-! the reference's ReadNum: a number that is there -/
namespace Go.Proofs.YtdfplenniamnoaaGreatDoor
open Go Go.RowKit Go.ChangeShapes Go.WideShapes
end Go.Proofs.YtdfplenniamnoaaGreatDoor

/-! package pack: a reader; Read, fail, take -/
namespace Go.Proofs.YtdfplenniamnoaaGreatDoor
open Go Go.RowKit Go.ChangeShapes Go.WideShapes
end Go.Proofs.YtdfplenniamnoaaGreatDoor

/-! the reference's ReadNum: whatever is read -/
namespace Go.Proofs.YtdfplenniamnoaaGreatDoor
open Go Go.RowKit Go.ChangeShapes Go.WideShapes
end Go.Proofs.YtdfplenniamnoaaGreatDoor

/-! package pack: In.Num, above, Count, Text, Hash, Left, End; Read -/
namespace Go.Proofs.YtdfplenniamnoaaGreatDoor
open Go Go.RowKit Go.ChangeShapes Go.WideShapes
end Go.Proofs.YtdfplenniamnoaaGreatDoor

/-! package pack: In.Count, Text, Hash, Left, End; Read -/
namespace Go.Proofs.YtdfplenniamnoaaGreatDoor
open Go Go.RowKit Go.ChangeShapes Go.WideShapes
end Go.Proofs.YtdfplenniamnoaaGreatDoor

/-! package pack: In.Hash -/
namespace Go.Proofs.YtdfplenniamnoaaGreatDoor
open Go Go.RowKit Go.ChangeShapes Go.WideShapes
end Go.Proofs.YtdfplenniamnoaaGreatDoor

/-! the reference's put (mktxt.py) -/
namespace Go.Proofs.YtdfplenniamnoaaGreatDoor
open Go Go.RowKit Go.ChangeShapes Go.WideShapes
theorem Tx.take_snoc {α : Type} {l : List α} {i : Nat} {x : α} (h : l[i]? = some x) : l.take (i + 1) = l.take i ++ [x] := by
  obtain ⟨h2, h3⟩ := List.getElem?_eq_some_iff.1 h
  rw [List.take_succ_eq_append_getElem h2, h3]
end Go.Proofs.YtdfplenniamnoaaGreatDoor

/-! the reference's Bytes, Base, Weight -/
namespace Go.Proofs.YtdfplenniamnoaaGreatDoor
open Go Go.RowKit Go.ChangeShapes Go.WideShapes
theorem Tx.encSp_len (all : Bool) (s : Tx.Sp) (h : s.h.length = 32) (hk : s.key.length ≤ 5000) : (Tx.encSp all s).length ≤ 5060 := by
  unfold Tx.encSp
  cases all
  · simp [Pk.le_len, h]
  · have := Pk.count_le (s.key.length : Int)
    simp [Pk.le_len, h, Pk.text]
    omega
theorem Tx.flat_len {α : Type} (f : α → List (BitVec 8)) (k : Nat) : ∀ l : List α, (∀ x, x ∈ l → (f x).length ≤ k) → (l.flatMap f).length ≤ k * l.length
  | [], _ => by simp
  | x :: l, h => by
    have ih := Tx.flat_len f k l (fun y hy => h y (List.mem_cons_of_mem _ hy))
    have h1 := h x List.mem_cons_self
    rw [List.flatMap_cons, List.length_append, List.length_cons, Nat.mul_add, Nat.mul_one]
    omega
theorem Tx.enc_len (all : Bool) (t : Tx.T) (hs : Tx.Small t) (hh : ∀ s, s ∈ t.sp → s.h.length = 32) : (Tx.enc all t).length ≤ 200000 := by
  have h1 := Tx.flat_len (Tx.encSp all) 5060 t.sp (fun s hx => Tx.encSp_len all s (hh s hx) (hs.2.2 s hx))
  have h2 := Tx.flat_len Tx.encCo 16 t.co (fun c _ => by simp [Tx.encCo, Pk.le_len])
  have h3 := Pk.count_le (t.sp.length : Int)
  have h4 := Pk.count_le (t.co.length : Int)
  have h5 := hs.1
  have h6 := hs.2.1
  unfold Tx.enc
  simp only [List.length_append, List.length_cons, List.length_nil]
  have h7 : 5060 * t.sp.length ≤ 5060 * 30 := Nat.mul_le_mul_left _ h5
  have h8 : 16 * t.co.length ≤ 16 * 30 := Nat.mul_le_mul_left _ h6
  omega
end Go.Proofs.YtdfplenniamnoaaGreatDoor
