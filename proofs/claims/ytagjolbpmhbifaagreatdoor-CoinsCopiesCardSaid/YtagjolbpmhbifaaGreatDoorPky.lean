/- reading integers, counts, texts, digests off bytes: as the reference does it. Nothing of the program. · package pack: isSize, Out.Num · package pack: Out.Count, Text, Hash, Bytes; slices.Clone · counts as the package reads them; what was put is read, what was read is put again. Nothing of the program. -/
import Derived.Test.YtagjolbpmhbifaaGreatDoorPkr
import Derived.Test.YtagjolbpmhbifaaGreatDoorLz
import Derived.Deep.RegionLaw
import Derived.Deep.RegionHeld3
import Derived.Lib.SliceRun
/-! reading integers, counts, texts, digests off bytes: as the reference does it. Nothing of the program. -/
namespace Go.Proofs.YtagjolbpmhbifaaGreatDoor.Pk
open Go.Proofs.YtagjolbpmhbifaaGreatDoor
/-- the number of r bytes from i on, low byte first -/
def leV (B : List (BitVec 8)) (i : Nat) : Nat → BitVec 64
  | 0 => 0
  | r + 1 => 256#64 * leV B (i + 1) r + (cb B i).setWidth 64
/-- a reader: what is left; none: it is wrong -/
abbrev Rd := Option (List (BitVec 8))
def left (s : Rd) : List (BitVec 8) := s.getD []
def rdNum (s : Rd) (z : Int) : Rd × BitVec 64 :=
  match s with
  | none => (none, 0)
  | some B => if okSize z ∧ z ≤ B.length then (some (B.drop z.toNat), leV B 0 z.toNat) else (none, 0)
def rdSize (n : BitVec 64) : Int := if n = 254#64 then 4 else if n = 255#64 then 8 else 2
/-- behind the first byte -/
def rdMore (p : Rd × BitVec 64) : Rd × BitVec 64 := if 253 ≤ p.2.toNat then rdNum p.1 (rdSize p.2) else p
def rdCount (s : Rd) (most : Int) : Rd × Int :=
  let p := rdMore (rdNum s 1)
  match p.1 with
  | none => (none, 0)
  | some B => if 0 ≤ most ∧ (p.2.toNat : Int) ≤ most ∧ (count p.2.toNat).length + B.length = (left s).length then (some B, (p.2.toNat : Int)) else (none, 0)
def rdText (s : Rd) (most : Int) : Rd × List (BitVec 8) :=
  match (rdCount s most).1 with
  | none => (none, [])
  | some B => if (rdCount s most).2 ≤ B.length then (some (B.drop (rdCount s most).2.toNat), B.take (rdCount s most).2.toNat) else (none, [])
def rdHash (s : Rd) : Rd × List (BitVec 8) :=
  match s with
  | none => (none, List.replicate 32 0#8)
  | some B => if 32 ≤ B.length then (some (B.drop 32), B.take 32) else (none, List.replicate 32 0#8)
def atEnd (s : Rd) : Bool := match s with
  | some [] => true
  | _ => false
end Go.Proofs.YtagjolbpmhbifaaGreatDoor.Pk

/-! package pack: isSize, Out.Num -/
namespace Go.Proofs.YtagjolbpmhbifaaGreatDoor
open Go Go.RowKit Go.ChangeShapes Go.WideShapes
/-- a buffer at block g whose slice is v: its bytes are l -/
def OutS (B : Nat) (w : World) (g : Nat) (v : Value) (l : List (BitVec 8)) : Prop := Has w g 189 #[v] ∧ OwnB 5 B w v l
def outF (g : Nat) (v : Value) : Nat → Prop := fun k => k = g ∨ v.ownBlock = some k
/-- behind a call that puts -/
def OutPost (B g : Nat) (v : Value) (l : List (BitVec 8)) (w0 : World) (e : Ending) (w' : World) : Prop :=
  (∃ u, e = .returned u) ∧ ∃ v', OutS B w' g v' l ∧ Moved (outF g v) w0 w' ∧ Lies w0 v v'
theorem OutS.apart {B : Nat} {w : World} {g : Nat} {v : Value} {l : List (BitVec 8)} (h : OutS B w g v l) : ∀ k, v.ownBlock = some k → k ≠ g := h.2.apart h.1 (by rfl)
theorem outF_lies {w : World} {g : Nat} {v v' : Value} (h : Lies w v v') : ∀ k, outF g v' k → outF g v k ∨ w.heap.size ≤ k := fun k hk => hk.elim (fun e => .inl (.inl e)) (fun e => (h k e).elim (fun e => .inl (.inr e)) .inr)
theorem OutPost.then {B g : Nat} {v v1 : Value} {l : List (BitVec 8)} {w0 w1 : World} (hm : Moved (outF g v) w0 w1) (hl : Lies w0 v v1) {e : Ending} {w' : World} (h : OutPost B g v1 l w1 e w') : OutPost B g v l w0 e w' := by
  obtain ⟨hu, v', h1, h2, h3⟩ := h
  exact ⟨hu, v', h1, hm.trans h2 (outF_lies hl), hl.trans h3 hm.size⟩
/-- the buffer's bytes appended to, and the new slice stored -/
theorem OutS.grow {B : Nat} {w0 w w1 w2 : World} {g : Nat} {v0 v a : Value} {l m : List (BitVec 8)} (h : OutS B w g v l) (hm : Moved (outF g v0) w0 w) (hli : Lies w0 v0 v) (hb : Below w.heap.size w w1) (hg : w1.grownBy w2 v.ownBlock) (ho : OwnB 5 B w2 a m) (hl : Lies w1 v a) :
    Has w2 g 189 #[v] ∧ OutS B (w2.setCell ⟨g, 0, none⟩ a) g a m ∧ Moved (outF g v0) w0 (w2.setCell ⟨g, 0, none⟩ a) ∧ Lies w0 v0 a := by
  have h1 : Has w1 g 189 #[v] := h.1.under hb h.1.lt
  have h2 : Has w2 g 189 #[v] := h1.moved (F := fun k => v.ownBlock = some k) (Moved.of_grown hg (fun _ e => e)) (fun e => h.apart g e rfl)
  have hap := ho.apart h2 (by rfl)
  have hm1 : Moved (outF g v0) w0 w1 := hm.then hb
  have hm2 : Moved (outF g v0) w0 w2 := hm1.trans (G := fun k => v.ownBlock = some k) (Moved.of_grown hg (fun _ e => e)) (fun k e => (hli k e).elim (fun e => .inl (.inr e)) .inr)
  exact ⟨h2, ⟨h2.put 0 a, ho.moved (F := fun k => k = g) ⟨rfl, rfl, rfl, by simp, fun k hk hf => Below.heap_setCell w2 _ a k hf⟩ hap⟩, hm2.put (.inl (.inl rfl)) 0 a, hli.trans hl hm1.size⟩
theorem isSize_no (z : Int) (hz : ¬ Pk.okSize z) (w : World) : Calls Tryz.prog 141 #[.int .i64 z] w fun e w' => e = .returned (.bool false) ∧ w = w' := by
  unfold Pk.okSize at hz
  have h1 : (z == 1) = false := by simp; omega
  have h2 : (z == 2) = false := by simp; omega
  have h4 : (z == 4) = false := by simp; omega
  have h8 : (z == 8) = false := by simp; omega
  clear hz
  go_enter Tryz.func141, Tryz.ntmps141
  go_wp2
  go_ret
  exact ⟨rfl, rfl⟩
theorem isSize_ok (z : Int) (hz : Pk.okSize z) (w : World) : Calls Tryz.prog 141 #[.int .i64 z] w fun e w' => e = .returned (.bool true) ∧ w = w' := by
  unfold Pk.okSize at hz
  rcases hz with rfl | rfl | rfl | rfl <;>
  · go_enter Tryz.func141, Tryz.ntmps141
    go_wp2
    go_ret
    exact ⟨rfl, rfl⟩
theorem outNum_none (x : BitVec 64) (z : Int) (w : World) : Calls Tryz.prog 133 #[.pointer none, .int .u64 (nb64 x), .int .i64 z] w fun e w' => (∃ u, e = .returned u) ∧ w = w' := by
  go_enter Tryz.func133, Tryz.ntmps133
  go_wp2
  exact bodyPost_ret (results_none rfl _ _ _) rfl ⟨⟨_, rfl⟩, rfl⟩
theorem outNum_no (g : Nat) (x : BitVec 64) (z : Int) (hz : ¬ Pk.okSize z) (w : World) : Calls Tryz.prog 133 #[.pointer (some ⟨g, 0, none⟩), .int .u64 (nb64 x), .int .i64 z] w fun e w' => (∃ u, e = .returned u) ∧ w = w' := by
  have HI := Lib.hid (isSize_no z hz w)
  clear hz
  go_enter Tryz.func133, Tryz.ntmps133
  go_wp2_with (go_at_call 141; refine HI.out.mono ?_; rintro e w' ⟨rfl, rfl⟩)
  exact bodyPost_ret (results_none rfl _ _ _) rfl ⟨⟨_, rfl⟩, rfl⟩
set_option maxRecDepth 100000 in
set_option maxHeartbeats 4000000 in
theorem outNum_ok (B g : Nat) (v : Value) (l : List (BitVec 8)) (x : BitVec 64) (K : Nat) (hK : Pk.okSize K) (hl : l.length ≤ 1000000) (w : World) (h : OutS B w g v l) (hBw : B ≤ w.heap.size) :
    Calls Tryz.prog 133 #[.pointer (some ⟨g, 0, none⟩), .int .u64 (nb64 x), .int .i64 K] w (OutPost B g v (l ++ Pk.le x K) w) := by
  have HI := Lib.hid (isSize_ok K hK w)
  have hK8 : K ≤ 8 := by unfold Pk.okSize at hK; omega
  have HL := Lib.hid hl
  have HS := Lib.hid h
  have HBW := Lib.hid hBw
  clear hK hl h hBw
  go_enter Tryz.func133, Tryz.ntmps133
  go_wp2_with (go_at_call 141; refine HI.out.mono ?_; rintro e w' ⟨rfl, rfl⟩)
  go_loopw [15] (fun iv wr => ∃ i : Nat, i ≤ K ∧ iv = .int .i64 i ∧ ∃ v', OutS B wr g v' (l ++ Pk.le x i) ∧ Moved (outF g v) w wr ∧ Lies w v v') (fun iv _ => K - (intOf iv).toNat)
  case atStart => exact ⟨0, Nat.zero_le _, rfl, v, by simpa [Pk.le] using HS.out, Moved.refl _ _, Lies.refl _ _⟩
  case round =>
    obtain ⟨i, hi, rfl, v', ho, hm, hli⟩ := hrel
    by_cases hlt : i < K
    · have hii : (i : Int) < (K : Int) := by omega
      have HX := Lib.hid (show (l ++ Pk.le x i) ++ [(x >>> (8 * i)).setWidth 8] = l ++ Pk.le x (i + 1) by rw [Pk.le_snoc, List.append_assoc])
      obtain ⟨M, hM⟩ : ∃ M, (l ++ Pk.le x i ++ [(x >>> (8 * i)).setWidth 8]).length = M := ⟨_, rfl⟩
      have HM := Lib.hid hM
      clear hM
      have HLE := Lib.hid (show (l ++ Pk.le x i).length + 1 ≤ 1099511627776 by rw [List.length_append, Pk.le_len]; have := HL.out; omega)
      have c0 : wr.cell? ⟨g, 0, none⟩ = some v' := ho.1.cell_at rfl
      have f0 : wr.frozen? ⟨g, 0, none⟩ = false := ho.1.loose 0
      have cA : (wr.alloc (.cells #[.int .u8 (nb8 ((x >>> (8 * i)).setWidth 8))] 5)).cell? ⟨g, 0, none⟩ = some v' := (ho.1.past _).cell_at rfl
      have hwi : IntKind.i64.wrap ((i : Int)) = (i : Int) := IntWalk.i64_in _ (by omega)
      have hw8 : IntKind.i64.wrap (8 * (i : Int)) = ((8 * i : Nat) : Int) := by rw [IntWalk.i64_in _ (by omega)]; omega
      have HO := Lib.hid ho
      have HN := Lib.hid (show ∀ w2, w2 = wr.drew.alloc (.cells #[.int .u8 (nb8 ((x >>> (8 * i)).setWidth 8))] 5) → Bytes8 w2 (some ⟨wr.heap.size, 0, none⟩) 1 [(x >>> (8 * i)).setWidth 8] from fun w2 e => by
        subst e
        refine ⟨rfl, by unfold maxLen; omega, fun j hj => ⟨_, rfl, ?_⟩⟩
        obtain rfl : j = 0 := by omega
        exact (Has.fresh wr.drew 5 _).cell_at rfl)
      have HBR := Lib.hid (show B ≤ (wr.drew.alloc (.cells #[.int .u8 (nb8 ((x >>> (8 * i)).setWidth 8))] 5)).heap.size by have := hm.size; have := HBW.out; simp; omega)
      clear ho
      have hshr : ∀ t, binOp .shr t (.int .u64 (nb64 x)) (.int .i64 (8 * (i : Int))) = pure (.int .u64 (nb64 (x >>> (8 * i)))) := fun t => by
        have := u64_shr_n t .i64 x (8 * i)
        rwa [show ((8 * i : Nat) : Int) = 8 * (i : Int) by omega] at this
      go_upto_region 4 with fail
      go_region_law (refine step_append_bytes_at (by rfl) (.tmp 22) (.tmp 28) 116 rfl 5 Tryz.underlying116 info_byte B v' (l ++ Pk.le x i) (by simp [Act.eval]) (HO.out.2.below (((Below.refl _ _).drew).alloc (Nat.le_refl _) _)) (some ⟨wr.heap.size, 0, none⟩) 1 1 [(x >>> (8 * i)).setWidth 8] (by simp [Act.eval]) (HN.out _ rfl) (fun e => by cases e) HLE.out HBR.out ?_; intro v2 w2 h1 h2 h3; obtain ⟨a2, c2, rfl, _, _, _⟩ := h1.shape HM.out; obtain ⟨hg2, hs2, hm2, hl2⟩ := HO.out.grow hm hli (((Below.refl _ _).drew).alloc (Nat.le_refl _) _) h2 h1 h3; have hc2 := hg2.cell_at (i := 0) rfl; have hf2 := hg2.loose 0)
      all_goals
        go_wp2
        go_roundw
        case rel => exact ⟨i + 1, by omega, by go_num, _, by rw [← HX.out]; exact hs2, hm2, hl2⟩
        case measure => (simp [intOf]; try omega)
    · have hik : i = K := by omega
      subst hik
      have hii : ¬ (i : Int) < (i : Int) := by omega
      go_wp2
      exact bodyPost_ret (results_none rfl _ _ _) rfl ⟨⟨_, rfl⟩, v', ho, hm, hli⟩
end Go.Proofs.YtagjolbpmhbifaaGreatDoor

/-! package pack: Out.Count, Text, Hash, Bytes; slices.Clone -/
namespace Go.Proofs.YtagjolbpmhbifaaGreatDoor
open Go Go.RowKit Go.ChangeShapes Go.WideShapes
theorem OutPost.same {B g : Nat} {v : Value} {l l' : List (BitVec 8)} {w : World} (h : OutS B w g v l) (hl : l = l') {e : Ending} (hu : ∃ u, e = .returned u) : OutPost B g v l' w e w := by
  subst hl
  exact ⟨hu, v, h, Moved.refl _ _, Lies.refl _ _⟩
theorem outNum_any (B g : Nat) (v : Value) (l : List (BitVec 8)) (x : BitVec 64) (z : Int) (hl : l.length ≤ 1000000) (w : World) (h : OutS B w g v l) (hBw : B ≤ w.heap.size) :
    Calls Tryz.prog 133 #[.pointer (some ⟨g, 0, none⟩), .int .u64 (nb64 x), .int .i64 z] w (OutPost B g v (l ++ Pk.num x z) w) := by
  unfold Pk.num
  by_cases hz : Pk.okSize z
  · rw [if_pos hz]
    have hK : ∃ K : Nat, z = K := ⟨z.toNat, by unfold Pk.okSize at hz; omega⟩
    obtain ⟨K, rfl⟩ := hK
    exact outNum_ok B g v l x K hz hl w h hBw
  · rw [if_neg hz]
    refine (outNum_no g x z hz w).mono ?_
    rintro e w' ⟨hu, rfl⟩
    exact OutPost.same h (by simp) hu
set_option maxRecDepth 100000 in
set_option maxHeartbeats 4000000 in
theorem outCount_big (B g : Nat) (v : Value) (l : List (BitVec 8)) (z : Int) (t : BitVec 8) (K : Nat) (hK : t = 253#8 ∧ K = 2 ∧ 252 < z ∧ z ≤ 65535 ∨ t = 254#8 ∧ K = 4 ∧ 65535 < z ∧ z ≤ 4294967295 ∨ t = 255#8 ∧ K = 8 ∧ 4294967295 < z) (hl : l.length ≤ 999999) (w : World) (h : OutS B w g v l) (hBw : B ≤ w.heap.size) :
    Calls Tryz.prog 131 #[.pointer (some ⟨g, 0, none⟩), .int .i64 z] w (OutPost B g v (l ++ ([t] ++ Pk.le (BitVec.ofInt 64 z) K)) w) := by
  have hcv := int_to_u64 z
  obtain ⟨x, hx⟩ : ∃ x, x = BitVec.ofInt 64 z := ⟨_, rfl⟩
  rw [← hx] at hcv ⊢
  have H1 : ∀ n : BitVec 64, OutS B w g v l → Calls Tryz.prog 133 #[.pointer (some ⟨g, 0, none⟩), .int .u64 (nb64 n), .int .i64 1] w (OutPost B g v (l ++ [n.setWidth 8]) w) := fun n h => by
    have := outNum_ok B g v l n 1 (.inl rfl) (by omega) w h hBw
    rwa [show Pk.le n 1 = [n.setWidth 8] by simp [Pk.le]] at this
  have H2 : ∀ (v1 : Value) (w1 : World), OutS B w1 g v1 (l ++ [t]) → Moved (outF g v) w w1 → Calls Tryz.prog 133 #[.pointer (some ⟨g, 0, none⟩), .int .u64 (nb64 x), .int .i64 K] w1 (OutPost B g v1 ((l ++ [t]) ++ Pk.le x K) w1) := fun v1 w1 h hm =>
    outNum_ok B g v1 (l ++ [t]) x K (by unfold Pk.okSize; omega) (by simp; omega) w1 h (Nat.le_trans hBw hm.size)
  have HA := Lib.hid (show l ++ [t] ++ Pk.le x K = l ++ ([t] ++ Pk.le x K) by rw [List.append_assoc])
  have HS := Lib.hid h
  clear hx h hBw
  rcases hK with ⟨rfl, rfl, h1, h2⟩ | ⟨rfl, rfl, h1, h2⟩ | ⟨rfl, rfl, h1⟩
  case' inl => have G1 := Lib.hid (show Calls Tryz.prog 133 #[.pointer (some ⟨g, 0, none⟩), .int .u64 253, .int .i64 1] w (OutPost B g v (l ++ [253#8]) w) from H1 253#64 HS.out)
  case' inr.inl => have G1 := Lib.hid (show Calls Tryz.prog 133 #[.pointer (some ⟨g, 0, none⟩), .int .u64 254, .int .i64 1] w (OutPost B g v (l ++ [254#8]) w) from H1 254#64 HS.out)
  case' inr.inr => have G1 := Lib.hid (show Calls Tryz.prog 133 #[.pointer (some ⟨g, 0, none⟩), .int .u64 255, .int .i64 1] w (OutPost B g v (l ++ [255#8]) w) from H1 255#64 HS.out)
  case' inl => have hz3 : z ≤ 65535 := h2
  case' inr.inl => have hz3 : ¬ (z ≤ 65535) := by omega
  case' inr.inr => have hz3 : ¬ (z ≤ 65535) := by omega
  case' inl => have hz4 : z ≤ 4294967295 := by omega
  case' inr.inl => have hz4 : z ≤ 4294967295 := by omega
  case' inr.inr => have hz4 : ¬ (z ≤ 4294967295) := by omega
  all_goals
    have hz1 : ¬ (z < 0) := by omega
    have hz2 : ¬ (z ≤ 252) := by omega
    have G2 := Lib.hid H2
    clear H1 H2 h1
    try clear h2
    go_enter Tryz.func131, Tryz.ntmps131
    go_wp2_with (first
      | (go_at_call 133; refine (G2.out _ _ hs1 hm1).mono ?_; intro e w2 hp2; obtain ⟨⟨u2, rfl⟩, v2, hs2, hm2, hl2⟩ := hp2.then hm1 hl1)
      | (go_at_call 133; (with_reducible refine G1.out.mono ?_); rintro e w1 ⟨⟨u1, rfl⟩, v1, hs1, hm1, hl1⟩))
    exact bodyPost_ret (results_none rfl _ _ _) rfl ⟨⟨_, rfl⟩, v2, HA.out ▸ hs2, hm2, hl2⟩
set_option maxHeartbeats 4000000 in
theorem outCount_any (B g : Nat) (v : Value) (l : List (BitVec 8)) (z : Int) (hl : l.length ≤ 999999) (w : World) (h : OutS B w g v l) (hBw : B ≤ w.heap.size) :
    Calls Tryz.prog 131 #[.pointer (some ⟨g, 0, none⟩), .int .i64 z] w (OutPost B g v (l ++ Pk.count z) w) := by
  unfold Pk.count
  by_cases h0 : z < 0
  · rw [if_pos h0]
    have HS := Lib.hid h
    clear h
    go_enter Tryz.func131, Tryz.ntmps131
    go_wp2
    exact bodyPost_ret (results_none rfl _ _ _) rfl (OutPost.same HS.out (by simp) ⟨_, rfl⟩)
  · rw [if_neg h0]
    by_cases h1 : z ≤ 252
    · rw [if_pos h1]
      have hcv := int_to_u64 z
      obtain ⟨x, hx⟩ : ∃ x, x = BitVec.ofInt 64 z := ⟨_, rfl⟩
      rw [← hx] at hcv ⊢
      have G := Lib.hid (outNum_ok B g v l x 1 (.inl rfl) (by omega) w h hBw)
      clear hx h
      go_enter Tryz.func131, Tryz.ntmps131
      go_wp2_with (go_at_call 133; refine G.out.mono ?_; rintro e w1 ⟨⟨u1, rfl⟩, v1, hs1, hm1, hl1⟩)
      exact bodyPost_ret (results_none rfl _ _ _) rfl ⟨⟨_, rfl⟩, v1, hs1, hm1, hl1⟩
    · rw [if_neg h1]
      by_cases h2 : z ≤ 65535
      · rw [if_pos h2]
        exact outCount_big B g v l z _ 2 (.inl ⟨rfl, rfl, by omega, h2⟩) hl w h hBw
      · rw [if_neg h2]
        by_cases h3 : z ≤ 4294967295
        · rw [if_pos h3]
          exact outCount_big B g v l z _ 4 (.inr (.inl ⟨rfl, rfl, by omega, h3⟩)) hl w h hBw
        · rw [if_neg h3]
          exact outCount_big B g v l z _ 8 (.inr (.inr ⟨rfl, rfl, by omega⟩)) hl w h hBw
set_option maxHeartbeats 4000000 in
theorem outCount_none (w : World) : Calls Tryz.prog 131 #[.pointer none, .int .i64 1] w fun e w' => (∃ u, e = .returned u) ∧ w = w' := by
  have G := Lib.hid (show Calls Tryz.prog 133 #[.pointer none, .int .u64 1, .int .i64 1] w fun e w' => (∃ u, e = .returned u) ∧ w = w' from outNum_none 1#64 1 w)
  go_enter Tryz.func131, Tryz.ntmps131
  go_wp2_with fail
  refine G.out.mono ?_
  rintro e w1 ⟨⟨u1, rfl⟩, rfl⟩
  go_wp2
  go_end0
  exact ⟨⟨_, rfl⟩, rfl⟩
theorem outHash_none (cs : Array Value) (w : World) : Calls Tryz.prog 132 #[.pointer none, .agg cs] w fun e w' => (∃ u, e = .returned u) ∧ Below w.heap.size w w' := by
  go_enter Tryz.func132, Tryz.ntmps132
  go_wp2
  exact bodyPost_ret (results_none rfl _ _ _) rfl ⟨⟨_, rfl⟩, (Below.refl _ _).alloc (Nat.le_refl _) _⟩
set_option maxRecDepth 100000 in
set_option maxHeartbeats 4000000 in
theorem outHash_any (B g : Nat) (v : Value) (l s : List (BitVec 8)) (hl : l.length ≤ 1000000) (hs : s.length = 32) (w : World) (h : OutS B w g v l) (hBw : B ≤ w.heap.size) :
    Calls Tryz.prog 132 #[.pointer (some ⟨g, 0, none⟩), .agg (blist s).toArray] w (OutPost B g v (l ++ s) w) := by
  have HL := Lib.hid (show l.length + 32 ≤ 1099511627776 by omega)
  obtain ⟨w0, hw0⟩ : ∃ x, x = w.alloc (.cells (blist s).toArray 30) := ⟨_, rfl⟩
  have hb0 : Below w.heap.size w w0 := by rw [hw0]; exact (Below.refl _ _).alloc (Nat.le_refl _) _
  have HA := Lib.hid (show Bytes8 w0 (some ⟨w.heap.size, 0, none⟩) 32 s from ⟨hs, by unfold maxLen; omega, fun i hi => ⟨_, rfl, by
    rw [Addr.add_mid, Nat.zero_add, hw0]
    exact (Has.fresh w 30 _).cell_at (by rw [List.getElem?_toArray]; exact blist_at s i (by omega))⟩⟩)
  have HS := Lib.hid (show OutS B w0 g v l from ⟨h.1.under hb0 h.1.lt, h.2.below hb0⟩)
  have HB := Lib.hid (Nat.le_trans hBw hb0.size)
  have HM := Lib.hid (show (l ++ s).length = l.length + 32 by simp [hs])
  obtain ⟨M, hM⟩ : ∃ M, M = l.length + 32 := ⟨_, rfl⟩
  rw [← hM] at HM
  have c0 : w0.cell? ⟨g, 0, none⟩ = some v := HS.out.1.cell_at rfl
  have f0 : w0.frozen? ⟨g, 0, none⟩ = false := HS.out.1.loose 0
  have HW0 := Lib.hid hw0
  clear hl hs h hBw hM hw0
  go_enter Tryz.func132, Tryz.ntmps132
  go_upto_region 2 with fail
  rw [← HW0.out]
  go_region_law (refine step_append_bytes_at (by rfl) (.tmp 10) (.tmp 11) 116 rfl 5 Tryz.underlying116 info_byte B v l (by simp [Act.eval]) (HS.out.2.below (Below.refl _ _).drew) (some ⟨w.heap.size, 0, none⟩) 32 32 s (by simp [Act.eval]) HA.out.draw (fun e => by cases e) HL.out HB.out ?_; intro v2 w2 h1 h2 h3; obtain ⟨a2, c2, rfl, _, _, _⟩ := h1.shape HM.out; obtain ⟨hg2, hs2, hm2, hl2⟩ := HS.out.grow (Moved.of_below hb0) ((Lies.refl w v).up (Nat.le_refl _)) (Below.refl _ _).drew h2 h1 h3; have hc2 := hg2.cell_at (i := 0) rfl; have hf2 := hg2.loose 0)
  all_goals
    go_wp2
    exact bodyPost_ret (results_none rfl _ _ _) rfl ⟨⟨_, rfl⟩, _, hs2, hm2, hl2⟩
set_option maxHeartbeats 4000000 in
theorem clone8_any (a : Option Addr) (n c : Nat) (l : List (BitVec 8)) (w : World) (h : Bytes8 w a n l) (hc : a = none → c = 0) (hn : n ≤ 1000000000) :
    Calls Tryz.prog 142 #[.slice a n c] w (BytesPost8 5 w.heap.size l w) := by
  cases a with
  | none =>
    obtain rfl := hc rfl
    have h0 : n = 0 := by
      rcases Nat.eq_zero_or_pos n with h0 | h0
      · exact h0
      · obtain ⟨_, e, _⟩ := h.2.2 0 h0
        cases e
    subst h0
    obtain rfl := List.length_eq_zero_iff.1 h.1
    have hq := Lib.run_eql_slice_nil (P := Tryz.prog) w 116 5 none 0 0 0 0 Tryz.underlying116
    go_enter Tryz.func142, Tryz.ntmps142
    go_wp2
    go_ret
    exact ⟨_, rfl, OwnB.nil _ _ _, Below.refl _ _⟩
  | some x =>
    have HB := Lib.hid ((Below.refl w.heap.size w).alloc (Nat.le_refl _) (.cells #[] 5))
    have HO := Lib.hid (show OwnB 5 w.heap.size (w.alloc (.cells #[] 5)) (.slice (some ⟨w.heap.size, 0, none⟩) 0 0) [] from OwnB.empty (Nat.le_refl _) (Has.fresh _ _ _))
    have HA := Lib.hid (h.past (.cells #[] 5))
    have HN := Lib.hid hn
    have hq := Lib.run_eql_slice_nil (P := Tryz.prog) w 116 5 (some x) n c 0 0 Tryz.underlying116
    clear h hn hc
    go_enter Tryz.func142, Tryz.ntmps142
    go_wp2_with (at_builtin; refine wpList_append_bytes rfl (.tmp 5) (.tmp 6) 116 rfl 5 Tryz.underlying116 info_byte w.heap.size _ _ rfl HO.out (some x) n c _ rfl HA.out (fun e => by cases e) (by have := HN.out; simp; omega) (by simp) ?_; intro v3 w3 ho3 hg3)
    go_ret
    exact ⟨_, rfl, ho3, below_own_rowb HB.out hg3 HO.out.lt⟩
theorem outBytes_none (w : World) : Calls Tryz.prog 134 #[.pointer none] w fun e w' => e = .returned (.slice none 0 0) ∧ w = w' := by
  go_enter Tryz.func134, Tryz.ntmps134
  go_wp2
  go_ret
  exact ⟨rfl, rfl⟩
set_option maxHeartbeats 4000000 in
theorem outBytes_any (B g : Nat) (v : Value) (l : List (BitVec 8)) (hl : l.length ≤ 1000000) (w : World) (h : OutS B w g v l) :
    Calls Tryz.prog 134 #[.pointer (some ⟨g, 0, none⟩)] w (BytesPost8 5 w.heap.size l w) := by
  have c0 : w.cell? ⟨g, 0, none⟩ = some v := h.1.cell_at rfl
  obtain ⟨M, hM⟩ : ∃ M, l.length = M := ⟨_, rfl⟩
  obtain ⟨a, c, rfl, hc, h0, hB⟩ := h.2.shape hM
  have HC := Lib.hid (clone8_any a M c l w hB h0 (by omega))
  clear h hM hB h0 hl
  go_enter Tryz.func134, Tryz.ntmps134
  go_wp2_with (go_at_call 142; refine HC.out.mono ?_; rintro e w1 ⟨v1, rfl, hv1, hb1⟩)
  go_ret
  exact ⟨_, rfl, hv1, hb1⟩
end Go.Proofs.YtagjolbpmhbifaaGreatDoor

/-! counts as the package reads them; what was put is read, what was read is put again. Nothing of the program. -/
namespace Go.Proofs.YtagjolbpmhbifaaGreatDoor.Pk
open Go.Proofs.YtagjolbpmhbifaaGreatDoor
theorem count_len (n : Nat) : (count n).length = if n ≤ 252 then 1 else if n ≤ 65535 then 3 else if n ≤ 4294967295 then 5 else 9 := by
  unfold count
  rw [if_neg (by omega)]
  by_cases h1 : n ≤ 252
  · rw [if_pos (by omega), if_pos h1, le_len]
  · rw [if_neg (by omega), if_neg h1]
    by_cases h2 : n ≤ 65535
    · rw [if_pos (by omega), if_pos h2, List.length_append, le_len]; rfl
    · rw [if_neg (by omega), if_neg h2]
      by_cases h3 : n ≤ 4294967295
      · rw [if_pos (by omega), if_pos h3, List.length_append, le_len]; rfl
      · rw [if_neg (by omega), if_neg h3, List.length_append, le_len]; rfl
theorem shl_or (x : BitVec 64) (y : BitVec 8) : 256#64 * x + y.setWidth 64 = x <<< 8 ||| y.setWidth 64 := by
  rw [show 256#64 * x = x <<< 8 by
    apply BitVec.eq_of_toNat_eq
    rw [BitVec.toNat_mul, BitVec.toNat_shiftLeft, Nat.shiftLeft_eq, Nat.mul_comm]
    rfl]
  refine BitVec.add_eq_or_of_and_eq_zero _ _ ?_
  apply BitVec.eq_of_getLsbD_eq
  intro i hi
  rw [BitVec.getLsbD_and, BitVec.getLsbD_shiftLeft, BitVec.getLsbD_setWidth, BitVec.getLsbD_zero]
  by_cases h : i < 8
  · simp [h]
  · rw [BitVec.getLsbD_of_ge y i (by omega)]
    simp
theorem leV_bit (B : List (BitVec 8)) : ∀ (k i m : Nat), m < 64 → (leV B i k).getLsbD m = (decide (m < 8 * k) && (cb B (i + m / 8)).getLsbD (m % 8))
  | 0, i, m, _ => by simp [leV]
  | k + 1, i, m, hm => by
    show (256#64 * leV B (i + 1) k + (cb B i).setWidth 64).getLsbD m = _
    rw [shl_or, BitVec.getLsbD_or, BitVec.getLsbD_shiftLeft, BitVec.getLsbD_setWidth]
    by_cases h : m < 8
    · have e1 : m / 8 = 0 := by omega
      have e2 : m % 8 = m := by omega
      rw [e1, e2]
      simp [h, hm, show m < 8 * (k + 1) by omega]
    · rw [leV_bit B k (i + 1) (m - 8) (by omega), BitVec.getLsbD_of_ge (cb B i) m (by omega)]
      have e1 : i + 1 + (m - 8) / 8 = i + m / 8 := by omega
      have e2 : (m - 8) % 8 = m % 8 := by omega
      rw [e1, e2]
      by_cases h2 : m < 8 * (k + 1)
      · simp [h, hm, h2, show m - 8 < 8 * k by omega]
      · simp [h2, show ¬ m - 8 < 8 * k by omega]
theorem leV_lt (B : List (BitVec 8)) : ∀ (k i : Nat), (leV B i k).toNat < 256 ^ k
  | 0, _ => by simp [leV]
  | k + 1, i => by
    have h := leV_lt B k (i + 1)
    have hb := (cb B i).isLt
    show (256#64 * leV B (i + 1) k + (cb B i).setWidth 64).toNat < _
    rw [BitVec.toNat_add, BitVec.toNat_mul, BitVec.toNat_setWidth, show (256#64).toNat = 256 from rfl, Nat.pow_succ]
    rw [Nat.mod_add_mod]
    refine Nat.lt_of_le_of_lt (Nat.mod_le _ _) ?_
    have h3 : (cb B i).toNat % 2 ^ 64 = (cb B i).toNat := Nat.mod_eq_of_lt (by omega)
    rw [h3]
    omega
theorem le_cb (x : BitVec 64) (K j : Nat) (h : j < K) (r : List (BitVec 8)) : cb (le x K ++ r) j = (x >>> (8 * j)).setWidth 8 := by
  unfold cb
  rw [List.getD_eq_getElem?_getD, List.getElem?_append_left (by rw [le_len]; exact h)]
  unfold le
  rw [List.getElem?_map, List.getElem?_range h]
  rfl
/-- what was put is read: a number -/
theorem leV_le (x : BitVec 64) (K : Nat) (hK : K ≤ 8) (r : List (BitVec 8)) : leV (le x K ++ r) 0 K = (x <<< (64 - 8 * K)) >>> (64 - 8 * K) := by
  apply BitVec.eq_of_getLsbD_eq
  intro m hm
  rw [leV_bit _ _ _ _ hm, BitVec.getLsbD_ushiftRight, BitVec.getLsbD_shiftLeft, Nat.zero_add]
  by_cases h : m < 8 * K
  · rw [le_cb x K (m / 8) (by omega) r, BitVec.getLsbD_setWidth, BitVec.getLsbD_ushiftRight, show 8 * (m / 8) + m % 8 = m by omega]
    simp [h, show 64 - 8 * K + m < 64 by omega, show m % 8 < 8 by omega]
  · simp [h, show ¬ 64 - 8 * K + m < 64 by omega]
theorem leV_byte (B : List (BitVec 8)) (K j : Nat) (hK : K ≤ 8) (hj : j < K) : ((leV B 0 K) >>> (8 * j)).setWidth 8 = cb B j := by
  apply BitVec.eq_of_getLsbD_eq
  intro m hm
  rw [BitVec.getLsbD_setWidth, BitVec.getLsbD_ushiftRight, leV_bit _ _ _ _ (by omega), Nat.zero_add, show (8 * j + m) / 8 = j by omega, show (8 * j + m) % 8 = m by omega]
  simp [hm, show 8 * j + m < 8 * K by omega]
/-- what was read is put again: a number -/
theorem le_leV (B : List (BitVec 8)) (K : Nat) (hK : K ≤ 8) (hB : K ≤ B.length) : le (leV B 0 K) K = B.take K := by
  apply List.ext_getElem?
  intro j
  unfold le
  rw [List.getElem?_map, List.getElem?_take]
  by_cases h : j < K
  · rw [List.getElem?_range h, if_pos h, Option.map_some, leV_byte B K j hK h, cb, List.getD_eq_getElem?_getD, List.getElem?_eq_getElem (by omega)]
    rfl
  · rw [if_neg h, List.getElem?_eq_none (by simp; omega)]
    rfl
/-! counts, as the package reads them -/
def above (s : Rd) (o : Nat) (z : Int) : Rd × BitVec 64 := if (rdNum s z).2.toNat ≤ o then (none, 0) else rdNum s z
def cdMore (p : Rd × BitVec 64) : Rd × BitVec 64 := if p.2 = 253#64 then above p.1 252 2 else if p.2 = 254#64 then above p.1 65535 4 else if p.2 = 255#64 then above p.1 4294967295 8 else p
def cdCount (s : Rd) (most : Int) : Rd × Int := if most < 0 ∨ most < (cdMore (rdNum s 1)).2.toNat then (none, 0) else ((cdMore (rdNum s 1)).1, (cdMore (rdNum s 1)).2.toNat)
theorem above_none (o : Nat) (z : Int) : above none o z = (none, 0) := by
  unfold above
  rw [if_pos (by show (0#64).toNat ≤ o; simp)]
/-- a count's bytes behind the first -/
theorem more_eq (most : Int) (b : BitVec 8) (r : List (BitVec 8)) (o K : Nat) (hok : okSize K) (hK : K = 2 ∧ o = 252 ∨ K = 4 ∧ o = 65535 ∨ K = 8 ∧ o = 4294967295) :
    (if most < 0 ∨ most < (above (some r) o K).2.toNat then ((none, 0) : Rd × Int) else ((above (some r) o K).1, ((above (some r) o K).2.toNat : Int))) =
      match (rdNum (some r) K).1 with
      | none => (none, 0)
      | some B => if 0 ≤ most ∧ ((rdNum (some r) K).2.toNat : Int) ≤ most ∧ (count (rdNum (some r) K).2.toNat).length + B.length = (left (some (b :: r))).length then (some B, ((rdNum (some r) K).2.toNat : Int)) else (none, 0) := by
  by_cases hr : K ≤ r.length
  · have e : rdNum (some r) K = (some (r.drop K), leV r 0 K) := by
      show (if okSize K ∧ (K : Int) ≤ r.length then _ else _) = _
      rw [if_pos ⟨hok, by omega⟩]
      rfl
    have hv := leV_lt r K 0
    unfold above
    rw [e]
    dsimp only
    generalize leV r 0 K = v at hv
    have hl : (r.drop K).length = r.length - K := List.length_drop
    have hb : (left (some (b :: r))).length = r.length + 1 := rfl
    rw [hb, hl]
    have hcl := count_len v.toNat
    by_cases h1 : v.toNat ≤ o
    · rw [if_pos h1]
      have hn : ¬ (0 ≤ most ∧ (v.toNat : Int) ≤ most ∧ (count v.toNat).length + (r.length - K) = r.length + 1) := by
        rintro ⟨_, _, h⟩
        rw [hcl] at h
        rcases hK with ⟨rfl, rfl⟩ | ⟨rfl, rfl⟩ | ⟨rfl, rfl⟩
        · rw [if_pos h1] at h; omega
        · by_cases h2 : v.toNat ≤ 252
          · rw [if_pos h2] at h; omega
          · rw [if_neg h2, if_pos h1] at h; omega
        · by_cases h2 : v.toNat ≤ 252
          · rw [if_pos h2] at h; omega
          · rw [if_neg h2] at h
            by_cases h3 : v.toNat ≤ 65535
            · rw [if_pos h3] at h; omega
            · rw [if_neg h3, if_pos h1] at h; omega
      dsimp only
      rw [if_neg hn]
      split
      · rfl
      · rfl
    · rw [if_neg h1]
      dsimp only
      have hlen : (count v.toNat).length + (r.length - K) = r.length + 1 := by
        rw [hcl]
        rcases hK with ⟨rfl, rfl⟩ | ⟨rfl, rfl⟩ | ⟨rfl, rfl⟩
        · rw [if_neg h1, if_pos (by omega)]; omega
        · rw [if_neg (by omega), if_neg h1, if_pos (by omega)]; omega
        · rw [if_neg (by omega), if_neg (by omega), if_neg h1]; omega
      have hn : (0 ≤ most ∧ (v.toNat : Int) ≤ most ∧ (count v.toNat).length + (r.length - K) = r.length + 1) ↔ ¬ (most < 0 ∨ most < (v.toNat : Int)) := by omega
      by_cases h2 : most < 0 ∨ most < (v.toNat : Int)
      · rw [if_pos h2, if_neg (fun h => hn.1 h h2)]
      · rw [if_neg h2, if_pos (hn.2 h2)]
  · have e : rdNum (some r) K = (none, 0) := by
      show (if okSize K ∧ (K : Int) ≤ r.length then _ else _) = _
      rw [if_neg (by omega)]
    have e2 : above (some r) o K = (none, 0) := by
      unfold above
      rw [e, if_pos (by show (0#64).toNat ≤ o; simp)]
    rw [e, e2]
    dsimp only
    split
    · rfl
    · rfl
theorem cdCount_eq (s : Rd) (most : Int) : cdCount s most = rdCount s most := by
  have h00 : ∀ (t : Rd), (if most < 0 ∨ most < ((0#64).toNat : Int) then ((none, 0) : Rd × Int) else (none, ((0#64).toNat : Int))) = (none, 0) := fun _ => by
    split
    · rfl
    · rfl
  cases s with
  | none => exact h00 none
  | some B =>
    cases B with
    | nil => exact h00 none
    | cons b r =>
      have e : rdNum (some (b :: r)) 1 = (some r, b.setWidth 64) := by
        show (if okSize 1 ∧ (1 : Int) ≤ ((b :: r).length : Nat) then _ else _) = _
        rw [if_pos ⟨.inl rfl, by simp; omega⟩]
        show (some r, 256#64 * 0#64 + (cb (b :: r) 0).setWidth 64) = _
        simp [cb]
      have hb : (b.setWidth 64).toNat = b.toNat := by
        rw [BitVec.toNat_setWidth]
        have := b.isLt
        omega
      have hlt := b.isLt
      unfold cdCount rdCount
      dsimp only
      rw [e]
      unfold cdMore rdMore
      dsimp only
      by_cases h3 : b.setWidth 64 = 253#64
      · have h3n : b.toNat = 253 := by rw [← hb, h3]; rfl
        rw [if_pos h3, h3, if_pos (show 253 ≤ (253#64).toNat from by decide)]
        exact more_eq most b r 252 2 (.inr (.inl rfl)) (.inl ⟨rfl, rfl⟩)
      · rw [if_neg h3]
        have n3 : b.toNat ≠ 253 := fun h => h3 (BitVec.eq_of_toNat_eq (by rw [hb, h]; rfl))
        by_cases h4 : b.setWidth 64 = 254#64
        · have h4n : b.toNat = 254 := by rw [← hb, h4]; rfl
          rw [if_pos h4, h4, if_pos (show 253 ≤ (254#64).toNat from by decide)]
          exact more_eq most b r 65535 4 (.inr (.inr (.inl rfl))) (.inr (.inl ⟨rfl, rfl⟩))
        · rw [if_neg h4]
          have n4 : b.toNat ≠ 254 := fun h => h4 (BitVec.eq_of_toNat_eq (by rw [hb, h]; rfl))
          by_cases h5 : b.setWidth 64 = 255#64
          · have h5n : b.toNat = 255 := by rw [← hb, h5]; rfl
            rw [if_pos h5, h5, if_pos (show 253 ≤ (255#64).toNat from by decide)]
            exact more_eq most b r 4294967295 8 (.inr (.inr (.inr rfl))) (.inr (.inr ⟨rfl, rfl⟩))
          · rw [if_neg h5]
            have n5 : b.toNat ≠ 255 := fun h => h5 (BitVec.eq_of_toNat_eq (by rw [hb, h]; rfl))
            have hq : ¬ 253 ≤ (b.setWidth 64).toNat := by rw [hb]; omega
            rw [if_neg hq]
            dsimp only
            rw [hb]
            have hcl : (count b.toNat).length = 1 := by rw [count_len, if_pos (show b.toNat ≤ 252 by omega)]
            have hbl : (left (some (b :: r))).length = r.length + 1 := rfl
            rw [hbl, hcl]
            by_cases h2 : most < 0 ∨ most < (b.toNat : Int)
            · rw [if_pos h2, if_neg (by omega)]
            · rw [if_neg h2, if_pos ⟨by omega, by omega, by omega⟩]
end Go.Proofs.YtagjolbpmhbifaaGreatDoor.Pk
