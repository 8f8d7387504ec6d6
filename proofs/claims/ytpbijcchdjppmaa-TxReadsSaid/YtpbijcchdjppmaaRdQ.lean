/- (mkrd.py)  the reference's ReadCount, ReadText, ReadHash -/
import Derived.Test.YtpbijcchdjppmaaRdP
import Derived.Test.YtpbijcchdjppmaaPkF
import Derived.Test.YtpbijcchdjppmaaTe
import Derived.Test.YtpbijcchdjppmaaHe
import Derived.Deep.RegionLaw
import Derived.Deep.RegionHeld3
namespace Go.Proofs.Ytpbijcchdjppmaa.RdS
open Go Go.RowKit Go.ChangeShapes Go.WideShapes
def CountPost (S : Nat → Prop) (w0 : World) (p : Pk.Rd × Int) (e : Ending) (w' : World) : Prop :=
  (∃ v, e = .returned (.tuple #[v, .int .i64 p.2]) ∧ InS S w' p.1 v) ∧ Below w0.heap.size w0 w'
/-- a reader's value: its cells -/
theorem InS.cells {S : Nat → Prop} {W : World} {s : Pk.Rd} {v : Value} (h : InS S W s v) : ∃ a n c b, v = .agg #[.slice a n c, .bool b] ∧ Bytes8 W a n (Pk.left s) ∧ b = s.isNone := by
  cases s with
  | none => exact ⟨_, _, _, _, h, bytes_none W, rfl⟩
  | some B =>
    obtain ⟨a, n, c, h1, h2, _⟩ := h
    exact ⟨a, n, c, false, h1, h2, rfl⟩
theorem InS.cellsH {S : Nat → Prop} {W : World} {s : Pk.Rd} {v : Value} (h : InS S W s v) : ∃ a n c b, v = .agg #[.slice a n c, .bool b] ∧ RowKit.Hid (Bytes8 W a n (Pk.left s) ∧ b = s.isNone) := by
  obtain ⟨a, n, c, b, h1, h2⟩ := h.cells
  exact ⟨a, n, c, b, h1, Lib.hid h2⟩
theorem bytes_apart {w : World} {a : Option Addr} {n g : Nat} {l : List (BitVec 8)} {T : TypeId} {cs : Array Value} (h : Bytes8 w a n l) (hh : Has w g T cs) (hc : ∀ (i : Nat) (z : Int), cs[i]? ≠ some (.int .u8 z)) (h0 : 0 < n) : ∀ x, a = some x → x.block ≠ g := by
  intro x hx e
  obtain ⟨y, hy, hc0⟩ := h.2.2 0 h0
  rw [hx] at hy
  injection hy with hy
  subst hy
  subst e
  have hz : x.add 0 = x := rfl
  rw [hz] at hc0
  unfold Has at hh
  unfold World.cell? at hc0
  rw [hh] at hc0
  dsimp only at hc0
  split at hc0
  · cases hc0
  · exact hc _ _ hc0
theorem in_not_byte (a : Option Addr) (n c : Nat) (b : Bool) : ∀ (i : Nat) (z : Int), (#[Value.slice a n c, .bool b] : Array Value)[i]? ≠ some (.int .u8 z) := fun i z e => by
  match i, e with
  | 0, e => cases e
  | 1, e => cases e
  | i + 2, e => simp at e
theorem InS.aside {S : Nat → Prop} {w w' : World} {g : Nat} {s : Pk.Rd} {v : Value} {T : TypeId} {a : Option Addr} {n c : Nat} {b : Bool} {F : Nat → Prop} (h : InS S w s v) (hh : Has w g T #[.slice a n c, .bool b]) (hm : Moved F w w') (hF : ∀ k, F k → k = g) : InS S w' s v := by
  cases s with
  | none => exact h
  | some B =>
    obtain ⟨a1, n1, c1, h1, h2, h3⟩ := h
    exact ⟨a1, n1, c1, h1, h2.moved hm (fun h0 y e hf => bytes_apart h2 hh (in_not_byte a n c b) h0 y e (hF _ hf)), h3⟩
theorem InS.bool {S : Nat → Prop} {W : World} {s : Pk.Rd} {a : Option Addr} {n c : Nat} {b : Bool} (h : InS S W s (.agg #[.slice a n c, .bool b])) : b = s.isNone := by
  cases s with
  | none =>
    have h' : Value.agg #[.slice a n c, .bool b] = .agg #[.slice none 0 0, .bool true] := h
    simp at h'
    exact h'.2
  | some B =>
    obtain ⟨a1, n1, c1, h1, _⟩ := h
    simp at h1
    exact h1.2
theorem IntKind.u64_most (most : Int) (h0 : 0 ≤ most) (h1 : most < 9223372036854775808) : IntKind.u64.wrap most = most := by
  rw [IntKind.wrap_u64]; omega
theorem IntKind.i64_small (z : Int) (h0 : 0 ≤ z) (h1 : z < 9223372036854775808) : IntKind.i64.wrap z = z := IntWalk.i64_in _ (by omega)
theorem left_rdNum (s : Pk.Rd) (z : Int) : (Pk.left (Pk.rdNum s z).1).length ≤ (Pk.left s).length := by
  cases s with
  | none => exact Nat.le_refl _
  | some B =>
    show (Pk.left ((if Pk.okSize z ∧ z ≤ B.length then _ else _) : Pk.Rd × BitVec 64).1).length ≤ B.length
    split
    · simp [Pk.left]
    · simp [Pk.left]
theorem left_rdMore (p : Pk.Rd × BitVec 64) : (Pk.left (Pk.rdMore p).1).length ≤ (Pk.left p.1).length := by
  unfold Pk.rdMore
  split
  · exact left_rdNum _ _
  · exact Nat.le_refl _
set_option maxRecDepth 100000 in
set_option maxHeartbeats 8000000 in
theorem rreadCount_any {S : Nat → Prop} (s : Pk.Rd) (v : Value) (most : Int) (hm0 : -9223372036854775808 ≤ most) (hm : most < 9223372036854775808) (hsz : (Pk.left s).length ≤ 1000000) (w : World) (hv : InS S w s v) :
    Calls Try.prog 41 #[v, .int .i64 most] w (CountPost S w (Pk.rdCount s most)) := by
  obtain ⟨a, n, c, b, rfl, hB, hb⟩ := hv.cells
  obtain ⟨w0, hw0⟩ : ∃ x, x = (w.alloc (.cells #[.slice a n c, .bool b] 79)).alloc (.cells #[.slice none 0 0, .bool false] 79) := ⟨_, rfl⟩
  have hb0 : Below w.heap.size w w0 := by rw [hw0]; exact ((Below.refl _ _).alloc (Nat.le_refl _) _).alloc (by simp) _
  have hA0 : Has w0 w.heap.size 79 #[.slice a n c, .bool b] := by rw [hw0]; exact (Has.fresh _ _ _).past _
  have hR0 : Has w0 (w.heap.size + 1) 79 #[.slice none 0 0, .bool false] := by rw [hw0]; exact Has.fresh_at _ _ _ (by simp)
  have hv0 : InS S w0 s (.agg #[.slice a n c, .bool b]) := hv.below hb0
  have HW0 := Lib.hid hw0
  obtain ⟨gi, hgi⟩ : ∃ x, x = w.heap.size := ⟨_, rfl⟩
  obtain ⟨gr, hgr⟩ : ∃ x, x = gi + 1 := ⟨_, rfl⟩
  rw [← hgi] at hA0 hR0
  rw [← hgr] at hR0
  have HGR := Lib.hid (And.intro hgi hgr)
  have HB := Lib.hid (And.intro hB hb)
  clear hw0 hgi hgr hB hb hv
  obtain ⟨p, hp⟩ : ∃ p, p = Pk.rdNum s 1 := ⟨_, rfl⟩
  have HN := Lib.hid (fun w1 h => rreadNum_any (S := S) s (.agg #[.slice a n c, .bool b]) 1 w1 h)
  rw [← hp] at HN
  obtain ⟨q, hq⟩ : ∃ q, q = Pk.rdMore p := ⟨_, rfl⟩
  have HLE := Lib.hid (show (Pk.left q.1).length ≤ (Pk.left s).length ∧ (Pk.left s).length ≤ 1000000 from ⟨by rw [hq, hp]; exact Nat.le_trans (left_rdMore _) (left_rdNum _ _), hsz⟩)
  clear hsz
  obtain ⟨R, hR⟩ : ∃ R, R = Pk.rdCount s most := ⟨_, rfl⟩
  have HR := Lib.hid (show R = (match q.1 with | none => ((none, 0) : Pk.Rd × Int) | some B => if 0 ≤ most ∧ (q.2.toNat : Int) ≤ most ∧ (Pk.count q.2.toNat).length + B.length = (Pk.left s).length then (some B, (q.2.toNat : Int)) else (none, 0)) by rw [hR, hq, hp]; rfl)
  rw [← hR]
  clear hR hp
  obtain ⟨s1, n1⟩ := p
  have HN2 := Lib.hid (fun v z w1 h => rreadNum_any (S := S) s1 v z w1 h)
  have hfirst : (nb64 n1 < 253 ∧ q = (s1, n1)) ∨ (253 ≤ nb64 n1 ∧ (n1 == 254#64) = true ∧ (n1 == 255#64) = false ∧ q = Pk.rdNum s1 4) ∨ (253 ≤ nb64 n1 ∧ (n1 == 254#64) = false ∧ (n1 == 255#64) = true ∧ q = Pk.rdNum s1 8) ∨ (253 ≤ nb64 n1 ∧ (n1 == 254#64) = false ∧ (n1 == 255#64) = false ∧ q = Pk.rdNum s1 2) := by
    rw [hq]
    unfold Pk.rdMore
    dsimp only
    by_cases h : 253 ≤ n1.toNat
    · right
      rw [if_pos h]
      have h' : 253 ≤ nb64 n1 := by unfold nb64; omega
      by_cases e4 : n1 = 254#64
      · left
        subst e4
        exact ⟨h', by decide, by decide, rfl⟩
      · right
        by_cases e5 : n1 = 255#64
        · left
          subst e5
          exact ⟨h', by decide, by decide, rfl⟩
        · right
          refine ⟨h', by simpa using e4, by simpa using e5, ?_⟩
          unfold Pk.rdSize
          rw [if_neg e4, if_neg e5]
    · left
      rw [if_neg h]
      exact ⟨by unfold nb64; omega, rfl⟩
  clear hq
  obtain ⟨s2, n2⟩ := q
  dsimp only at HR HLE
  have HMO := Lib.hid (And.intro hm0 hm)
  clear hm0 hm
  have hA0l := hA0.load_agg (P := Try.prog) (t := 79) Try.underlying79 rfl size_in
  go_enter Try.func41, Try.ntmps41
  go_upto_region 2 with fail
  rw [← HW0.out, ← HGR.out.1, ← HGR.out.2]
  go_upto_region 3 with (first
    | (refine wpList_store_mid rfl 79 (.tmp 2) (.tmp 14) rfl gi 0 #[.slice a1 k1 c1, .bool b1] rfl rfl HS1.out.2.2 (in_size _ _) (in_one _ _ rfl rfl) ?_)
    | (refine wpList_load_run rfl 79 (.tmp 2) rfl _ _ rfl hA0l ?_)
    | (go_at_call 43; refine (HN.out _ hv0).mono ?_; rintro e w1 ⟨⟨v1, rfl, hv1⟩, hb1⟩; have hv1' := hv1; obtain ⟨a1, k1, c1, b1, rfl, HB1⟩ := hv1'.cellsH; have HS1 := Lib.hid (And.intro hv1 (And.intro hb1 ((hA0.under hb1 hA0.lt).there 0 2 (Nat.le_refl _)))); clear hv1 hb1 hv1'))
  have hv1 := HS1.out.1
  obtain ⟨w2, hw2⟩ : ∃ x, x = w1.setCells gi 0 (#[.slice a1 k1 c1, .bool b1] : Array Value).toList := ⟨_, rfl⟩
  have hA2 : Has w2 gi 79 #[.slice a1 k1 c1, .bool b1] := by rw [hw2]; exact (hA0.under HS1.out.2.1 hA0.lt).whole_cs rfl
  have hg0 : w.heap.size ≤ gi := by have := HGR.out.1; omega
  have hm2 : Moved (fun k => k = gi) w1 w2 := by rw [hw2]; exact Moved.putAll (F := fun k => k = gi) (.inl rfl) _ 0 (Moved.refl _ _)
  have hv2 : InS S w2 s1 (.agg #[.slice a1 k1 c1, .bool b1]) := hv1.aside (hA0.under HS1.out.2.1 hA0.lt) hm2 (fun _ e => e)
  have hb1 : Below w.heap.size w w1 := hb0.trans (HS1.out.2.1.mono hb0.size)
  have hb2 : Below w.heap.size w w2 := hb1.trans (hm2.below (B := w.heap.size) (fun k e => by have e' : k = gi := e; omega) hb1.size)
  have hR2 : Has w2 gr 79 #[.slice none 0 0, .bool false] := (hR0.under HS1.out.2.1 hR0.lt).moved hm2 (fun e => by have := HGR.out.2; have e' : gr = gi := e; omega)
  rw [← hw2]
  clear hw2 hm2 hv1 hA0 hR0 hb1 hb0 hv0 hA0l HS1 HN HW0
  have hA2l := hA2.load_agg (P := Try.prog) (t := 79) Try.underlying79 rfl size_in
  have hth2 := hA2.there 0 2 (Nat.le_refl _)
  rcases hfirst with ⟨hlt, hq⟩ | ⟨hge, e4, e5, hq⟩ | ⟨hge, e4, e5, hq⟩ | ⟨hge, e4, e5, hq⟩
  case' inl =>
    obtain ⟨rfl, rfl⟩ := Prod.mk.inj hq
    clear hq
    have hge : ¬ (253 ≤ nb64 n2) := by omega
    clear hlt
    go_upto_region 10 with fail
    have HST := Lib.hid (show ∃ (wz : World) (az : Option Addr) (kz cz : Nat) (bz : Bool), wz = w2 ∧ az = a1 ∧ kz = k1 ∧ cz = c1 ∧ bz = b1 from ⟨_, _, _, _, _, rfl, rfl, rfl, rfl, rfl⟩)
    obtain ⟨wz, az, kz, cz, bz, rfl, rfl, rfl, rfl, rfl⟩ := HST.out
    clear HST
    have hAz := hA2
    have hvz := hv2
    have hbz := hb2
    have hRz := hR2
    clear hge hA2l hth2
  case' inr.inl => have HN3 := Lib.hid (fun w1 h => hq.symm ▸ HN2.out (.agg #[.slice a1 k1 c1, .bool b1]) 4 w1 h)
  case' inr.inr.inl => have HN3 := Lib.hid (fun w1 h => hq.symm ▸ HN2.out (.agg #[.slice a1 k1 c1, .bool b1]) 8 w1 h)
  case' inr.inr.inr => have HN3 := Lib.hid (fun w1 h => hq.symm ▸ HN2.out (.agg #[.slice a1 k1 c1, .bool b1]) 2 w1 h)
  case' inr.inl | inr.inr.inl | inr.inr.inr =>
    clear hq
    go_upto_region 10 with (first
      | (refine wpList_store_mid rfl 79 (.tmp 2) (.tmp 26) rfl gi 0 #[.slice az kz cz, .bool bz] rfl rfl HS3.out.2.2 (in_size _ _) (in_one _ _ rfl rfl) ?_)
      | (refine wpList_load_run rfl 79 (.tmp 2) rfl _ _ rfl hA2l ?_)
      | (go_at_call 43; refine (HN3.out _ hv2).mono ?_; rintro e w3 ⟨⟨v3, rfl, hv3⟩, hb3⟩; have hv3' := hv3; obtain ⟨az, kz, cz, bz, rfl, HB3⟩ := hv3'.cellsH; have HS3 := Lib.hid (And.intro hv3 (And.intro hb3 ((hA2.under hb3 hA2.lt).there 0 2 (Nat.le_refl _)))); clear hv3 hb3 hv3'))
    have hv3 := HS3.out.1
    have hb3 := HS3.out.2.1
    obtain ⟨wz, hwz⟩ : ∃ x, x = w3.setCells gi 0 (#[.slice az kz cz, .bool bz] : Array Value).toList := ⟨_, rfl⟩
    have hAz : Has wz gi 79 #[.slice az kz cz, .bool bz] := by rw [hwz]; exact (hA2.under hb3 hA2.lt).whole_cs rfl
    have hmz : Moved (fun k => k = gi) w3 wz := by rw [hwz]; exact Moved.putAll (F := fun k => k = gi) (.inl rfl) _ 0 (Moved.refl _ _)
    have hvz : InS S wz s2 (.agg #[.slice az kz cz, .bool bz]) := hv3.aside (hA2.under hb3 hA2.lt) hmz (fun _ e => e)
    have hbw3 : Below w.heap.size w w3 := hb2.trans (hb3.mono hb2.size)
    have hbz : Below w.heap.size w wz := hbw3.trans (hmz.below (B := w.heap.size) (fun k e => by have e' : k = gi := e; omega) hbw3.size)
    have hRz : Has wz gr 79 #[.slice none 0 0, .bool false] := (hR2.under hb3 hR2.lt).moved hmz (fun e => by have := HGR.out.2; have e' : gr = gi := e; omega)
    rw [← hwz]
    clear hwz hmz hv3 hbw3 hb3 hA2 hv2 hb2 hR2 hA2l hth2 HS3 HN3 HB3 hge e4 e5
  all_goals
    have c0 : wz.cell? ⟨gi, 0, none⟩ = some (.slice az kz cz) := hAz.cell_at rfl
    have c1 : wz.cell? ⟨gi, 1, none⟩ = some (.bool bz) := hAz.cell_at rfl
    have HAZ := Lib.hid hAz
    have HRZ := Lib.hid hRz
    have HVZ := Lib.hid hvz
    have HBZ := Lib.hid hbz
    have hz2 := hvz.bool
    have hn0 : 0 ≤ nb64 n2 := by unfold nb64; omega
    clear hAz hRz hvz hbz
    by_cases hbad : s2 = none ∨ most < 0 ∨ most < (n2.toNat : Int)
    · obtain rfl : R = (none, 0) := by
        rw [HR.out]
        cases s2 with
        | none => rfl
        | some B => 
          dsimp only
          rw [if_neg]
          rintro ⟨g1, g2, _⟩
          rcases hbad with h | h | h
          · cases h
          · omega
          · omega
      have HX := Lib.hid (show bz = true ∨ bz = false ∧ (decide (most < 0) = true ∨ 0 ≤ most ∧ IntKind.u64.wrap most = most ∧ most < nb64 n2) by
        cases s2 with
        | none => exact .inl hz2
        | some B =>
          right
          refine ⟨hz2, ?_⟩
          by_cases h0 : most < 0
          · exact .inl (by simpa using h0)
          · right
            refine ⟨by omega, IntKind.u64_most _ (by omega) HMO.out.2, ?_⟩
            rcases hbad with h | h | h
            · cases h
            · exact absurd h h0
            · exact h)
      clear hbad hz2
      rcases HX.out with rfl | ⟨rfl, hd | ⟨h0, hw, h2⟩⟩
      case' inr.inr =>
        have hd : decide (most < 0) = false := by simpa using h0
      all_goals
        go_quiet (fail)
        generalize hwd : World.drewN wz _ = wd
        have hRd : Has wd gr 79 #[.slice none 0 0, .bool false] := by rw [← hwd]; exact HRZ.out.draws _
        have hBd : Below w.heap.size w wd := by rw [← hwd]; exact below_draws HBZ.out _
        clear hwd
        go_wp2_with (first
          | (refine wpList_store_mid rfl 79 (.tmp 4) (.tmp 53) rfl gr 0 #[.slice none 0 0, .bool true] rfl rfl hth4 (in_size _ _) (in_one _ _ rfl rfl) ?_)
          | (go_at_call 66; refine (rwrong_any _).mono ?_; rintro e w4 ⟨rfl, hb4⟩; have hR4 := hRd.under hb4 hRd.lt; have hth4 := hR4.there 0 2 (Nat.le_refl _)))
        have hE := hR4.whole_cs (cs2 := #[.slice none 0 0, .bool true]) rfl
        exact bodyPost_ret (results_cell_tmp rfl _ _ gr rfl _ _ rfl (in_load hE)) rfl ⟨⟨_, rfl, rfl⟩, below_setAll (by have := HGR.out; omega) _ 0 (hBd.trans (hb4.mono hBd.size))⟩
    · obtain ⟨B, rfl⟩ : ∃ B, s2 = some B := by
        cases s2 with
        | none => exact absurd (.inl rfl) hbad
        | some B => exact ⟨B, rfl⟩
      obtain rfl : bz = false := hz2
      have h0 : 0 ≤ most := by omega
      have hd : decide (most < 0) = false := by simpa using h0
      have hw := IntKind.u64_most most h0 HMO.out.2
      have h2 : ¬ (most < nb64 n2) := by unfold nb64; omega
      have hn63 : n2.toNat < 9223372036854775808 := by have := HMO.out.2; omega
      have hnw : wrap64 (nb64 n2) = (n2.toNat : Int) := by unfold wrap64 nb64; omega
      have hnw2 : IntKind.i64.wrap (nb64 n2) = (n2.toNat : Int) := by rw [IntKind.wrap_i64]; unfold nb64; omega
      have hkz : kz = B.length := by
        obtain ⟨a', n', c', h1, h3, _⟩ := HVZ.out
        simp at h1
        obtain ⟨_, e, _⟩ := h1
        exact e.trans h3.1.symm
      have hns : n = (Pk.left s).length := HB.out.1.1.symm
      have HC := Lib.hid (fun w => rcount_any (n2.toNat : Int) w)
      obtain ⟨M, hM⟩ : ∃ M, (Pk.count n2.toNat).length = M := ⟨_, rfl⟩
      have hM9 : M ≤ 9 := by rw [← hM]; exact Pk.count_le _
      have HM := Lib.hid hM
      have hkzn : kz ≤ 1000000 ∧ n ≤ 1000000 := by have h3 := HLE.out; have h4 : (Pk.left (some B)).length = B.length := rfl; omega
      have hsum : IntKind.i64.wrap ((M : Int) + (kz : Int)) = (M : Int) + (kz : Int) := IntKind.i64_small _ (by omega) (by omega)
      have HRE := Lib.hid (show R = if M + kz = n then (some B, (n2.toNat : Int)) else (none, 0) by
        rw [HR.out]
        dsimp only
        rw [hM, ← hns, ← hkz]
        by_cases h : M + kz = n
        · rw [if_pos h, if_pos ⟨h0, by omega, h⟩]
        · rw [if_neg h, if_neg (fun g => h g.2.2)])
      clear hbad hM hkz hns hn63 hkzn hM9
      by_cases hMk : M + kz = n
      · have hMi : (M : Int) + (kz : Int) = (n : Int) := by omega
        have hbb : ((M : Int) + (kz : Int) != (n : Int)) = false := by simpa using hMi
        obtain rfl : R = (some B, (n2.toNat : Int)) := by rw [HRE.out, if_pos hMk]
        have HMI := Lib.hid hMi
        clear hMk hMi
        obtain ⟨wd, hwd⟩ : ∃ x, x = wz.drew := ⟨_, rfl⟩
        have hAd : Has wd gi 79 #[.slice az kz cz, .bool false] := by rw [hwd]; exact HAZ.out.draw
        have hRd : Has wd gr 79 #[.slice none 0 0, .bool false] := by rw [hwd]; exact HRZ.out.draw
        have hVd : InS S wd (some B) (.agg #[.slice az kz cz, .bool false]) := by rw [hwd]; exact HVZ.out.below (Below.refl _ _).drew
        have hBd : Below w.heap.size w wd := by rw [hwd]; exact HBZ.out.drew
        have HAD := Lib.hid hAd
        refine wp_region_held_drew (S := Held wd) (by kernel_rfl) (by rw [hwd]; exact Held.refl _) (fun hHeld => ?_)
        rw [← hwd] at hHeld ⊢
        clear hwd
        refine take_at (v := ?_) 0 28 rfl rfl (by kernel_rfl) (by kernel_rfl) (by kernel_rfl) (fun _ _ _ h => h) hHeld (Or.inl ⟨by rfl, ?_⟩) rfl ?_
        rotate_left
        · intro wq hSw
          go_simp
          try with_reducible rfl
        simp only [List.set_cons_zero, List.set_cons_succ]
        refine take_at (v := ?_) 1 29 rfl rfl (by kernel_rfl) (by kernel_rfl) (by kernel_rfl) (fun _ _ _ h => h) hHeld (Or.inl ⟨by rfl, ?_⟩) rfl ?_
        rotate_left
        · intro wq hSw
          have hst := (HAD.out.under hSw HAD.out.lt).cell_at (i := 1) (v := .bool false) rfl
          go_simp
          try with_reducible rfl
        simp only [List.set_cons_zero, List.set_cons_succ]
        refine take_at (v := ?_) 2 30 rfl rfl (by kernel_rfl) (by kernel_rfl) (by kernel_rfl) (fun _ _ _ h => h) hHeld (Or.inl ⟨by rfl, ?_⟩) rfl ?_
        rotate_left
        · intro wq hSw
          go_simp
          try with_reducible rfl
        simp only [List.set_cons_zero, List.set_cons_succ]
        refine take_at (v := ?_) 3 31 rfl rfl (by kernel_rfl) (by kernel_rfl) (by kernel_rfl) (fun _ _ _ h => h) hHeld (Or.inl ⟨by rfl, ?_⟩) rfl ?_
        rotate_left
        · intro wq hSw
          go_simp
          try with_reducible rfl
        simp only [List.set_cons_zero, List.set_cons_succ]
        refine take_at (v := ?_) 4 32 rfl rfl (by kernel_rfl) (by kernel_rfl) (by kernel_rfl) (fun _ _ _ h => h) hHeld (Or.inl ⟨by rfl, ?_⟩) rfl ?_
        rotate_left
        · intro wq hSw
          go_simp
          try with_reducible rfl
        simp only [List.set_cons_zero, List.set_cons_succ]
        refine take_at (v := ?_) 5 33 rfl rfl (by kernel_rfl) (by kernel_rfl) (by kernel_rfl) (fun _ _ _ h => h) hHeld (Or.inl ⟨by rfl, ?_⟩) rfl ?_
        rotate_left
        · intro wq hSw
          go_simp
          try with_reducible rfl
        simp only [List.set_cons_zero, List.set_cons_succ]
        refine take_at (v := ?_) 6 34 rfl rfl (by kernel_rfl) (by kernel_rfl) (by kernel_rfl) (fun _ _ _ h => h) hHeld (Or.inl ⟨by rfl, ?_⟩) rfl ?_
        rotate_left
        · intro wq hSw
          go_simp
          try with_reducible rfl
        simp only [List.set_cons_zero, List.set_cons_succ]
        refine take_at (v := ?_) 7 35 rfl rfl (by kernel_rfl) (by kernel_rfl) (by kernel_rfl) (fun _ _ _ h => h) hHeld (Or.inl ⟨by rfl, ?_⟩) rfl ?_
        rotate_left
        · intro wq hSw
          go_simp
          try with_reducible rfl
        simp only [List.set_cons_zero, List.set_cons_succ]
        refine take_at (v := ?_) 8 36 rfl rfl (by kernel_rfl) (by kernel_rfl) (by kernel_rfl) (fun _ _ _ h => h) hHeld (Or.inl ⟨by rfl, ?_⟩) rfl ?_
        rotate_left
        · intro wq hSw
          go_simp
          try with_reducible rfl
        simp only [List.set_cons_zero, List.set_cons_succ]
        refine take_at (v := ?_) 9 37 rfl rfl (by kernel_rfl) (by kernel_rfl) (by kernel_rfl) (fun _ _ _ h => h) hHeld (Or.inl ⟨by rfl, ?_⟩) rfl ?_
        rotate_left
        · intro wq hSw
          go_simp
          try with_reducible rfl
        simp only [List.set_cons_zero, List.set_cons_succ]
        refine take_at (v := ?_) 10 38 rfl rfl (by kernel_rfl) (by kernel_rfl) (by kernel_rfl) (fun _ _ _ h => h) hHeld (Or.inl ⟨by rfl, ?_⟩) rfl ?_
        rotate_left
        · intro wq hSw
          go_simp
          try with_reducible rfl
        simp only [List.set_cons_zero, List.set_cons_succ]
        refine take_at (v := ?_) 11 39 rfl rfl (by kernel_rfl) (by kernel_rfl) (by kernel_rfl) (fun _ _ _ h => h) hHeld (Or.inl ⟨by rfl, ?_⟩) rfl ?_
        rotate_left
        · intro wq hSw
          go_simp
          try with_reducible rfl
        simp only [List.set_cons_zero, List.set_cons_succ]
        refine take_at (v := ?_) 12 40 rfl rfl (by kernel_rfl) (by kernel_rfl) (by kernel_rfl) (fun _ _ _ h => h) hHeld (Or.inl ⟨by rfl, ?_⟩) rfl ?_
        rotate_left
        · intro wq hSw
          go_simp
          try with_reducible rfl
        simp only [List.set_cons_zero, List.set_cons_succ]
        refine take_at (v := ?_) 13 41 rfl rfl (by kernel_rfl) (by kernel_rfl) (by kernel_rfl) (fun _ _ _ h => h) hHeld (Or.inl ⟨by rfl, ?_⟩) rfl ?_
        rotate_left
        · intro wq hSw
          go_simp
          try with_reducible rfl
        simp only [List.set_cons_zero, List.set_cons_succ]
        refine take_at (v := ?_) 14 42 rfl rfl (by kernel_rfl) (by kernel_rfl) (by kernel_rfl) (fun _ _ _ h => h) hHeld (Or.inl ⟨by rfl, ?_⟩) rfl ?_
        rotate_left
        · intro wq hSw
          go_simp
          try with_reducible rfl
        simp only [List.set_cons_zero, List.set_cons_succ]
        refine take_at (v := ?_) 17 45 rfl rfl (by kernel_rfl) (by kernel_rfl) (by kernel_rfl) (fun _ _ _ h => h) hHeld (Or.inl ⟨by rfl, ?_⟩) rfl ?_
        rotate_left
        · intro wq hSw
          go_simp
          try with_reducible rfl
        simp only [List.set_cons_zero, List.set_cons_succ]
        refine take_at (v := ?_) 18 46 rfl rfl (by kernel_rfl) (by kernel_rfl) (by kernel_rfl) (fun _ _ _ h => h) hHeld (Or.inl ⟨by rfl, ?_⟩) rfl ?_
        rotate_left
        · intro wq hSw
          have hst := (HAD.out.under hSw HAD.out.lt).cell_at (i := 0) (v := .slice az kz cz) rfl
          go_simp
          try with_reducible rfl
        simp only [List.set_cons_zero, List.set_cons_succ]
        refine take_at (v := ?_) 19 47 rfl rfl (by kernel_rfl) (by kernel_rfl) (by kernel_rfl) (fun _ _ _ h => h) hHeld (Or.inl ⟨by rfl, ?_⟩) rfl ?_
        rotate_left
        · intro wq hSw
          go_simp
          try with_reducible rfl
        simp only [List.set_cons_zero, List.set_cons_succ]
        refine take_at (v := ?_) 21 49 rfl rfl (by kernel_rfl) (by kernel_rfl) (by kernel_rfl) (fun _ _ _ h => h) hHeld (Or.inl ⟨by rfl, ?_⟩) rfl ?_
        rotate_left
        · intro wq hSw
          go_simp
          try with_reducible rfl
        simp only [List.set_cons_zero, List.set_cons_succ]
        refine take_at (v := ?_) 22 50 rfl rfl (by kernel_rfl) (by kernel_rfl) (by kernel_rfl) (fun _ _ _ h => h) hHeld (Or.inl ⟨by rfl, ?_⟩) rfl ?_
        rotate_left
        · intro wq hSw
          go_simp
          try with_reducible rfl
        simp only [List.set_cons_zero, List.set_cons_succ]
        refine wpAnyH_ready (rs := [15]) (by kernel_rfl) (by simp) ?_
        refine AllReadyH.cons rfl (fun K hK => ?_) AllReadyH.nil
        go_simp
        (go_at_call 65; refine (HC.out _).mono ?_; rintro e w5 ⟨v5, rfl, hv5, hb5⟩; obtain ⟨a5, c5, rfl, _, _, _⟩ := hv5.shape HM.out)
        refine hK.out _ _ (Held.of hb5) (fun _ => ?_)
        clear hK K
        try simp only [Act.put, List.setIfInBounds_toArray, List.set_cons_zero, List.set_cons_succ]
        refine held_grow (w1 := w5) (Held.of hb5) ?_
        clear hHeld
        have hHeld : Held w5 w5 := Held.refl _
        refine take_at (v := ?_) 16 44 rfl rfl (by kernel_rfl) (by kernel_rfl) (by kernel_rfl) (fun _ _ _ h => h) hHeld (Or.inl ⟨by rfl, ?_⟩) rfl ?_
        rotate_left
        · intro wq hSw
          go_simp
          try with_reducible rfl
        simp only [List.set_cons_zero, List.set_cons_succ]
        refine take_at (v := ?_) 20 48 rfl rfl (by kernel_rfl) (by kernel_rfl) (by kernel_rfl) (fun _ _ _ h => h) hHeld (Or.inl ⟨by rfl, ?_⟩) rfl ?_
        rotate_left
        · intro wq hSw
          go_simp
          try with_reducible rfl
        simp only [List.set_cons_zero, List.set_cons_succ]
        refine take_at (v := ?_) 23 51 rfl rfl (by kernel_rfl) (by kernel_rfl) (by kernel_rfl) (fun _ _ _ h => h) hHeld (Or.inl ⟨by rfl, ?_⟩) rfl ?_
        rotate_left
        · intro wq hSw
          go_simp
          try with_reducible rfl
        simp only [List.set_cons_zero, List.set_cons_succ]
        refine take_at (v := ?_) 24 52 rfl rfl (by kernel_rfl) (by kernel_rfl) (by kernel_rfl) (fun _ _ _ h => h) hHeld (Or.inl ⟨by rfl, ?_⟩) rfl ?_
        rotate_left
        · intro wq hSw
          go_simp
          try with_reducible rfl
        simp only [List.set_cons_zero, List.set_cons_succ]
        refine wpAnyH_done (by kernel_rfl) ?_ _
        have hA5 := HAD.out.under hb5 HAD.out.lt
        have hR5 := hRd.under hb5 hRd.lt
        have hV5 := hVd.below hb5
        have hB5 := hBd.trans (hb5.mono hBd.size)
        have hA5l := hA5.load_agg (P := Try.prog) (t := 79) Try.underlying79 rfl size_in
        clear hA5 hAd hRd hVd hBd hb5
        have hth5 := hR5.there 0 2 (Nat.le_refl _)
        go_wp2_with (first
          | (refine wpList_store_mid rfl 79 (.tmp 4) (.tmp 54) rfl gr 0 #[.slice az kz cz, .bool false] rfl rfl hth5 (in_size _ _) (in_one _ _ rfl rfl) ?_)
          | (refine wpList_load_run rfl 79 (.tmp 2) rfl _ _ rfl hA5l ?_))
        have hE := hR5.whole_cs (cs2 := #[.slice az kz cz, .bool false]) rfl
        exact bodyPost_ret (results_cell_tmp rfl _ _ gr rfl _ _ rfl (in_load hE)) rfl ⟨⟨_, rfl, hV5.aside hR5 (Moved.putAll (F := fun k => k = gr) (.inl rfl) _ 0 (Moved.refl _ _)) (fun _ e => e)⟩, below_setAll (by have := HGR.out; omega) _ 0 hB5⟩
      · have hMi : ¬ ((M : Int) + (kz : Int) = (n : Int)) := by omega
        have hbb : ((M : Int) + (kz : Int) != (n : Int)) = true := by simpa using hMi
        obtain rfl : R = (none, 0) := by rw [HRE.out, if_neg hMk]
        have HMI := Lib.hid hMi
        clear hMk hMi
        obtain ⟨wd, hwd⟩ : ∃ x, x = wz.drew := ⟨_, rfl⟩
        have hAd : Has wd gi 79 #[.slice az kz cz, .bool false] := by rw [hwd]; exact HAZ.out.draw
        have hRd : Has wd gr 79 #[.slice none 0 0, .bool false] := by rw [hwd]; exact HRZ.out.draw
        have hVd : InS S wd (some B) (.agg #[.slice az kz cz, .bool false]) := by rw [hwd]; exact HVZ.out.below (Below.refl _ _).drew
        have hBd : Below w.heap.size w wd := by rw [hwd]; exact HBZ.out.drew
        have HAD := Lib.hid hAd
        refine wp_region_held_drew (S := Held wd) (by kernel_rfl) (by rw [hwd]; exact Held.refl _) (fun hHeld => ?_)
        rw [← hwd] at hHeld ⊢
        clear hwd
        refine take_at (v := ?_) 0 28 rfl rfl (by kernel_rfl) (by kernel_rfl) (by kernel_rfl) (fun _ _ _ h => h) hHeld (Or.inl ⟨by rfl, ?_⟩) rfl ?_
        rotate_left
        · intro wq hSw
          go_simp
          try with_reducible rfl
        simp only [List.set_cons_zero, List.set_cons_succ]
        refine take_at (v := ?_) 1 29 rfl rfl (by kernel_rfl) (by kernel_rfl) (by kernel_rfl) (fun _ _ _ h => h) hHeld (Or.inl ⟨by rfl, ?_⟩) rfl ?_
        rotate_left
        · intro wq hSw
          have hst := (HAD.out.under hSw HAD.out.lt).cell_at (i := 1) (v := .bool false) rfl
          go_simp
          try with_reducible rfl
        simp only [List.set_cons_zero, List.set_cons_succ]
        refine take_at (v := ?_) 2 30 rfl rfl (by kernel_rfl) (by kernel_rfl) (by kernel_rfl) (fun _ _ _ h => h) hHeld (Or.inl ⟨by rfl, ?_⟩) rfl ?_
        rotate_left
        · intro wq hSw
          go_simp
          try with_reducible rfl
        simp only [List.set_cons_zero, List.set_cons_succ]
        refine take_at (v := ?_) 3 31 rfl rfl (by kernel_rfl) (by kernel_rfl) (by kernel_rfl) (fun _ _ _ h => h) hHeld (Or.inl ⟨by rfl, ?_⟩) rfl ?_
        rotate_left
        · intro wq hSw
          go_simp
          try with_reducible rfl
        simp only [List.set_cons_zero, List.set_cons_succ]
        refine take_at (v := ?_) 4 32 rfl rfl (by kernel_rfl) (by kernel_rfl) (by kernel_rfl) (fun _ _ _ h => h) hHeld (Or.inl ⟨by rfl, ?_⟩) rfl ?_
        rotate_left
        · intro wq hSw
          go_simp
          try with_reducible rfl
        simp only [List.set_cons_zero, List.set_cons_succ]
        refine take_at (v := ?_) 5 33 rfl rfl (by kernel_rfl) (by kernel_rfl) (by kernel_rfl) (fun _ _ _ h => h) hHeld (Or.inl ⟨by rfl, ?_⟩) rfl ?_
        rotate_left
        · intro wq hSw
          go_simp
          try with_reducible rfl
        simp only [List.set_cons_zero, List.set_cons_succ]
        refine take_at (v := ?_) 6 34 rfl rfl (by kernel_rfl) (by kernel_rfl) (by kernel_rfl) (fun _ _ _ h => h) hHeld (Or.inl ⟨by rfl, ?_⟩) rfl ?_
        rotate_left
        · intro wq hSw
          go_simp
          try with_reducible rfl
        simp only [List.set_cons_zero, List.set_cons_succ]
        refine take_at (v := ?_) 7 35 rfl rfl (by kernel_rfl) (by kernel_rfl) (by kernel_rfl) (fun _ _ _ h => h) hHeld (Or.inl ⟨by rfl, ?_⟩) rfl ?_
        rotate_left
        · intro wq hSw
          go_simp
          try with_reducible rfl
        simp only [List.set_cons_zero, List.set_cons_succ]
        refine take_at (v := ?_) 8 36 rfl rfl (by kernel_rfl) (by kernel_rfl) (by kernel_rfl) (fun _ _ _ h => h) hHeld (Or.inl ⟨by rfl, ?_⟩) rfl ?_
        rotate_left
        · intro wq hSw
          go_simp
          try with_reducible rfl
        simp only [List.set_cons_zero, List.set_cons_succ]
        refine take_at (v := ?_) 9 37 rfl rfl (by kernel_rfl) (by kernel_rfl) (by kernel_rfl) (fun _ _ _ h => h) hHeld (Or.inl ⟨by rfl, ?_⟩) rfl ?_
        rotate_left
        · intro wq hSw
          go_simp
          try with_reducible rfl
        simp only [List.set_cons_zero, List.set_cons_succ]
        refine take_at (v := ?_) 10 38 rfl rfl (by kernel_rfl) (by kernel_rfl) (by kernel_rfl) (fun _ _ _ h => h) hHeld (Or.inl ⟨by rfl, ?_⟩) rfl ?_
        rotate_left
        · intro wq hSw
          go_simp
          try with_reducible rfl
        simp only [List.set_cons_zero, List.set_cons_succ]
        refine take_at (v := ?_) 11 39 rfl rfl (by kernel_rfl) (by kernel_rfl) (by kernel_rfl) (fun _ _ _ h => h) hHeld (Or.inl ⟨by rfl, ?_⟩) rfl ?_
        rotate_left
        · intro wq hSw
          go_simp
          try with_reducible rfl
        simp only [List.set_cons_zero, List.set_cons_succ]
        refine take_at (v := ?_) 12 40 rfl rfl (by kernel_rfl) (by kernel_rfl) (by kernel_rfl) (fun _ _ _ h => h) hHeld (Or.inl ⟨by rfl, ?_⟩) rfl ?_
        rotate_left
        · intro wq hSw
          go_simp
          try with_reducible rfl
        simp only [List.set_cons_zero, List.set_cons_succ]
        refine take_at (v := ?_) 13 41 rfl rfl (by kernel_rfl) (by kernel_rfl) (by kernel_rfl) (fun _ _ _ h => h) hHeld (Or.inl ⟨by rfl, ?_⟩) rfl ?_
        rotate_left
        · intro wq hSw
          go_simp
          try with_reducible rfl
        simp only [List.set_cons_zero, List.set_cons_succ]
        refine take_at (v := ?_) 14 42 rfl rfl (by kernel_rfl) (by kernel_rfl) (by kernel_rfl) (fun _ _ _ h => h) hHeld (Or.inl ⟨by rfl, ?_⟩) rfl ?_
        rotate_left
        · intro wq hSw
          go_simp
          try with_reducible rfl
        simp only [List.set_cons_zero, List.set_cons_succ]
        refine take_at (v := ?_) 17 45 rfl rfl (by kernel_rfl) (by kernel_rfl) (by kernel_rfl) (fun _ _ _ h => h) hHeld (Or.inl ⟨by rfl, ?_⟩) rfl ?_
        rotate_left
        · intro wq hSw
          go_simp
          try with_reducible rfl
        simp only [List.set_cons_zero, List.set_cons_succ]
        refine take_at (v := ?_) 18 46 rfl rfl (by kernel_rfl) (by kernel_rfl) (by kernel_rfl) (fun _ _ _ h => h) hHeld (Or.inl ⟨by rfl, ?_⟩) rfl ?_
        rotate_left
        · intro wq hSw
          have hst := (HAD.out.under hSw HAD.out.lt).cell_at (i := 0) (v := .slice az kz cz) rfl
          go_simp
          try with_reducible rfl
        simp only [List.set_cons_zero, List.set_cons_succ]
        refine take_at (v := ?_) 19 47 rfl rfl (by kernel_rfl) (by kernel_rfl) (by kernel_rfl) (fun _ _ _ h => h) hHeld (Or.inl ⟨by rfl, ?_⟩) rfl ?_
        rotate_left
        · intro wq hSw
          go_simp
          try with_reducible rfl
        simp only [List.set_cons_zero, List.set_cons_succ]
        refine take_at (v := ?_) 21 49 rfl rfl (by kernel_rfl) (by kernel_rfl) (by kernel_rfl) (fun _ _ _ h => h) hHeld (Or.inl ⟨by rfl, ?_⟩) rfl ?_
        rotate_left
        · intro wq hSw
          go_simp
          try with_reducible rfl
        simp only [List.set_cons_zero, List.set_cons_succ]
        refine take_at (v := ?_) 22 50 rfl rfl (by kernel_rfl) (by kernel_rfl) (by kernel_rfl) (fun _ _ _ h => h) hHeld (Or.inl ⟨by rfl, ?_⟩) rfl ?_
        rotate_left
        · intro wq hSw
          go_simp
          try with_reducible rfl
        simp only [List.set_cons_zero, List.set_cons_succ]
        refine wpAnyH_ready (rs := [15]) (by kernel_rfl) (by simp) ?_
        refine AllReadyH.cons rfl (fun K hK => ?_) AllReadyH.nil
        go_simp
        (go_at_call 65; refine (HC.out _).mono ?_; rintro e w5 ⟨v5, rfl, hv5, hb5⟩; obtain ⟨a5, c5, rfl, _, _, _⟩ := hv5.shape HM.out)
        refine hK.out _ _ (Held.of hb5) (fun _ => ?_)
        clear hK K
        try simp only [Act.put, List.setIfInBounds_toArray, List.set_cons_zero, List.set_cons_succ]
        refine held_grow (w1 := w5) (Held.of hb5) ?_
        clear hHeld
        have hHeld : Held w5 w5 := Held.refl _
        refine take_at (v := ?_) 16 44 rfl rfl (by kernel_rfl) (by kernel_rfl) (by kernel_rfl) (fun _ _ _ h => h) hHeld (Or.inl ⟨by rfl, ?_⟩) rfl ?_
        rotate_left
        · intro wq hSw
          go_simp
          try with_reducible rfl
        simp only [List.set_cons_zero, List.set_cons_succ]
        refine take_at (v := ?_) 20 48 rfl rfl (by kernel_rfl) (by kernel_rfl) (by kernel_rfl) (fun _ _ _ h => h) hHeld (Or.inl ⟨by rfl, ?_⟩) rfl ?_
        rotate_left
        · intro wq hSw
          go_simp
          try with_reducible rfl
        simp only [List.set_cons_zero, List.set_cons_succ]
        refine take_at (v := ?_) 23 51 rfl rfl (by kernel_rfl) (by kernel_rfl) (by kernel_rfl) (fun _ _ _ h => h) hHeld (Or.inl ⟨by rfl, ?_⟩) rfl ?_
        rotate_left
        · intro wq hSw
          go_simp
          try with_reducible rfl
        simp only [List.set_cons_zero, List.set_cons_succ]
        refine take_at (v := ?_) 24 52 rfl rfl (by kernel_rfl) (by kernel_rfl) (by kernel_rfl) (fun _ _ _ h => h) hHeld (Or.inl ⟨by rfl, ?_⟩) rfl ?_
        rotate_left
        · intro wq hSw
          go_simp
          try with_reducible rfl
        simp only [List.set_cons_zero, List.set_cons_succ]
        refine wpAnyH_done (by kernel_rfl) ?_ _
        have hA5 := HAD.out.under hb5 HAD.out.lt
        have hR5 := hRd.under hb5 hRd.lt
        have hV5 := hVd.below hb5
        have hB5 := hBd.trans (hb5.mono hBd.size)
        have hA5l := hA5.load_agg (P := Try.prog) (t := 79) Try.underlying79 rfl size_in
        clear hA5 hAd hRd hVd hBd hb5
        go_wp2_with (first
          | (refine wpList_store_mid rfl 79 (.tmp 4) (.tmp 53) rfl gr 0 #[.slice none 0 0, .bool true] rfl rfl hth6 (in_size _ _) (in_one _ _ rfl rfl) ?_)
          | (go_at_call 66; refine (rwrong_any _).mono ?_; rintro e w6 ⟨rfl, hb6⟩; have hR6 := hR5.under hb6 hR5.lt; have hth6 := hR6.there 0 2 (Nat.le_refl _)))
        have hE := hR6.whole_cs (cs2 := #[.slice none 0 0, .bool true]) rfl
        exact bodyPost_ret (results_cell_tmp rfl _ _ gr rfl _ _ rfl (in_load hE)) rfl ⟨⟨_, rfl, rfl⟩, below_setAll (by have := HGR.out; omega) _ 0 (hB5.trans (hb6.mono hB5.size))⟩
end Go.Proofs.Ytpbijcchdjppmaa.RdS
