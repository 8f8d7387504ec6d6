/- the reference's roots -/
import Derived.Test.YtamigcbodplmcaaGreatRoT
import Derived.Test.YtamigcbodplmcaaGreatGfSo
import Derived.Test.YtamigcbodplmcaaGreatPz
import Derived.Test.YtamigcbodplmcaaGreatWe
import Derived.StillTailTactics
namespace Go.Proofs.YtamigcbodplmcaaGreat
open Go Go.RowKit Go.ChangeShapes Go.WideShapes
theorem rrest_any (a b : Option Addr) (n c m d : Nat) (la lb : List (BitVec 32)) (w : World) (ha : Words32 w a n la) (hb : Words32 w b m lb) (hac : n ≤ c) (hbd : m ≤ d) (ha0 : a = none → c = 0) (hb0 : b = none → d = 0)
    (hs : n ≤ 68719476736) (hs2 : m ≤ 68719476736) (h0 : Po.len1 lb ≠ 0) :
    Calls Tryz.prog 63 #[.slice a n c, .slice b m d] w fun e w' => (∃ v, e = .returned v ∧ Fresh 40 w.heap.size w' v (Po.qr la lb).2) ∧ Below w.heap.size w w' := by
  go_enter Tryz.func63, Tryz.ntmps63
  go_wp2_with (first
    | (go_at_call 81; refine (rdivide_any a b n c m d la lb w ha hb hac hbd ha0 hb0 hs hs2 h0).mono ?_; rintro e w1 ⟨⟨v, u, rfl, hv, hu⟩, hb1⟩))
  go_ret
  exact ⟨⟨_, rfl, hu⟩, hb1⟩
set_option maxHeartbeats 1000000 in
theorem rtraces_any (a : Option Addr) (n c : Nat) (lp : List (BitVec 32)) (b : BitVec 32) (w : World) (ha : Words32 w a n lp) (hac : n ≤ c) (ha0 : a = none → c = 0) (hs : n ≤ 1000000) (h0 : Po.len1 lp ≠ 0) :
    Calls Tryz.prog 60 #[.slice a n c, .int .u32 (nb32 b)] w fun e w' => (∃ v, e = .returned v ∧ Fresh 40 w.heap.size w' v (Po.trc lp b 32)) ∧ Below w.heap.size w w' := by
  have hl := ha.1
  have hle := Po.len1_le lp
  have hn64 : n ≤ 68719476736 := by omega
  have h264 : (2 : Nat) ≤ 68719476736 := by omega
  go_enter Tryz.func60, Tryz.ntmps60
  go_wp2_with (first
    | (go_at_call 63; refine (rrest_any (some ⟨w.heap.size, 0, none⟩) a 2 2 n c [0#32, b] lp _ (words_two w 0#32 b 40) (ha.past _) (Nat.le_refl _) hac (fun e => by cases e) ha0 h264 hn64 h0).mono ?_; rintro e w1 ⟨⟨v, rfl, hv⟩, hb1⟩; have hB1 := ((Below.refl _ w).alloc (Nat.le_refl _) _).trans (hb1.mono (by simp)); have hv1 := hv.low (B' := w.heap.size) (by simp); change Fresh _ _ _ _ (Po.qr [0, b] lp).2 at hv1; rw [← Po.tm_zero] at hv1))
  go_loopw [5, 6, 7] (fun s x i wr => ∃ k : Nat, k ≤ 32 ∧ i = .int .i64 k ∧ Fresh 40 w.heap.size wr s (Po.trc lp b k) ∧ Fresh 40 w.heap.size wr x (Po.tm lp b k) ∧ Below w.heap.size w wr) (fun _ _ i _ => 32 - (intOf i).toNat)
  case atStart => exact ⟨0, Nat.zero_le _, rfl, by rw [Po.trc_zero]; exact Fresh.nil _ _ _, hv1, hB1⟩
  case round =>
    obtain ⟨k, hk, rfl, hfs, hfx, hb⟩ := hrel
    obtain ⟨sa, sc, rfl, hsc, hs0, hsw⟩ := fresh_shape0 hfs
    obtain ⟨xa, xc, rfl, hxc, hx0, hxw⟩ := fresh_shape0 hfx
    have hsl := Po.trc_len h0 b k
    have hxl := Po.tm_len h0 b k
    by_cases hlt : k < 32
    · have q1 : (Po.trc lp b k).length ≤ 274877906944 := by omega
      have q2 : (Po.tm lp b k).length ≤ 274877906944 := by omega
      have q3 : (Po.tm lp b k).length ≤ 68719476736 := by omega
      have hmn := Po.mulR_norm (Po.tm lp b k) (Po.tm lp b k)
      have hml : (Po.mulR (Po.tm lp b k) (Po.tm lp b k)).length ≤ 68719476736 := by
        have : (Po.mulR (Po.tm lp b k) (Po.tm lp b k)).length ≤ 2 * n := hmn.len fun i hi => by
          have h1 := Po.len1_le (Po.tm lp b k)
          exact Po.beyond _ _ i (by omega)
        omega
      have HM := Lib.hid (And.intro hmn hml)
      have HA := Lib.hid (Po.addL_norm (Po.trc lp b k) (Po.tm lp b k))
      clear hmn hml
      go_wp2_with (first
        | (go_at_call 62; refine (radd_any sa xa _ sc _ xc _ _ _ hsw hxw q1 q2).mono ?_; rintro e w2 ⟨⟨v2, l2, rfl, hv2, hn2⟩, hb2⟩; have e2 := hn2.unique HA.out; subst e2; rw [← Po.trc_succ] at hv2)
        | (go_at_call 64; refine (rpmul_any xa xa _ xc _ xc _ _ _ (hxw.below hb2) (hxw.below hb2) q3 q3).mono ?_; rintro e w3 ⟨⟨v3, l3, rfl, hv3, hn3⟩, hb3⟩; have e3 := hn3.unique HM.out.1; subst e3; obtain ⟨ma, mc, rfl, hmc, hm0, hmw⟩ := fresh_shape0 hv3; have hb23 := hb2.trans (hb3.mono hb2.size))
        | (go_at_call 63; refine (rrest_any ma a _ mc n c _ lp _ hmw (ha.below (hb.trans (hb23.mono hb.size))) hmc hac hm0 ha0 HM.out.2 hn64 h0).mono ?_; rintro e w4 ⟨⟨v4, rfl, hv4⟩, hb4⟩; rw [← Po.tm_succ] at hv4; have hb24 := hb23.trans (hb4.mono hb23.size)))
      go_roundw
      case rel => exact ⟨k + 1, by omega, by go_num, (hv2.below (hb3.trans (hb4.mono hb3.size))).low hb.size, hv4.low (Nat.le_trans hb.size hb23.size), hb.trans (hb24.mono hb.size)⟩
      case measure => simp [intOf]; omega
    · obtain rfl : k = 32 := by omega
      go_wp2
      go_ret
      exact ⟨⟨_, rfl, hfs⟩, hb⟩
set_option maxHeartbeats 1000000 in
theorem rlinear_any (a : Option Addr) (n c : Nat) (lp : List (BitVec 32)) (w : World) (ha : Words32 w a n lp) (hac : n ≤ c) (ha0 : a = none → c = 0) (hs : n ≤ 1000000) (h0 : Po.len1 lp ≠ 0) :
    Calls Tryz.prog 41 #[.slice a n c] w fun e w' => (∃ v, e = .returned v ∧ Fresh 40 w.heap.size w' v (Po.fromL (Po.rts lp))) ∧ Below w.heap.size w w' := by
  have hl := ha.1
  have hle := Po.len1_le lp
  have hn64 : n ≤ 68719476736 := by omega
  have h264 : (2 : Nat) ≤ 68719476736 := by omega
  have h274 : (2 : Nat) ≤ 274877906944 := by omega
  go_enter Tryz.func41, Tryz.ntmps41
  go_wp2_with (first
    | (go_at_call 63; refine (rrest_any (some ⟨w.heap.size, 0, none⟩) a 2 2 n c [0#32, 1#32] lp _ (words_two w 0#32 1#32 40) (ha.past _) (Nat.le_refl _) hac (fun e => by cases e) ha0 h264 hn64 h0).mono ?_; rintro e w1 ⟨⟨v, rfl, hv⟩, hb1⟩; have hB1 := ((Below.refl _ w).alloc (Nat.le_refl _) _).trans (hb1.mono (by simp)); have hv1 := hv.low (B' := w.heap.size) (by simp); change Fresh _ _ _ _ (Po.qr [0, 1#32] lp).2 at hv1; rw [← Po.tm_zero] at hv1))
  go_loopw [3, 4] (fun x i wr => ∃ k : Nat, k ≤ 32 ∧ i = .int .i64 k ∧ Fresh 40 w.heap.size wr x (Po.tm lp 1#32 k) ∧ Below w.heap.size w wr) (fun _ i _ => 32 - (intOf i).toNat)
  case atStart => exact ⟨0, Nat.zero_le _, rfl, hv1, hB1⟩
  case round =>
    obtain ⟨k, hk, rfl, hfx, hb⟩ := hrel
    obtain ⟨xa, xc, rfl, hxc, hx0, hxw⟩ := fresh_shape0 hfx
    have hxl := Po.tm_len h0 1#32 k
    by_cases hlt : k < 32
    · have q3 : (Po.tm lp 1#32 k).length ≤ 68719476736 := by omega
      have hmn := Po.mulR_norm (Po.tm lp 1#32 k) (Po.tm lp 1#32 k)
      have hml : (Po.mulR (Po.tm lp 1#32 k) (Po.tm lp 1#32 k)).length ≤ 68719476736 := by
        have : (Po.mulR (Po.tm lp 1#32 k) (Po.tm lp 1#32 k)).length ≤ 2 * n := hmn.len fun i hi => by
          have h1 := Po.len1_le (Po.tm lp 1#32 k)
          exact Po.beyond _ _ i (by omega)
        omega
      have HM := Lib.hid (And.intro hmn hml)
      clear hmn hml
      go_wp2_with (first
        | (go_at_call 64; refine (rpmul_any xa xa _ xc _ xc _ _ _ hxw hxw q3 q3).mono ?_; rintro e w3 ⟨⟨v3, l3, rfl, hv3, hn3⟩, hb3⟩; have e3 := hn3.unique HM.out.1; subst e3; obtain ⟨ma, mc, rfl, hmc, hm0, hmw⟩ := fresh_shape0 hv3)
        | (go_at_call 63; refine (rrest_any ma a _ mc n c _ lp _ hmw (ha.below (hb.trans (hb3.mono hb.size))) hmc hac hm0 ha0 HM.out.2 hn64 h0).mono ?_; rintro e w4 ⟨⟨v4, rfl, hv4⟩, hb4⟩; rw [← Po.tm_succ] at hv4; have hb24 := hb3.trans (hb4.mono hb3.size)))
      go_roundw
      case rel => exact ⟨k + 1, by omega, by go_num, hv4.low (Nat.le_trans hb.size hb3.size), hb.trans (hb24.mono hb.size)⟩
      case measure => simp [intOf]; omega
    · obtain rfl : k = 32 := by omega
      have q2 : (Po.tm lp 1#32 32).length ≤ 274877906944 := by omega
      have hal : ∀ l2, Po.Norm l2 (Po.addF (Po.cf (Po.tm lp 1#32 32)) (Po.cf [0#32, 1#32])) → l2.length ≤ 68719476736 := fun l2 h2 => by
        have : l2.length ≤ n + 2 := h2.len fun i hi => by
          show Po.cf _ i ^^^ Po.cf _ i = 0
          rw [Po.cf_ge (by omega), Po.cf_ge (by simp; omega)]
          rfl
        omega
      go_wp2_with (first
        | (go_at_call 62; refine (radd_any xa _ _ xc 2 2 _ [0#32, 1#32] _ (hxw.past _) (words_two wr 0#32 1#32 40) q2 h274).mono ?_; rintro e w2 ⟨⟨v2, l2, rfl, hv2, hn2⟩, hb2⟩; have hB2 := ((Below.refl _ wr).alloc (Nat.le_refl _) _).trans (hb2.mono (by simp)); obtain ⟨sa, sc, rfl, hsc, hs0, hsw⟩ := fresh_shape0 hv2)
        | (go_at_call 61; refine (rcommon_any a sa n c _ sc lp l2 _ (ha.below (hb.trans (hB2.mono hb.size))) hsw hac hsc ha0 hs0 hn64 (hal l2 hn2)).mono ?_; rintro e w3 ⟨⟨v3, g, rfl, hg, hv3⟩, hb3⟩; have eg := Po.linear_eq h0 hn2.2 hg; subst eg))
      go_ret
      exact ⟨⟨_, rfl, hv3.low (Nat.le_trans hb.size hB2.size)⟩, hb.trans ((hB2.trans (hb3.mono hB2.size)).mono hb.size)⟩
set_option maxHeartbeats 1000000 in
theorem rpair_any (r s : BitVec 32) (w : World) (hrs : r ≠ s) :
    Calls Tryz.prog 59 #[.int .u32 (nb32 (r ^^^ s)), .int .u32 (nb32 (Gf.mul r s))] w fun e w' => (∃ v m, e = .returned v ∧ OwnW 40 w.heap.size w' v m ∧ m.Perm [r, s]) ∧ Below w.heap.size w w' := by
  have htr := Po.pair_trace hrs
  have hsb : solveB (Gf.mul (Gf.mul r s) (Gf.mul (Gf.inv (r ^^^ s)) (Gf.inv (r ^^^ s)))) = true := by unfold solveB; rw [htr]; rfl
  have hpr := Po.pair_roots hrs (solve_solves htr)
  obtain ⟨y, hy⟩ : ∃ y, y = solveY (Gf.mul (Gf.mul r s) (Gf.mul (Gf.inv (r ^^^ s)) (Gf.inv (r ^^^ s)))) := ⟨_, rfl⟩
  rw [← hy] at hpr
  have HY := Lib.hid hy
  have HP := Lib.hid hpr
  clear hy hpr htr
  go_enter Tryz.func59, Tryz.ntmps59
  go_wp2_with (first
    | (go_at_call 39; refine (rinverse_any _ _).mono ?_; rintro e w1 ⟨rfl, rfl⟩)
    | (go_at_call 20; refine (rmul_any _ _ _).mono ?_; rintro e w1 ⟨rfl, rfl⟩)
    | (go_at_call 79; refine (rsolve_any _ _).mono ?_; rintro e w1 ⟨rfl, hb1⟩; rw [hsb, ← HY.out]))
  go_ret
  refine ⟨⟨_, [Gf.mul (r ^^^ s) y, Gf.mul (r ^^^ s) (y ^^^ 1)], rfl, own_lit hb1.size (Has.fresh _ _ _) rfl rfl (by omega), ?_⟩, hb1.alloc hb1.size _⟩
  rcases HP.out with ⟨e1, e2⟩ | ⟨e1, e2⟩
  · rw [e1, e2]
  · rw [e1, e2]
    exact List.Perm.swap _ _ _
theorem len3 {l : List (BitVec 32)} (h0 : l ≠ []) (h1 : ∀ r, l ≠ [r]) (h2 : ∀ r s, l ≠ [r, s]) : 3 ≤ l.length := by
  match l, h0, h1, h2 with
  | [], h0, _, _ => exact (h0 rfl).elim
  | [r], _, h1, _ => exact (h1 r rfl).elim
  | [r, s], _, _, h2 => exact (h2 r s rfl).elim
  | _ :: _ :: _ :: _, _, _, _ => simp
/-- what parts answers -/
def PartsOk (k : Nat) : Prop := ∀ (bit : Nat) (l : List (BitVec 32)), bit + k = 32 → Po.Srt l → Po.Agree l bit → l.length ≤ 1000 → ∀ (a : Option Addr) (n c : Nat) (w : World), Words32 w a n (Po.fromL l) → n ≤ c → (a = none → c = 0) →
    Calls Tryz.prog 40 #[.slice a n c, .int .i64 (bit : Int)] w fun e w' => (∃ v m, e = .returned v ∧ OwnW 40 w.heap.size w' v m ∧ m.Perm l) ∧ Below w.heap.size w w'
theorem rparts_0 (bit : Nat) (a : Option Addr) (n c : Nat) (w : World) (ha : Words32 w a n (Po.fromL [])) :
    Calls Tryz.prog 40 #[.slice a n c, .int .i64 (bit : Int)] w fun e w' => (∃ v m, e = .returned v ∧ OwnW 40 w.heap.size w' v m ∧ m.Perm []) ∧ Below w.heap.size w w' := by
  have hn := ha.1
  rw [(Po.fromL_all []).1] at hn
  change 1 = n at hn
  subst hn
  go_enter Tryz.func40, Tryz.ntmps40
  go_wp2
  go_ret
  exact ⟨⟨_, [], rfl, OwnW.nil _ _ _, List.Perm.refl _⟩, Below.refl _ _⟩
theorem rparts_1 (bit : Nat) (r : BitVec 32) (a : Option Addr) (n c : Nat) (w : World) (ha : Words32 w a n (Po.fromL [r])) :
    Calls Tryz.prog 40 #[.slice a n c, .int .i64 (bit : Int)] w fun e w' => (∃ v m, e = .returned v ∧ OwnW 40 w.heap.size w' v m ∧ m.Perm [r]) ∧ Below w.heap.size w w' := by
  have hn := ha.1
  rw [(Po.fromL_all [r]).1] at hn
  change 2 = n at hn
  subst hn
  rw [Po.fromL_one] at ha
  obtain ⟨ad, rfl, hx⟩ := ha.2.2 0 (by omega)
  rw [show ad.add 0 = ad from by unfold Addr.add; cases ad; simp] at hx
  change w.cell? ad = some (.int .u32 (nb32 r)) at hx
  go_enter Tryz.func40, Tryz.ntmps40
  go_wp2
  go_ret
  exact ⟨⟨_, [r], rfl, own_lit (Nat.le_refl _) (Has.fresh _ _ _) rfl rfl (by omega), List.Perm.refl _⟩, (Below.refl _ _).alloc (Nat.le_refl _) _⟩
theorem rparts_2 (bit : Nat) (r s : BitVec 32) (hrs : r ≠ s) (a : Option Addr) (n c : Nat) (w : World) (ha : Words32 w a n (Po.fromL [r, s])) :
    Calls Tryz.prog 40 #[.slice a n c, .int .i64 (bit : Int)] w fun e w' => (∃ v m, e = .returned v ∧ OwnW 40 w.heap.size w' v m ∧ m.Perm [r, s]) ∧ Below w.heap.size w w' := by
  have hn := ha.1
  rw [(Po.fromL_all [r, s]).1] at hn
  change 3 = n at hn
  subst hn
  rw [Po.fromL_two] at ha
  obtain ⟨ad, rfl, hx⟩ := ha.2.2 0 (by omega)
  obtain ⟨ad', e, hy⟩ := ha.2.2 1 (by omega)
  injection e with e
  subst e
  rw [show ad.add 0 = ad from by unfold Addr.add; cases ad; simp] at hx
  change w.cell? ad = some (.int .u32 (nb32 (Gf.mul r s))) at hx
  change w.cell? ⟨ad.block, ad.off + 1, none⟩ = some (.int .u32 (nb32 (r ^^^ s))) at hy
  have hxl : ad.block < w.heap.size := isSome_lt (p := ad) (by rw [hx]; rfl)
  go_enter Tryz.func40, Tryz.ntmps40
  go_wp2_with fail
  go_region_held3 (fun w' => w'.cell? ad = some (.int .u32 (nb32 (Gf.mul r s))) ∧ w'.cell? ⟨ad.block, ad.off + 1, none⟩ = some (.int .u32 (nb32 (r ^^^ s)))) (first
        | exact ⟨hx, hy⟩
        | exact ⟨(hb1.cell hxl).trans hx, (hb1.cell (p := ⟨ad.block, ad.off + 1, none⟩) hxl).trans hy⟩)
        (first | (go_at_call 59; refine (rpair_any r s _ hrs).mono ?_; rintro e w1 ⟨⟨v, m, rfl, hv, hm⟩, hb1⟩))
  go_wp2
  go_ret
  exact ⟨⟨_, m, rfl, hv, hm⟩, (Below.refl w.heap.size w).drew.trans hb1⟩
theorem ne_0 {n : Nat} (h : n ≠ 0) : ((n : Int) == 0) = false := by simpa using h
set_option maxRecDepth 100000 in
set_option maxHeartbeats 2000000 in
theorem rparts_3 (k : Nat) (ih : PartsOk k) (bit : Nat) (l : List (BitVec 32)) (hbit : bit + (k + 1) = 32) (hs : Po.Srt l) (hag : Po.Agree l bit) (hlen : l.length ≤ 1000) (h3 : 3 ≤ l.length) (a : Option Addr) (n c : Nat) (w : World) (ha : Words32 w a n (Po.fromL l)) (hac : n ≤ c) (ha0 : a = none → c = 0) :
    Calls Tryz.prog 40 #[.slice a n c, .int .i64 (bit : Int)] w fun e w' => (∃ v m, e = .returned v ∧ OwnW 40 w.heap.size w' v m ∧ m.Perm l) ∧ Below w.heap.size w w' := by
  have hn := ha.1
  rw [(Po.fromL_all l).1] at hn
  have h0 : Po.len1 (Po.fromL l) ≠ 0 := by rw [(Po.fromL_all l).2]; omega
  have hl1 := (Po.fromL_all l).2
  obtain ⟨cc, hcc⟩ : ∃ cc, cc = 1#32 <<< bit := ⟨_, rfl⟩
  obtain ⟨t, ht⟩ : ∃ t, t = Po.trc (Po.fromL l) cc 32 := ⟨_, rfl⟩
  have htl : t.length ≤ n := by rw [ht]; have := Po.trc_len h0 cc 32; omega
  have hte : ∀ x, Po.ev (Po.fromL l) x = 0 → Po.ev t x = Gf.trace (Gf.mul cc x) 32 := fun x hx => by rw [ht]; exact Po.trc_ev h0 hx cc 32
  obtain ⟨l0, hl0⟩ : ∃ l0, l0 = l.filter fun x => Gf.trace (Gf.mul cc x) 32 == 0 := ⟨_, rfl⟩
  obtain ⟨l1, hl1'⟩ : ∃ l1, l1 = l.filter fun x => Gf.trace (Gf.mul cc x) 32 == 1 := ⟨_, rfl⟩
  have hg0 : ∀ g, Po.Gcd (Po.fromL l) t g → g = Po.fromL l0 := fun g hg => by rw [hl0]; exact Po.half_zero hs cc hte hg
  have hg1 : ∀ u g, Po.Norm u (Po.addF (Po.cf t) (Po.cf [1#32])) → Po.Gcd (Po.fromL l) u g → g = Po.fromL l1 := fun u g hu hg => by rw [hl1']; exact Po.half_one hs cc hte hu.2 hg
  have hs0 : Po.Srt l0 := by rw [hl0]; exact hs.filter _
  have hs1 : Po.Srt l1 := by rw [hl1']; exact hs.filter _
  have hag0 : Po.Agree l0 (bit + 1) := by rw [hl0, hcc]; exact hag.part 0
  have hag1 : Po.Agree l1 (bit + 1) := by rw [hl1', hcc]; exact hag.part 1
  have hpm : (l0 ++ l1).Perm l := by rw [hl0, hl1']; exact Po.part_perm l cc
  have hln0 : l0.length ≤ 1000 := by rw [hl0]; exact Nat.le_trans (List.length_filter_le _ _) hlen
  have hln1 : l1.length ≤ 1000 := by rw [hl1']; exact Nat.le_trans (List.length_filter_le _ _) hlen
  have hpl := hpm.length_eq
  have hbi : ((bit + 1 : Nat) : Int) = (bit : Int) + 1 := by omega
  have hi0 := ih (bit + 1) l0 (by omega) hs0 hag0 hln0
  have hi1 := ih (bit + 1) l1 (by omega) hs1 hag1 hln1
  rw [hbi] at hi0 hi1
  clear hbi
  have HH := Lib.hid (And.intro hg0 (And.intro hg1 (And.intro hpm (And.intro hi0 hi1))))
  have HT := Lib.hid ht
  have HC := Lib.hid hcc
  have hadl : ∀ u, Po.Norm u (Po.addF (Po.cf t) (Po.cf [1#32])) → u.length ≤ 68719476736 := fun u hu => by
    have : u.length ≤ n + 1 := hu.len fun i hi => by
      show Po.cf _ i ^^^ Po.cf _ i = 0
      rw [Po.cf_ge (by omega), Po.cf_ge (by simp; omega)]
      rfl
    omega
  have HA := Lib.hid hadl
  have hf0 := (Po.fromL_all l0).1
  have hf1 := (Po.fromL_all l1).1
  have hn1 : n ≤ 1000000 := by omega
  have hn64 : n ≤ 68719476736 := by omega
  have ht64 : t.length ≤ 68719476736 := by omega
  have ht27 : t.length ≤ 274877906944 := by omega
  have h127 : (1 : Nat) ≤ 274877906944 := by omega
  have hbw : IntKind.u64.wrap (bit : Int) = (bit : Int) := by rw [IntKind.wrap_u64]; omega
  have hbw1 : IntKind.i64.wrap ((bit : Int) + 1) = (bit : Int) + 1 := IntWalk.i64_in _ (by omega)
  have c2 : ¬ (n : Int) < 2 := by omega
  have c3 : ((n : Int) == 2) = false := by simp; omega
  have c4 : ((n : Int) == 3) = false := by simp; omega
  clear hg0 hg1 hpm hi0 hi1 hcc ht hte hl0 hl1' hs0 hs1 hag0 hag1 hag hs hadl hl1 ih
  go_enter Tryz.func40, Tryz.ntmps40
  go_wp2_with (first
    | (at_builtin; refine wpList_append_words rfl (.tmp 47) (.tmp 51) 22 rfl 40 Tryz.underlying22 info_word w.heap.size _ m5 rfl ((hv5.below hb6).low (Nat.le_trans hB4.size (Nat.le_refl _))) ma _ mc m6 rfl hmw hm0 (by omega) (Nat.le_trans hB5.size hb6.size) ?_; intro v7 w7 h7 h8; have hB7 := below_own_row (hB5.trans (hb6.mono hB5.size)) h8 ((hv5.below hb6).low (Nat.le_trans hB4.size (Nat.le_refl _))).lt)
    | (go_at_call 40; refine (HH.out.2.2.2.2 qa _ qc w5 (hqw.below hb5) hqc hq0).mono ?_; rintro e w6 ⟨⟨v6, m6, rfl, hv6, hm6⟩, hb6⟩; have hml6 := hm6.length_eq; obtain ⟨ma, mc, rfl, hmc, hm0, hmw⟩ := fresh_shapeK hv6.fresh hml6)
    | (go_at_call 40; refine (HH.out.2.2.2.1 pa _ pc w4 (hpw.below hX4) hpc hp0).mono ?_; rintro e w5 ⟨⟨v5, m5, rfl, hv5, hm5⟩, hb5⟩; have hml5 := hm5.length_eq; have hB5 := hB4.trans (hb5.mono hB4.size))
    | (go_at_call 61; refine (rcommon_any a ua n c _ uc (Po.fromL l) u3 w3 (ha.below hB3) huw hac huc ha0 hu0 hn64 (HA.out _ hn3)).mono ?_; rintro e w4 ⟨⟨v4, g4, rfl, hg4, hv4⟩, hb4⟩; have e4 := HH.out.2.1 _ _ hn3 hg4; subst e4; obtain ⟨qa, qc, rfl, hqc, hq0, hqw⟩ := fresh_shapeK hv4 hf1; have hX4 := hX3.trans (hb4.mono hX3.size); have hB4 := hB2.trans (hX4.mono hB2.size))
    | (go_at_call 62; refine (radd_any ta _ _ tc 1 1 t [1#32] _ ((htw.below hb2).past _) (words_one w2 1#32 40) ht27 h127).mono ?_; rintro e w3 ⟨⟨v3, u3, rfl, hv3, hn3⟩, hb3⟩; obtain ⟨ua, uc, rfl, huc, hu0, huw⟩ := fresh_shape0 hv3; have hX3 := ((Below.refl _ w2).alloc (Nat.le_refl _) _).trans (hb3.mono (by simp)); have hB3 := hB2.trans (hX3.mono hB2.size))
    | (go_at_call 61; refine (rcommon_any a ta n c _ tc (Po.fromL l) t w1 (ha.below hb1) htw hac htc ha0 ht0 hn64 ht64).mono ?_; rintro e w2 ⟨⟨v2, g2, rfl, hg2, hv2⟩, hb2⟩; have e2 := HH.out.1 _ hg2; subst e2; obtain ⟨pa, pc, rfl, hpc, hp0, hpw⟩ := fresh_shapeK hv2 hf0; have hB2 := hb1.trans (hb2.mono hb1.size))
    | (go_at_call 60; refine (rtraces_any a n c (Po.fromL l) (1#32 <<< bit) _ ha hac ha0 hn1 h0).mono ?_; rintro e w1 ⟨⟨v1, rfl, hv1⟩, hb1⟩; rw [← HC.out, ← HT.out] at hv1; obtain ⟨ta, tc, rfl, htc, ht0, htw⟩ := fresh_shape0 hv1))
  go_ret
  exact ⟨⟨_, m5 ++ m6, rfl, h7, (hm5.append hm6).trans HH.out.2.2.1⟩, hB7⟩
theorem rparts_any : ∀ k, PartsOk k := by
  intro k
  induction k with
  | zero =>
    intro bit l hb hs hag hl a n c w ha hac ha0
    obtain rfl : bit = 32 := by omega
    have h1 := hag.all hs
    match l, h1, ha with
    | [], _, ha => exact rparts_0 32 a n c w ha
    | [r], _, ha => exact rparts_1 32 r a n c w ha
  | succ k ih =>
    intro bit l hb hs hag hl a n c w ha hac ha0
    match l, hs, hag, hl, ha with
    | [], _, _, _, ha => exact rparts_0 bit a n c w ha
    | [r], _, _, _, ha => exact rparts_1 bit r a n c w ha
    | [r, s], hs, _, _, ha => exact rparts_2 bit r s (fun e => by have := (List.pairwise_cons.1 hs).1 s (List.mem_cons_self ..); rw [e] at this; omega) a n c w ha
    | x :: y :: z :: l, hs, hag, hl, ha => exact rparts_3 k ih bit (x :: y :: z :: l) hb hs hag hl (by simp) a n c w ha hac ha0
end Go.Proofs.YtamigcbodplmcaaGreat
