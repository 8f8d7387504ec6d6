/- package roots: what allowed, squared, traces, Linear, Count, Traces answer · package roots: found, sorted, All, Split (over what the library's sort does) -/
import Derived.Test.YtlackhjlnoefcaaRoK
import Derived.Deep.AppendLies
/-! package roots: what allowed, squared, traces, Linear, Count, Traces answer -/
namespace Go.Proofs.Ytlackhjlnoefcaa
open Go Go.RowKit Go.ChangeShapes Go.WideShapes
instance Po.fitsDec (l : List (BitVec 32)) : Decidable (Po.Fits l) := inferInstanceAs (Decidable (_ ∧ _))
theorem allowed_any (a : Option Addr) (n c : Nat) (l : List (BitVec 32)) (w : World) (h : Words32 w a n l) :
    Calls Try.prog 31 #[.slice a n c] w fun e w' => e = .returned (.bool (decide (Po.Fits l))) ∧ Below w.heap.size w w' := by
  by_cases h0 : Po.len1 l = 0
  · have hf : decide (Po.Fits l) = false := decide_eq_false fun hh => hh.1 h0
    have ht : ¬ (0 : Int) ≤ (Po.len1 l : Int) - 1 := by omega
    rw [hf]
    clear hf
    go_enter Try.func31, Try.ntmps31
    go_wp2_with (go_at_call 26; refine (pdegree_any _ _ _ _ _ h).mono ?_; rintro e w1 ⟨rfl, hb1⟩)
    go_ret
    exact ⟨rfl, hb1⟩
  · have ht : (0 : Int) ≤ (Po.len1 l : Int) - 1 := by omega
    by_cases h1 : Po.len1 l ≤ 61
    · have hf : decide (Po.Fits l) = true := decide_eq_true ⟨h0, h1⟩
      have ht2 : (Po.len1 l : Int) - 1 ≤ 60 := by omega
      rw [hf]
      clear hf
      go_enter Try.func31, Try.ntmps31
      go_wp2_with (go_at_call 26; refine (pdegree_any _ _ _ _ _ h).mono ?_; rintro e w1 ⟨rfl, hb1⟩)
      go_ret
      exact ⟨rfl, hb1⟩
    · have hf : decide (Po.Fits l) = false := decide_eq_false fun hh => h1 hh.2
      have ht2 : ¬ (Po.len1 l : Int) - 1 ≤ 60 := by omega
      rw [hf]
      clear hf
      go_enter Try.func31, Try.ntmps31
      go_wp2_with (go_at_call 26; refine (pdegree_any _ _ _ _ _ h).mono ?_; rintro e w1 ⟨rfl, hb1⟩)
      go_ret
      refine ⟨?_, hb1⟩
      show Ending.returned (Value.bool (decide _)) = _
      rw [decide_eq_false (by omega)]
theorem squared_any (a b : Option Addr) (n c m d : Nat) (la lb : List (BitVec 32)) (w : World) (ha : Words32 w a n la) (hb : Words32 w b m lb) (hac : n ≤ c) (hbd : m ≤ d) (hs : n ≤ 274877906944) (hs2 : m ≤ 1099511627776) (h0 : Po.len1 lb ≠ 0) :
    Calls Try.prog 32 #[.slice a n c, .slice b m d] w fun e w' => (∃ u, e = .returned u ∧ Fresh 37 w.heap.size w' u (Po.qr (Po.mulR la la) lb).2) ∧ Below w.heap.size w w' := by
  have he : (Po.qr (Po.sqL la) lb).2 = (Po.qr (Po.mulR la la) lb).2 := by
    rw [Po.qr_congr (show Po.cf (Po.sqL la) = Po.cf (Po.mulR la la) by rw [Po.sqL_cf, Po.cf_mulR]) h0]
  go_enter Try.func32, Try.ntmps32
  go_wp2_with (go_at_call 53; refine (psq_any a b n c m d la lb w ha hb hac hbd hs hs2 h0).mono ?_; rintro e w1 ⟨⟨u, rfl, hu⟩, hb1⟩)
  go_ret
  rw [he] at hu
  exact ⟨⟨_, rfl, hu⟩, hb1⟩
namespace Po
/-- the powers of x to 2^i, modulo -/
noncomputable def pw (p : List E) : Nat → List E
  | 0 => [0, 1]
  | i + 1 => (qr (mulR (pw p i) (pw p i)) p).2
theorem pw_zero (p : List E) : pw p 0 = [0, 1] := rfl
theorem pw_succ (p : List E) (i : Nat) : pw p (i + 1) = (qr (mulR (pw p i) (pw p i)) p).2 := rfl
theorem pw_len {p : List E} (hp : len1 p ≠ 0) : ∀ i, (pw p i).length ≤ len1 p + 2
  | 0 => by show 2 ≤ _; omega
  | i + 1 => by have := (qr_len (mulR (pw p i) (pw p i)) hp).2; rw [pw_succ]; omega
theorem cf_x : cf [0, 1] = Xn (2 ^ 0) oneF := by
  funext i
  rcases i with _ | _ | i
  · rfl
  · rfl
  · rw [cf_cons, cf_cons, cf_nil]
    show (0 : E) = (if 2 ^ 0 ≤ i + 1 + 1 then oneF (i + 1 + 1 - 2 ^ 0) else 0)
    rw [if_pos (by omega)]
    show (0 : E) = if i + 1 + 1 - 2 ^ 0 = 0 then 1 else 0
    rw [if_neg (by omega)]
theorem pw_dv {p : List E} (hp : len1 p ≠ 0) : ∀ i, ∃ s, cf s = addF (cf (pw p i)) (Xn (2 ^ i) oneF) ∧ Dv p s
  | 0 => ⟨[], by rw [pw_zero, cf_x, addF_self, cf_nil], Dv.zero rfl⟩
  | i + 1 => by
    obtain ⟨s, h1, h2⟩ := pw_dv hp i
    obtain ⟨y, hy⟩ := lXn (2 ^ i)
    rw [← hy] at h1
    have h3 := sq_add h1 hy
    obtain ⟨u, h4, h5⟩ := rest_dv (x := mulR (pw p i) (pw p i)) hp
    obtain ⟨z, hz⟩ := lmul s s
    have h6 : Dv p z := h2.mul s hz
    obtain ⟨v, hv⟩ := sumL z u
    refine ⟨v, ?_, h6.add h5 hv⟩
    rw [hv, hz, h3, h4, cf_mulR]
    show addF (addF _ _) (addF _ (cf (pw p (i + 1)))) = _
    rw [addF_swap, addF_self, zero_addF, addF_comm, show 2 * 2 ^ i = 2 ^ (i + 1) from by rw [Nat.pow_succ]; omega]
theorem linear_pw {p t g : List E} (hp : len1 p ≠ 0) (ht : cf t = addF (cf (pw p 32)) (cf [0, 1])) (h : Gcd p t g) : g = fromL (rts p) := by
  obtain ⟨q, hq⟩ : ∃ q, q = 4294967296 := ⟨_, rfl⟩
  obtain ⟨f, hf⟩ := fx_ex q
  obtain ⟨s, hs1, hs2⟩ := pw_dv hp 32
  rw [show 2 ^ 32 = q from hq.symm] at hs1
  obtain ⟨h1, h2, h3, h4, h5, h6⟩ := h.main.2 (fun h => hp h.1)
  have hx : cf [0, 1] = X oneF := by
    funext i
    rcases i with _ | _ | i
    · rfl
    · rfl
    · rw [cf_cons, cf_cons, cf_nil]; rfl
  have hfs : cf f = addF (cf t) (cf s) := by
    rw [hf.cfs, ht, hs1, hx, addF_swap, addF_self, zero_addF, addF_comm]
  have hd : Dv g f := h5.add (h4.trans hs2) hfs
  have hg := splits_from hq hf hd h2 h3
  have hr : rts g = rts p := rts_congr fun a => by
    constructor
    · exact h4.evz
    · intro ha
      have e1 := ev_add hfs a
      rw [hf.evz hq, hs2.evz ha, xz] at e1
      exact (h6 [a, 1] (factor ha) (factor e1.symm)).root
  rw [hr] at hg
  exact hg
attribute [irreducible] pw
end Po
theorem addtwo_any (a b : Option Addr) (n c m d : Nat) (la lb : List (BitVec 32)) (w : World) (t : TypeId) (ha : Words32 w a n la) (hb : Words32 w b m lb) (hac : n ≤ c) (hbd : m ≤ d) (hs : n ≤ 1099511627776) (hs2 : m ≤ 1099511627776) :
    Calls Try.prog 34 #[.slice (some ⟨w.heap.size, 0, none⟩) 2 2] (w.alloc (.cells #[.slice a n c, .slice b m d] t)) fun e w' => (∃ v, e = .returned v ∧ Fresh 37 w.heap.size w' v (Po.addL la lb)) ∧ Below w.heap.size w w' := by
  refine (add_any _ 2 2 (two a b) (two n m) (two c d) (two la lb) _ (rows_two w a b n c m d la lb ha hb hac hbd t) (two_le hs hs2)).mono ?_
  rintro e w5 ⟨⟨v5, rfl, hv5⟩, hb5⟩
  change Fresh _ _ _ _ (Po.addL la lb) at hv5
  exact ⟨⟨_, rfl, hv5.low (by simp)⟩, ((Below.refl w.heap.size w).alloc (Nat.le_refl _) _).trans (hb5.mono (by simp))⟩
set_option maxHeartbeats 1000000 in
theorem ptraces_any (a : Option Addr) (n c : Nat) (lp : List (BitVec 32)) (b : BitVec 32) (w : World) (ha : Words32 w a n lp) (hac : n ≤ c) (hs : n ≤ 1000000) (h0 : Po.len1 lp ≠ 0) :
    Calls Try.prog 41 #[.slice a n c, .int .u32 (nb32 b)] w fun e w' => (∃ v, e = .returned v ∧ Fresh 37 w.heap.size w' v (Po.trc lp b 32)) ∧ Below w.heap.size w w' := by
  have hl := ha.1
  have hle := Po.len1_le lp
  have h1t : n ≤ 1099511627776 := by omega
  go_enter Try.func41, Try.ntmps41
  go_wp2_with (first
    | (go_at_call 29; refine (pdiv_any (some ⟨w.heap.size, 0, none⟩) a 2 2 n c [0#32, b] lp _ (words_two w 0#32 b 37) (ha.past _) hac (by omega) h1t h0).mono ?_; rintro e w1 ⟨⟨u, v, rfl, hu, hv⟩, hb1⟩; have hB1 := ((Below.refl _ w).alloc (Nat.le_refl _) _).trans (hb1.mono (by simp)); have hv1 := hv.low (B' := w.heap.size) (by simp); change Fresh _ _ _ _ (Po.qr [0, b] lp).2 at hv1; rw [← Po.tm_zero] at hv1))
  go_loopw [6, 8, 17] (fun x s i wr => ∃ k : Nat, k ≤ 32 ∧ i = .int .i64 k ∧ Fresh 37 w.heap.size wr s (Po.trc lp b k) ∧ Fresh 37 w.heap.size wr x (Po.tm lp b k) ∧ Below w.heap.size w wr) (fun _ _ i _ => 32 - (intOf i).toNat)
  case atStart => exact ⟨0, Nat.zero_le _, rfl, by rw [Po.trc_zero]; exact Fresh.nil _ _ _, hv1, hB1⟩
  case round =>
    obtain ⟨k, hk, rfl, hfs, hfx, hb⟩ := hrel
    obtain ⟨sa, sc, rfl, hsc, hs0, hsw⟩ := fresh_shape0 hfs
    obtain ⟨xa, xc, rfl, hxc, hx0, hxw⟩ := fresh_shape0 hfx
    have hsl := Po.trc_len h0 b k
    have hxl := Po.tm_len h0 b k
    by_cases hlt : k < 32
    · have q1 : (Po.trc lp b k).length ≤ 1099511627776 := by omega
      have q2 : (Po.tm lp b k).length ≤ 1099511627776 := by omega
      have q3 : (Po.tm lp b k).length ≤ 274877906944 := by omega
      go_wp2_with (first
        | (go_at_call 32; refine (squared_any xa a _ xc n c _ lp _ (hxw.below hb2) (ha.below (hb.trans (hb2.mono hb.size))) hxc hac q3 h1t h0).mono ?_; rintro e w4 ⟨⟨v4, rfl, hv4⟩, hb4⟩; rw [← Po.tm_succ] at hv4; have hb24 := hb2.trans (hb4.mono hb2.size))
        | (go_at_call 34; refine (addtwo_any sa xa _ sc _ xc _ _ wr _ hsw hxw hsc hxc q1 q2).mono ?_; rintro e w2 ⟨⟨v2, rfl, hv2⟩, hb2⟩; rw [← Po.trc_succ] at hv2))
      go_roundw
      case rel => exact ⟨k + 1, by omega, by go_num, (hv2.below hb4).low hb.size, hv4.low (Nat.le_trans hb.size hb2.size), hb.trans (hb24.mono hb.size)⟩
      case measure => simp [intOf]; omega
    · obtain rfl : k = 32 := by omega
      go_wp2
      go_ret
      exact ⟨⟨_, rfl, hfs⟩, hb⟩
set_option maxHeartbeats 1000000 in
theorem plinear_no (a : Option Addr) (n c : Nat) (l : List (BitVec 32)) (w : World) (ha : Words32 w a n l) (hno : ¬ Po.Fits l) :
    Calls Try.prog 11 #[.slice a n c] w fun e w' => (∃ a' c', e = .returned (.tuple #[.slice a' 0 c', errRange])) ∧ Below w.heap.size w w' := by
  have hd : decide (Po.Fits l) = false := decide_eq_false hno
  go_enter Try.func11, Try.ntmps11
  go_wp2_with (first
    | (go_at_call 31; refine (allowed_any a n c l _ ha).mono ?_; rw [hd]; rintro e w1 ⟨rfl, hb1⟩))
  go_ret2
  exact ⟨⟨_, _, rfl⟩, hb1⟩
set_option maxHeartbeats 1000000 in
theorem plinear_ok (a : Option Addr) (n c : Nat) (lp : List (BitVec 32)) (w : World) (ha : Words32 w a n lp) (hac : n ≤ c) (hs : n ≤ 1000) (hfit : Po.Fits lp) :
    Calls Try.prog 11 #[.slice a n c] w fun e w' => (∃ v, e = .returned (.tuple #[v, .nilIface]) ∧ Fresh 37 w.heap.size w' v (Po.fromL (Po.rts lp))) ∧ Below w.heap.size w w' := by
  have hd : decide (Po.Fits lp) = true := decide_eq_true hfit
  have h0 := hfit.1
  have hl := ha.1
  have hle := Po.len1_le lp
  go_enter Try.func11, Try.ntmps11
  go_wp2_with (first
    | (go_at_call 31; refine (allowed_any a n c lp _ ha).mono ?_; rw [hd]; rintro e w1 ⟨rfl, hb1⟩))
  go_loopw [5, 12] (fun x i wr => ∃ k : Nat, k ≤ 32 ∧ i = .int .i64 k ∧ Fresh 37 w.heap.size wr x (Po.pw lp k) ∧ Below w.heap.size w wr ∧ Words32 wr (some ⟨w1.heap.size, 0, none⟩) 2 [0#32, 1#32]) (fun _ i _ => 32 - (intOf i).toNat)
  case atStart => exact ⟨0, Nat.zero_le _, rfl, by rw [Po.pw_zero]; exact (own_lit (n := 2) (l := [0#32, 1#32]) hb1.size (Has.fresh w1 37 _) rfl rfl (by decide)).fresh, hb1.alloc hb1.size _, words_two w1 0#32 1#32 37⟩
  case round =>
    obtain ⟨k, hk, rfl, hfx, hb, hxx⟩ := hrel
    obtain ⟨xa, xc, rfl, hxc, hx0, hxw⟩ := fresh_shape0 hfx
    have hxl := Po.pw_len h0 k
    by_cases hlt : k < 32
    · have q3 : (Po.pw lp k).length ≤ 274877906944 := by omega
      have h1t : n ≤ 1099511627776 := by omega
      go_wp2_with (first
        | (go_at_call 32; refine (squared_any xa a _ xc n c _ lp _ hxw (ha.below hb) hxc hac q3 h1t h0).mono ?_; rintro e w4 ⟨⟨v4, rfl, hv4⟩, hb4⟩; rw [← Po.pw_succ] at hv4))
      go_roundw
      case rel => exact ⟨k + 1, by omega, by go_num, hv4.low hb.size, hb.trans (hb4.mono hb.size), hxx.below hb4⟩
      case measure => simp [intOf]; omega
    · obtain rfl : k = 32 := by omega
      have q2 : (Po.pw lp 32).length ≤ 1099511627776 := by omega
      have h2t : (2 : Nat) ≤ 1099511627776 := by omega
      have hn2 := Po.addL_norm (Po.pw lp 32) [0#32, 1#32]
      have hal : (Po.addL (Po.pw lp 32) [0#32, 1#32]).length ≤ 274877906944 := by
        have : (Po.addL (Po.pw lp 32) [0#32, 1#32]).length ≤ n + 2 := hn2.len fun i hi => by
          show Po.cf _ i ^^^ Po.cf _ i = 0
          rw [Po.cf_ge (by omega), Po.cf_ge (by simp; omega)]
          rfl
        omega
      have HN := Lib.hid hn2
      clear hn2
      go_wp2_with (first
        | (go_at_call 33; refine (common_any a sa n c _ sc lp (Po.addL (Po.pw lp 32) [0#32, 1#32]) _ (ha.below (hb.trans (hb2.mono hb.size))) hsw hac hsc (by omega) hal).mono ?_; rintro e w3 ⟨⟨v3, g, rfl, hg, hv3⟩, hb3⟩; have eg := Po.linear_pw h0 HN.out.2 hg; subst eg)
        | (go_at_call 34; refine (addtwo_any xa _ _ xc _ 2 _ [0#32, 1#32] wr _ hxw hxx hxc (Nat.le_refl _) q2 h2t).mono ?_; rintro e w2 ⟨⟨v2, rfl, hv2⟩, hb2⟩; obtain ⟨sa, sc, rfl, hsc, hs0, hsw⟩ := fresh_shape0 hv2))
      go_ret2
      exact ⟨⟨_, rfl, hv3.low (Nat.le_trans hb.size hb2.size)⟩, hb.trans ((hb2.trans (hb3.mono hb2.size)).mono hb.size)⟩
set_option maxHeartbeats 1000000 in
theorem ptr_no (a : Option Addr) (n c : Nat) (l : List (BitVec 32)) (b : BitVec 32) (w : World) (ha : Words32 w a n l) (hno : ¬ Po.Fits l) :
    Calls Try.prog 19 #[.slice a n c, .int .u32 (nb32 b)] w fun e w' => (∃ a' c', e = .returned (.tuple #[.slice a' 0 c', errRange])) ∧ Below w.heap.size w w' := by
  have hd : decide (Po.Fits l) = false := decide_eq_false hno
  go_enter Try.func19, Try.ntmps19
  go_wp2_with (first
    | (go_at_call 31; refine (allowed_any a n c l _ ha).mono ?_; rw [hd]; rintro e w1 ⟨rfl, hb1⟩))
  go_ret2
  exact ⟨⟨_, _, rfl⟩, hb1⟩
set_option maxHeartbeats 1000000 in
theorem ptr_ok (a : Option Addr) (n c : Nat) (l : List (BitVec 32)) (b : BitVec 32) (w : World) (ha : Words32 w a n l) (hac : n ≤ c) (hs : n ≤ 1000) (hfit : Po.Fits l) :
    Calls Try.prog 19 #[.slice a n c, .int .u32 (nb32 b)] w fun e w' => (∃ v, e = .returned (.tuple #[v, .nilIface]) ∧ Fresh 37 w.heap.size w' v (Po.trc l b 32)) ∧ Below w.heap.size w w' := by
  have hd : decide (Po.Fits l) = true := decide_eq_true hfit
  have hs6 : n ≤ 1000000 := by omega
  go_enter Try.func19, Try.ntmps19
  go_wp2_with (first
    | (go_at_call 41; refine (ptraces_any a n c l b _ (ha.below hb1) hac hs6 hfit.1).mono ?_; rintro e w2 ⟨⟨v, rfl, hv⟩, hb2⟩)
    | (go_at_call 31; refine (allowed_any a n c l _ ha).mono ?_; rw [hd]; rintro e w1 ⟨rfl, hb1⟩))
  go_ret2
  exact ⟨⟨_, rfl, hv.low hb1.size⟩, hb1.trans (hb2.mono hb1.size)⟩
theorem deg_from (l : List (BitVec 32)) : ((Po.len1 (Po.fromL l) : Int) - 1) = (l.length : Int) := by
  rw [(Po.fromL_all l).2]; omega
set_option maxHeartbeats 1000000 in
theorem pcount_no (a : Option Addr) (n c : Nat) (l : List (BitVec 32)) (w : World) (ha : Words32 w a n l) (hno : ¬ Po.Fits l) :
    Calls Try.prog 10 #[.slice a n c] w fun e w' => e = .returned (.tuple #[.int .i64 0, errRange]) ∧ Below w.heap.size w w' := by
  go_enter Try.func10, Try.ntmps10
  go_wp2_with (first
    | (go_at_call 11; refine (plinear_no a n c l _ ha hno).mono ?_; rintro e w1 ⟨⟨a', c', rfl⟩, hb1⟩; unfold errRange))
  go_ret2
  exact ⟨rfl, hb1⟩
set_option maxHeartbeats 1000000 in
theorem pcount_ok (a : Option Addr) (n c : Nat) (l : List (BitVec 32)) (w : World) (ha : Words32 w a n l) (hac : n ≤ c) (hs : n ≤ 1000) (hfit : Po.Fits l) :
    Calls Try.prog 10 #[.slice a n c] w fun e w' => e = .returned (.tuple #[.int .i64 ((Po.rts l).length : Int), .nilIface]) ∧ Below w.heap.size w w' := by
  go_enter Try.func10, Try.ntmps10
  go_wp2_with (first
    | (go_at_call 26; refine (pdegree_any _ _ _ _ _ hpw).mono ?_; rw [deg_from]; rintro e w2 ⟨rfl, hb2⟩)
    | (go_at_call 11; refine (plinear_ok a n c l _ ha hac hs hfit).mono ?_; rintro e w1 ⟨⟨v1, rfl, hv1⟩, hb1⟩; obtain ⟨pa, pc, rfl, hpc, hp0, hpw⟩ := fresh_shape0 hv1))
  go_ret2
  exact ⟨rfl, hb1.trans (hb2.mono hb1.size)⟩
end Go.Proofs.Ytlackhjlnoefcaa

/-! package roots: found, sorted, All, Split (over what the library's sort does) -/
namespace Go.Proofs.Ytlackhjlnoefcaa
open Go Go.RowKit Go.ChangeShapes Go.WideShapes
namespace Po
theorem mulR_swap (b : List E) (x y : List E) : mulR (mulR b x) y = mulR (mulR b y) x := by
  refine (mulR_norm (mulR b x) y).unique ?_
  have h := mulR_norm (mulR b y) x
  rw [mulL_comm, cf_mulR] at h
  rw [mulL_comm (mulR b x), cf_mulR, mulL_swap, mulL_comm y]
  rw [mulL_swap] at h
  exact h
theorem fromL_perm {l m : List E} (h : l.Perm m) : fromL l = fromL m := List.Perm.foldl_eq' h (fun x _ y _ z => mulR_swap z [x, 1] [y, 1]) _
theorem fromL_app : ∀ (k : Nat) (l m : List E), m.length = k → cf (fromL (l ++ m)) = mulL (fromL l) (cf (fromL m))
  | 0, l, m, h => by
    obtain rfl := List.length_eq_zero_iff.1 h
    rw [List.append_nil, show fromL [] = [1] from rfl, cf_one, mulL_oneF]
  | k + 1, l, m, h => by
    obtain ⟨m', r, rfl⟩ : ∃ m' r, m = m' ++ [r] := ⟨m.dropLast, m.getLast (by intro e; subst e; cases h), (List.dropLast_concat_getLast _).symm⟩
    rw [← List.append_assoc, fromL_snoc, cf_mulR, mulL_comm, fromL_app k l m' (by simpa using h), fromL_snoc, cf_mulR, mulL_comm (fromL m'), mulL_swap]
/-- the other roots, by division -/
theorem quot_from {l l0 l1 : List E} (h : (l0 ++ l1).Perm l) : (qr (fromL l) (fromL l0)).1 = fromL l1 := by
  have h1 : IsDiv (fromL l) (fromL l0) (fromL l1) [] := ⟨by
      have h2 := (fromL_all l1)
      exact trim_self (by omega), rfl, by rw [cf_nil, addF_zero, ← fromL_perm h]; exact fromL_app _ _ _ rfl, by
      have : len1 ([] : List E) = 0 := rfl
      have := (fromL_all l0).2
      omega⟩
  rw [h1.qr]
end Po
/-- append(own, x), and where the new slice lies -/
theorem wpList_append_word_at {P : Program} {w : World} {ops : Array Oper} {rest : List Oper} {o : Oper} {a : Act} {Q : Exit → Act → World → Prop} (hgd : o.guard = none) (s x : Operand) (t : TypeId)
    (ho : o.op = .call { callee := .builtin .append, args := #[s, x], argTypes := #[t, t] })
    (T : TypeId) (ht : P.underlying t = some (.slice T)) (hinfo : (P.info? T).map (fun i => (i.zero, i.size, i.bytes)) = some (some (.int .u32 0), 1, 4))
    (B : Nat) (v : Value) (l : List (BitVec 32)) (hs : a.eval s = v) (hown : OwnW T B w v l) (z : BitVec 32) (hx : a.eval x = .slice (some ⟨w.heap.size, 0, none⟩) 1 1)
    (h63 : l.length + 1 ≤ 1099511627776) (hbase : B ≤ w.heap.size)
    (h : ∀ v' w', OwnW T B w' v' (l ++ [z]) → w.grownBy w' v.ownBlock → (∀ k, v'.ownBlock = some k → v.ownBlock = some k ∨ w.heap.size ≤ k) → wpList P ops Q rest (a.put o.dst v') w') : wpList P ops Q (o :: rest) a (w.alloc (.cells #[.int .u32 (nb32 z)] T)) := by
  obtain ⟨i0, hi, hz0, hz1, hz2⟩ := info_parts hinfo
  refine wpList_append_lies (w.alloc (.cells #[.int .u32 (nb32 z)] T)) hgd s x t ho B T i0 (.int .u32 0) 1 4 ht hi hz0 hz1 hz2 rfl (by decide) v _ _ hs (World.ownsRow.alloc hown _) ⟨w.heap.size, 0, none⟩ 1 1 [.int .u32 (nb32 z)] hx rfl (cell_one_new _ _ _) (by simp [Value.oneCell']) (by omega) (by unfold maxLen; omega) (by omega) (by rw [World.size_alloc]; omega) _ rfl ?_
  intro g cap w' h1 h2 h3 _
  refine h _ w' (OwnW.snoc h1) ((World.grownBy_alloc w _ _).trans h2) fun k hk => ?_
  have : g = k := by simpa [Value.ownBlock] using hk
  subst this
  rcases h3 with h3 | h3
  · exact .inl h3
  · exact .inr (by rw [h3, World.size_alloc]; omega)
/-- what a call has done to the list that it was given, l having become l2 -/
structure Led (w w' : World) (v v' : Value) : Prop where
  grown : w.grownBy w' v.ownBlock
  lies : ∀ k, v'.ownBlock = some k → v.ownBlock = some k ∨ w.heap.size ≤ k
theorem Led.of_below {w w' : World} {v : Value} (h : Below w.heap.size w w') : Led w w' v v :=
  ⟨⟨h.os, h.tape, h.output, h.size, fun k hk _ => h.block k hk⟩, fun _ hk => .inl hk⟩
theorem Led.trans {w w' w'' : World} {v v' v'' : Value} (h : Led w w' v v') (h' : Led w' w'' v' v'') : Led w w'' v v'' := by
  refine ⟨h.grown.andThen h'.grown fun j hj => (h.lies j hj).symm, fun k hk => ?_⟩
  rcases h'.lies k hk with e | e
  · exact h.lies k e
  · exact .inr (Nat.le_trans h.grown.size e)
theorem Led.below {w0 w w' : World} {v v' : Value} (h : Led w w' v v') (hb : Below w0.heap.size w0 w) (hv : ∀ k, v.ownBlock = some k → w0.heap.size ≤ k) : Below w0.heap.size w0 w' := below_own_row hb h.grown hv
/-- what lies elsewhere stays -/
theorem Fresh.led {T : TypeId} {B : Nat} {w w' : World} {v v' u : Value} {l : List (BitVec 32)} (h : Fresh T B w u l) (hl : Led w w' v v') (hv : ∀ k, v.ownBlock = some k → k < B) : Fresh T B w' u l :=
  h.carry fun g t cs hg hh => (hl.grown.block g hh.lt (fun e => by have := hv g e.symm; omega)).trans hh
theorem OwnW.lt2 {T : TypeId} {B : Nat} {w : World} {v : Value} {l : List (BitVec 32)} (h : OwnW T B w v l) : ∀ k, v.ownBlock = some k → k < w.heap.size := fun k hk => by
  rcases h.2 with ⟨rfl, _⟩ | ⟨g, cap, cur, rfl, _, hh, _⟩
  · cases hk
  · have : g = k := by simpa [Value.ownBlock] using hk
    subst this
    exact (Array.getElem?_eq_some_iff.1 hh).1
/-- what found answers -/
def FoundOk (k : Nat) : Prop := ∀ (pw : Nat) (l : List (BitVec 32)), pw + k = 32 → Po.Srt l → Po.Agree l pw → l.length ≤ 1000 → ∀ (v : Value) (o : List (BitVec 32)) (B : Nat) (a : Option Addr) (n c : Nat) (w : World), OwnW 37 B w v o → o.length + l.length ≤ 1000000 → B ≤ w.heap.size → Words32 w a n (Po.fromL l) → n ≤ c → (a = none → c = 0) →
    Calls Try.prog 51 #[v, .slice a n c, .int .i64 (pw : Int)] w fun e w' => ∃ v' m, e = .returned v' ∧ m.Perm l ∧ OwnW 37 B w' v' (o ++ m) ∧ Led w w' v v'
set_option linter.unusedVariables false in
theorem found_0 (pw : Nat) (v : Value) (o : List (BitVec 32)) (B : Nat) (a : Option Addr) (n c : Nat) (w : World) (hv : OwnW 37 B w v o) (ha : Words32 w a n (Po.fromL [])) (hB : B ≤ w.heap.size) :
    Calls Try.prog 51 #[v, .slice a n c, .int .i64 (pw : Int)] w fun e w' => ∃ v' m, e = .returned v' ∧ m.Perm [] ∧ OwnW 37 B w' v' (o ++ m) ∧ Led w w' v v' := by
  have hd := deg_from []
  go_enter Try.func51, Try.ntmps51
  go_wp2_with (first
    | (go_at_call 26; refine (pdegree_any _ _ _ _ _ ha).mono ?_; rw [hd]; rintro e w2 ⟨rfl, hb2⟩))
  go_ret
  exact ⟨_, [], rfl, List.Perm.refl _, by rw [List.append_nil]; exact hv.below hb2, Led.of_below hb2⟩
set_option maxRecDepth 100000 in
theorem found_1 (pw : Nat) (r : BitVec 32) (v : Value) (o : List (BitVec 32)) (B : Nat) (a : Option Addr) (n c : Nat) (w : World) (hv : OwnW 37 B w v o) (ho : o.length ≤ 1000000) (ha : Words32 w a n (Po.fromL [r])) (hB : B ≤ w.heap.size) :
    Calls Try.prog 51 #[v, .slice a n c, .int .i64 (pw : Int)] w fun e w' => ∃ v' m, e = .returned v' ∧ m.Perm [r] ∧ OwnW 37 B w' v' (o ++ m) ∧ Led w w' v v' := by
  have hd := deg_from [r]
  have hn := ha.1
  rw [(Po.fromL_all [r]).1] at hn
  change 2 = n at hn
  subst hn
  have ha2 := ha
  rw [Po.fromL_one] at ha2
  obtain ⟨ad, rfl, hx⟩ := ha2.2.2 0 (by omega)
  rw [show ad.add 0 = ad from by unfold Addr.add; cases ad; simp] at hx
  change w.cell? ad = some (.int .u32 (nb32 r)) at hx
  have hxl : ad.block < w.heap.size := isSome_lt (p := ad) (by rw [hx]; rfl)
  go_enter Try.func51, Try.ntmps51
  go_wp2_with (first
    | (at_builtin; refine wpList_append_word_at rfl (.tmp 18) (.tmp 22) 22 rfl 37 Try.underlying22 info_word B _ o rfl (hv.below hb2) r rfl (by omega) (Nat.le_trans hB hb2.size) ?_; intro v' w3 h2 h3 h4)
    | (go_at_call 26; refine (pdegree_any _ _ _ _ _ ha).mono ?_; rw [hd]; rintro e w2 ⟨rfl, hb2⟩; have hx2 := (hb2.cell hxl).trans hx))
  go_ret
  exact ⟨_, [r], rfl, List.Perm.refl _, h2, (Led.of_below hb2).trans ⟨h3, h4⟩⟩
set_option maxRecDepth 100000 in
set_option maxHeartbeats 2000000 in
theorem found_2 (k : Nat) (ih : FoundOk k) (pw : Nat) (l : List (BitVec 32)) (hpw : pw + (k + 1) = 32) (hs : Po.Srt l) (hag : Po.Agree l pw) (hlen : l.length ≤ 1000) (h2 : 2 ≤ l.length) (v : Value) (o : List (BitVec 32)) (B : Nat) (a : Option Addr) (n c : Nat) (w : World) (hv : OwnW 37 B w v o) (ho : o.length + l.length ≤ 1000000) (hB : B ≤ w.heap.size) (ha : Words32 w a n (Po.fromL l)) (hac : n ≤ c) :
    Calls Try.prog 51 #[v, .slice a n c, .int .i64 (pw : Int)] w fun e w' => ∃ v' m, e = .returned v' ∧ m.Perm l ∧ OwnW 37 B w' v' (o ++ m) ∧ Led w w' v v' := by
  have hn := ha.1
  rw [(Po.fromL_all l).1] at hn
  have h0 : Po.len1 (Po.fromL l) ≠ 0 := by rw [(Po.fromL_all l).2]; omega
  have hl1 := (Po.fromL_all l).2
  have hd := deg_from l
  obtain ⟨cc, hcc⟩ : ∃ cc, cc = 1#32 <<< pw := ⟨_, rfl⟩
  obtain ⟨t, ht⟩ : ∃ t, t = Po.trc (Po.fromL l) cc 32 := ⟨_, rfl⟩
  have htl : t.length ≤ n := by rw [ht]; have := Po.trc_len h0 cc 32; omega
  have hte : ∀ x, Po.ev (Po.fromL l) x = 0 → Po.ev t x = Gf.trace (Gf.mul cc x) 32 := fun x hx => by rw [ht]; exact Po.trc_ev h0 hx cc 32
  obtain ⟨l0, hl0⟩ : ∃ l0, l0 = l.filter fun x => Gf.trace (Gf.mul cc x) 32 == 0 := ⟨_, rfl⟩
  obtain ⟨l1, hl1'⟩ : ∃ l1, l1 = l.filter fun x => Gf.trace (Gf.mul cc x) 32 == 1 := ⟨_, rfl⟩
  have hg0 : ∀ g, Po.Gcd (Po.fromL l) t g → g = Po.fromL l0 := fun g hg => by rw [hl0]; exact Po.half_zero hs cc hte hg
  have hs0 : Po.Srt l0 := by rw [hl0]; exact hs.filter _
  have hs1 : Po.Srt l1 := by rw [hl1']; exact hs.filter _
  have hag0 : Po.Agree l0 (pw + 1) := by rw [hl0, hcc]; exact hag.part 0
  have hag1 : Po.Agree l1 (pw + 1) := by rw [hl1', hcc]; exact hag.part 1
  have hpm : (l0 ++ l1).Perm l := by rw [hl0, hl1']; exact Po.part_perm l cc
  have hq := Po.quot_from hpm
  have hln0 : l0.length ≤ 1000 := by rw [hl0]; exact Nat.le_trans (List.length_filter_le _ _) hlen
  have hln1 : l1.length ≤ 1000 := by rw [hl1']; exact Nat.le_trans (List.length_filter_le _ _) hlen
  have hpl := hpm.length_eq
  rw [List.length_append] at hpl
  have hbi : ((pw + 1 : Nat) : Int) = (pw : Int) + 1 := by omega
  have hi0 := ih (pw + 1) l0 (by omega) hs0 hag0 hln0
  have hi1 := ih (pw + 1) l1 (by omega) hs1 hag1 hln1
  rw [hbi] at hi0 hi1
  clear hbi
  have HH := Lib.hid (And.intro hg0 (And.intro hq (And.intro hpm (And.intro hi0 hi1))))
  have HT := Lib.hid ht
  have HC := Lib.hid hcc
  have hf0 := (Po.fromL_all l0).1
  have hf1 := (Po.fromL_all l1).1
  have hz0 : Po.len1 (Po.fromL l0) ≠ 0 := by rw [(Po.fromL_all l0).2]; omega
  have hn1 : n ≤ 1000000 := by omega
  have hn64 : n ≤ 1099511627776 := by omega
  have hn27 : n ≤ 274877906944 := by omega
  have ht27 : t.length ≤ 274877906944 := by omega
  have hl027 : l0.length + 1 ≤ 1099511627776 := by omega
  have ho0 : o.length + l0.length ≤ 1000000 := by omega
  have hvl : ∀ k, v.ownBlock = some k → k < w.heap.size := hv.lt2
  have hbw : IntKind.u64.wrap (pw : Int) = (pw : Int) := by rw [IntKind.wrap_u64]; omega
  have hbw1 : IntKind.i64.wrap ((pw : Int) + 1) = (pw : Int) + 1 := IntWalk.i64_in _ (by omega)
  have hp0 : ¬ (pw : Int) < 0 := by omega
  have hp0n : ¬ (pw : Int) < 0 := by omega
  have c3 : ((l.length : Int) == 0) = false := by rw [beq_eq_false_iff_ne]; omega
  have c4 : ((l.length : Int) == 1) = false := by rw [beq_eq_false_iff_ne]; omega
  clear hg0 hpm hi0 hi1 hcc ht hte hl0 hl1' hs0 hs1 hag0 hag1 hag hs hl1 ih hq
  go_enter Try.func51, Try.ntmps51
  go_wp2_with (first
    | (go_at_call 51; refine (HH.out.2.2.2.2 v5 (o ++ m5) B qa _ qc w5 hv5 (by rw [List.length_append, hml5]; omega) (Nat.le_trans (Nat.le_trans hB hB4.size) hL5.grown.size) hqw5 hqc hq0).mono ?_; rintro e w6 ⟨v6, m6, rfl, hm6, hv6, hL6⟩)
    | (go_at_call 51; refine (HH.out.2.2.2.1 v o B pa _ pc w4 (hv.below hB4) ho0 (Nat.le_trans hB hB4.size) (hpw.below hb4) hpc hp0).mono ?_; rintro e w5 ⟨v5, m5, rfl, hm5, hv5, hL5⟩; have hml5 := hm5.length_eq; have hqw5 := (hu.led hL5 (fun k hk => Nat.lt_of_lt_of_le (hvl k hk) hB3.size)).words.2.2)
    | (go_at_call 29; refine (pdiv_any a pa n c _ pc (Po.fromL l) (Po.fromL l0) w3 (ha.below hB3) hpw hpc hn64 hl027 hz0).mono ?_; rintro e w4 ⟨⟨u4, r4, rfl, hu, hr⟩, hb4⟩; rw [HH.out.2.1] at hu; obtain ⟨qa, qc, rfl, hqc, hq0, hqw⟩ := fresh_shapeK hu hf1; have hB4 := hB3.trans (hb4.mono hB3.size))
    | (go_at_call 33; refine (common_any a ta n c _ tc (Po.fromL l) t w2 (ha.below (hb0.trans (hb1.mono hb0.size))) htw hac htc hn27 ht27).mono ?_; rintro e w3 ⟨⟨v3, g3, rfl, hg3, hv3⟩, hb3⟩; have e3 := HH.out.1 _ hg3; subst e3; obtain ⟨pa, pc, rfl, hpc, hp0, hpw⟩ := fresh_shapeK hv3 hf0; have hB3 := hB2.trans (hb3.mono hB2.size))
    | (go_at_call 41; refine (ptraces_any a n c (Po.fromL l) (1#32 <<< pw) w1 (ha.below hb0) hac hn1 h0).mono ?_; rintro e w2 ⟨⟨v1, rfl, hv1⟩, hb1⟩; rw [← HC.out, ← HT.out] at hv1; obtain ⟨ta, tc, rfl, htc, ht0, htw⟩ := fresh_shape0 hv1; have hB2 := hb0.trans (hb1.mono hb0.size))
    | (go_at_call 26; refine (pdegree_any _ _ _ _ _ ha).mono ?_; rw [hd]; rintro e w1 ⟨rfl, hb0⟩))
  go_ret
  exact ⟨_, m5 ++ m6, rfl, (hm5.append hm6).trans HH.out.2.2.1, by rw [← List.append_assoc]; exact hv6, ((Led.of_below hB4).trans hL5).trans hL6⟩
theorem found_any : ∀ k, FoundOk k := by
  intro k
  induction k with
  | zero =>
    intro pw l hp hs hag hl v o B a n c w hv ho hB ha hac ha0
    obtain rfl : pw = 32 := by omega
    have h1 := hag.all hs
    match l, h1, ho, ha with
    | [], _, _, ha => exact found_0 32 v o B a n c w hv ha hB
    | [r], _, ho, ha => exact found_1 32 r v o B a n c w hv (by simp at ho; omega) ha hB
  | succ k ih =>
    intro pw l hp hs hag hl v o B a n c w hv ho hB ha hac ha0
    match l, hs, hag, hl, ho, ha with
    | [], _, _, _, _, ha => exact found_0 pw v o B a n c w hv ha hB
    | [r], _, _, _, ho, ha => exact found_1 pw r v o B a n c w hv (by simp at ho; omega) ha hB
    | x :: y :: l, hs, hag, hl, ho, ha => exact found_2 k ih pw (x :: y :: l) hp hs hag hl (by simp) v o B a n c w hv ho hB ha hac
/-- what the library's sort does -/
def SortOk : Prop := ∀ (v : Value) (l : List (BitVec 32)) (B : Nat) (w : World), OwnW 37 B w v l → l.length ≤ 200 → B ≤ w.heap.size →
  Calls Try.prog 52 #[v] w fun e w' => e = .returned (.tuple #[]) ∧ (∃ m : List (BitVec 32), m.Perm l ∧ m.Pairwise (fun a b => a.toNat ≤ b.toNat) ∧ OwnW 37 B w' v m) ∧ Led w w' v v
theorem Po.srt_of {l m p : List (BitVec 32)} (hp : m.Perm l) (hl : l.Perm (Po.rts p)) (hs : m.Pairwise fun a b => a.toNat ≤ b.toNat) : m = Po.rts p := by
  have hn : m.Nodup := (hp.trans hl).nodup_iff.2 (Po.rts_srt p).nodup
  refine Po.perm_rts hl hp ?_
  exact List.Pairwise.imp₂ (fun a b h1 h2 => by
    have : a.toNat ≠ b.toNat := fun e => h2 (BitVec.eq_of_toNat_eq e)
    omega) hs hn
theorem psorted_any (S : SortOk) (a : Option Addr) (n c : Nat) (p : List (BitVec 32)) (w : World) (ha : Words32 w a n (Po.fromL (Po.rts p))) (hac : n ≤ c) (ha0 : a = none → c = 0) (hl : (Po.rts p).length ≤ 200) :
    Calls Try.prog 30 #[.slice a n c] w fun e w' => (∃ v, e = .returned v ∧ Fresh 37 w.heap.size w' v (Po.rts p)) ∧ Below w.heap.size w w' := by
  go_enter Try.func30, Try.ntmps30
  go_wp2_with (first
    | (go_at_call 52; refine (S v1 m1 w.heap.size w1 hv1 (by rw [hml]; exact hl) hL1.grown.size).mono ?_; rintro e w2 ⟨rfl, ⟨m2, hm2, hs2, hv2⟩, hL2⟩; have em := Po.srt_of hm2 hm1 hs2; subst em)
    | (go_at_call 51; refine (found_any 32 0 (Po.rts p) rfl (Po.rts_srt p) (Po.Agree.start _) (by omega) (.slice none 0 0) [] w.heap.size a n c w (OwnW.nil _ _ _) (by simp; omega) (Nat.le_refl _) ha hac ha0).mono ?_; rintro e w1 ⟨v1, m1, rfl, hm1, hv1, hL1⟩; have hml := hm1.length_eq; rw [List.nil_append] at hv1))
  go_ret
  exact ⟨⟨_, rfl, hv2.fresh⟩, (hL1.trans hL2).below (Below.refl _ _) (fun k hk => by cases hk)⟩
theorem Po.rts_le {l : List (BitVec 32)} (h : Po.Fits l) : (Po.rts l).length ≤ 200 := by
  have := Po.count_le h.1 (Po.rts_srt l).nodup fun x hx => Po.rts_mem.1 hx
  have := h.2
  omega
theorem pall_no (a : Option Addr) (n c : Nat) (l : List (BitVec 32)) (w : World) (ha : Words32 w a n l) (hno : ¬ Po.Fits l) :
    Calls Try.prog 9 #[.slice a n c] w fun e w' => (∃ a' c', e = .returned (.tuple #[.slice a' 0 c', errRange])) ∧ Below w.heap.size w w' := by
  go_enter Try.func9, Try.ntmps9
  go_wp2_with (first
    | (go_at_call 11; refine (plinear_no a n c l _ ha hno).mono ?_; rintro e w1 ⟨⟨a', c', rfl⟩, hb1⟩; unfold errRange))
  go_ret2
  exact ⟨⟨_, _, rfl⟩, hb1⟩
theorem pall_ok (S : SortOk) (a : Option Addr) (n c : Nat) (l : List (BitVec 32)) (w : World) (ha : Words32 w a n l) (hac : n ≤ c) (hs : n ≤ 1000) (hfit : Po.Fits l) :
    Calls Try.prog 9 #[.slice a n c] w fun e w' => (∃ v, e = .returned (.tuple #[v, .nilIface]) ∧ Fresh 37 w.heap.size w' v (Po.rts l)) ∧ Below w.heap.size w w' := by
  go_enter Try.func9, Try.ntmps9
  go_wp2_with (first
    | (go_at_call 30; refine (psorted_any S pa _ pc l w1 hpw hpc hp0 (Po.rts_le hfit)).mono ?_; rintro e w2 ⟨⟨v2, rfl, hv2⟩, hb2⟩)
    | (go_at_call 11; refine (plinear_ok a n c l _ ha hac hs hfit).mono ?_; rintro e w1 ⟨⟨v1, rfl, hv1⟩, hb1⟩; obtain ⟨pa, pc, rfl, hpc, hp0, hpw⟩ := fresh_shape0 hv1))
  go_ret2
  exact ⟨⟨_, rfl, hv2.low hb1.size⟩, hb1.trans (hb2.mono hb1.size)⟩
theorem psplit_no1 (a : Option Addr) (n c : Nat) (l : List (BitVec 32)) (w : World) (ha : Words32 w a n l) (hno : ¬ Po.Fits l) :
    Calls Try.prog 12 #[.slice a n c] w fun e w' => (∃ a' c', e = .returned (.tuple #[.slice a' 0 c', .bool false])) ∧ Below w.heap.size w w' := by
  go_enter Try.func12, Try.ntmps12
  go_wp2_with (first
    | (go_at_call 11; refine (plinear_no a n c l _ ha hno).mono ?_; rintro e w1 ⟨⟨a', c', rfl⟩, hb1⟩; unfold errRange))
  go_ret2
  exact ⟨⟨_, _, rfl⟩, hb1⟩
theorem psplit_no2 (a : Option Addr) (n c : Nat) (l : List (BitVec 32)) (w : World) (ha : Words32 w a n l) (hac : n ≤ c) (hs : n ≤ 1000) (hfit : Po.Fits l) (hne : (Po.rts l).length + 1 ≠ Po.len1 l) :
    Calls Try.prog 12 #[.slice a n c] w fun e w' => (∃ a' c', e = .returned (.tuple #[.slice a' 0 c', .bool false])) ∧ Below w.heap.size w w' := by
  have hd := deg_from (Po.rts l)
  have hc : (((Po.rts l).length : Int) != (Po.len1 l : Int) - 1) = true := by rw [bne_iff_ne]; omega
  clear hne
  go_enter Try.func12, Try.ntmps12
  go_wp2_with (first
    | (go_at_call 26; refine (pdegree_any a n c l w2 (ha.below (hb1.trans (hb2.mono hb1.size)))).mono ?_; rintro e w3 ⟨rfl, hb3⟩)
    | (go_at_call 26; refine (pdegree_any _ _ _ _ _ hpw).mono ?_; rw [hd]; rintro e w2 ⟨rfl, hb2⟩)
    | (go_at_call 11; refine (plinear_ok a n c l _ ha hac hs hfit).mono ?_; rintro e w1 ⟨⟨v1, rfl, hv1⟩, hb1⟩; obtain ⟨pa, pc, rfl, hpc, hp0, hpw⟩ := fresh_shape0 hv1))
  go_ret2
  have hb12 := hb1.trans (hb2.mono hb1.size)
  exact ⟨⟨_, _, rfl⟩, hb12.trans (hb3.mono hb12.size)⟩
theorem psplit_ok (S : SortOk) (a : Option Addr) (n c : Nat) (l : List (BitVec 32)) (w : World) (ha : Words32 w a n l) (hac : n ≤ c) (hs : n ≤ 1000) (hfit : Po.Fits l) (he : (Po.rts l).length + 1 = Po.len1 l) :
    Calls Try.prog 12 #[.slice a n c] w fun e w' => (∃ v, e = .returned (.tuple #[v, .bool true]) ∧ Fresh 37 w.heap.size w' v (Po.rts l)) ∧ Below w.heap.size w w' := by
  have hd := deg_from (Po.rts l)
  have hc : (((Po.rts l).length : Int) != (Po.len1 l : Int) - 1) = false := by rw [bne_eq_false_iff_eq]; omega
  clear he
  go_enter Try.func12, Try.ntmps12
  go_wp2_with (first
    | (go_at_call 30; refine (psorted_any S pa _ pc l w3 ((hpw.below hb2).below hb3) hpc hp0 (Po.rts_le hfit)).mono ?_; rintro e w4 ⟨⟨v4, rfl, hv4⟩, hb4⟩)
    | (go_at_call 26; refine (pdegree_any a n c l w2 (ha.below (hb1.trans (hb2.mono hb1.size)))).mono ?_; rintro e w3 ⟨rfl, hb3⟩)
    | (go_at_call 26; refine (pdegree_any _ _ _ _ _ hpw).mono ?_; rw [hd]; rintro e w2 ⟨rfl, hb2⟩)
    | (go_at_call 11; refine (plinear_ok a n c l _ ha hac hs hfit).mono ?_; rintro e w1 ⟨⟨v1, rfl, hv1⟩, hb1⟩; obtain ⟨pa, pc, rfl, hpc, hp0, hpw⟩ := fresh_shape0 hv1))
  go_ret2
  have hb12 := hb1.trans (hb2.mono hb1.size)
  have hb13 := hb12.trans (hb3.mono hb12.size)
  exact ⟨⟨_, rfl, hv4.low hb13.size⟩, hb13.trans (hb4.mono hb13.size)⟩
theorem rootsOk_of (S : SortOk) : RootsOk where
  all_no := fun a n c l w h _ _ _ hno => pall_no a n c l w h hno
  all_ok := fun a n c l w h hc _ hs hf => pall_ok S a n c l w h hc hs hf
  count_no := fun a n c l w h _ _ _ hno => pcount_no a n c l w h hno
  count_ok := fun a n c l w h hc _ hs hf => pcount_ok a n c l w h hc hs hf
  linear_no := fun a n c l w h _ _ _ hno => plinear_no a n c l w h hno
  linear_ok := fun a n c l w h hc _ hs hf => plinear_ok a n c l w h hc hs hf
  split_no := fun a n c l w h hc _ hs hno => by
    by_cases hf : Po.Fits l
    · exact psplit_no2 a n c l w h hc hs hf fun e => hno ⟨hf, e⟩
    · exact psplit_no1 a n c l w h hf
  split_ok := fun a n c l w h hc _ hs hf => psplit_ok S a n c l w h hc hs hf.1 hf.2
  traces_no := fun a n c l b w h _ _ _ hno => ptr_no a n c l b w h hno
  traces_ok := fun a n c l b w h hc _ hs hf => ptr_ok a n c l b w h hc hs hf
end Go.Proofs.Ytlackhjlnoefcaa
