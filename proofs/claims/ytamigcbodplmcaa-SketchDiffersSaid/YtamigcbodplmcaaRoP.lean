/- package roots: what allowed, squared, traces, Linear, Count, Traces answer -/
import Derived.Test.YtamigcbodplmcaaRoK
namespace Go.Proofs.Ytamigcbodplmcaa
open Go Go.RowKit Go.ChangeShapes Go.WideShapes
instance Po.fitsDec (l : List (BitVec 32)) : Decidable (Po.Fits l) := inferInstanceAs (Decidable (_ ∧ _))
theorem allowed_any (a : Option Addr) (n c : Nat) (l : List (BitVec 32)) (w : World) (h : Words32 w a n l) :
    Calls Try.prog 61 #[.slice a n c] w fun e w' => e = .returned (.bool (decide (Po.Fits l))) ∧ Below w.heap.size w w' := by
  by_cases h0 : Po.len1 l = 0
  · have hf : decide (Po.Fits l) = false := decide_eq_false fun hh => hh.1 h0
    have ht : ¬ (0 : Int) ≤ (Po.len1 l : Int) - 1 := by omega
    rw [hf]
    clear hf
    go_enter Try.func61, Try.ntmps61
    go_wp2_with (go_at_call 50; refine (pdegree_any _ _ _ _ _ h).mono ?_; rintro e w1 ⟨rfl, hb1⟩)
    go_ret
    exact ⟨rfl, hb1⟩
  · have ht : (0 : Int) ≤ (Po.len1 l : Int) - 1 := by omega
    by_cases h1 : Po.len1 l ≤ 61
    · have hf : decide (Po.Fits l) = true := decide_eq_true ⟨h0, h1⟩
      have ht2 : (Po.len1 l : Int) - 1 ≤ 60 := by omega
      rw [hf]
      clear hf
      go_enter Try.func61, Try.ntmps61
      go_wp2_with (go_at_call 50; refine (pdegree_any _ _ _ _ _ h).mono ?_; rintro e w1 ⟨rfl, hb1⟩)
      go_ret
      exact ⟨rfl, hb1⟩
    · have hf : decide (Po.Fits l) = false := decide_eq_false fun hh => h1 hh.2
      have ht2 : ¬ (Po.len1 l : Int) - 1 ≤ 60 := by omega
      rw [hf]
      clear hf
      go_enter Try.func61, Try.ntmps61
      go_wp2_with (go_at_call 50; refine (pdegree_any _ _ _ _ _ h).mono ?_; rintro e w1 ⟨rfl, hb1⟩)
      go_ret
      refine ⟨?_, hb1⟩
      show Ending.returned (Value.bool (decide _)) = _
      rw [decide_eq_false (by omega)]
theorem squared_any (a b : Option Addr) (n c m d : Nat) (la lb : List (BitVec 32)) (w : World) (ha : Words32 w a n la) (hb : Words32 w b m lb) (hac : n ≤ c) (hbd : m ≤ d) (hs : n ≤ 274877906944) (hs2 : m ≤ 1099511627776) (h0 : Po.len1 lb ≠ 0) :
    Calls Try.prog 62 #[.slice a n c, .slice b m d] w fun e w' => (∃ u, e = .returned u ∧ Fresh 54 w.heap.size w' u (Po.qr (Po.mulR la la) lb).2) ∧ Below w.heap.size w w' := by
  have he : (Po.qr (Po.sqL la) lb).2 = (Po.qr (Po.mulR la la) lb).2 := by
    rw [Po.qr_congr (show Po.cf (Po.sqL la) = Po.cf (Po.mulR la la) by rw [Po.sqL_cf, Po.cf_mulR]) h0]
  go_enter Try.func62, Try.ntmps62
  go_wp2_with (go_at_call 71; refine (psq_any a b n c m d la lb w ha hb hac hbd hs hs2 h0).mono ?_; rintro e w1 ⟨⟨u, rfl, hu⟩, hb1⟩)
  go_ret
  rw [he] at hu
  exact ⟨⟨_, rfl, hu⟩, hb1⟩
namespace Po
/-- the powers of x to 2^i, modulo -/
noncomputable def pw (p : List E) : Nat → List E
  | 0 => [0, 1]
  | i + 1 => (qr (mulR (pw p i) (pw p i)) p).2
theorem pw_zero (p : List E) : pw p 0 = [0, 1] := rfl
theorem pw_succ (p : List E) (i : Nat) : pw p (i + 1) = (qr (mulR (pw p i) (pw p i)) p).2 := rfl
theorem pw_len {p : List E} (hp : len1 p ≠ 0) : ∀ i, (pw p i).length ≤ len1 p + 2
  | 0 => by show 2 ≤ _; omega
  | i + 1 => by have := (qr_len (mulR (pw p i) (pw p i)) hp).2; rw [pw_succ]; omega
theorem cf_x : cf [0, 1] = Xn (2 ^ 0) oneF := by
  funext i
  rcases i with _ | _ | i
  · rfl
  · rfl
  · rw [cf_cons, cf_cons, cf_nil]
    show (0 : E) = (if 2 ^ 0 ≤ i + 1 + 1 then oneF (i + 1 + 1 - 2 ^ 0) else 0)
    rw [if_pos (by omega)]
    show (0 : E) = if i + 1 + 1 - 2 ^ 0 = 0 then 1 else 0
    rw [if_neg (by omega)]
theorem pw_dv {p : List E} (hp : len1 p ≠ 0) : ∀ i, ∃ s, cf s = addF (cf (pw p i)) (Xn (2 ^ i) oneF) ∧ Dv p s
  | 0 => ⟨[], by rw [pw_zero, cf_x, addF_self, cf_nil], Dv.zero rfl⟩
  | i + 1 => by
    obtain ⟨s, h1, h2⟩ := pw_dv hp i
    obtain ⟨y, hy⟩ := lXn (2 ^ i)
    rw [← hy] at h1
    have h3 := sq_add h1 hy
    obtain ⟨u, h4, h5⟩ := rest_dv (x := mulR (pw p i) (pw p i)) hp
    obtain ⟨z, hz⟩ := lmul s s
    have h6 : Dv p z := h2.mul s hz
    obtain ⟨v, hv⟩ := sumL z u
    refine ⟨v, ?_, h6.add h5 hv⟩
    rw [hv, hz, h3, h4, cf_mulR]
    show addF (addF _ _) (addF _ (cf (pw p (i + 1)))) = _
    rw [addF_swap, addF_self, zero_addF, addF_comm, show 2 * 2 ^ i = 2 ^ (i + 1) from by rw [Nat.pow_succ]; omega]
theorem linear_pw {p t g : List E} (hp : len1 p ≠ 0) (ht : cf t = addF (cf (pw p 32)) (cf [0, 1])) (h : Gcd p t g) : g = fromL (rts p) := by
  obtain ⟨q, hq⟩ : ∃ q, q = 4294967296 := ⟨_, rfl⟩
  obtain ⟨f, hf⟩ := fx_ex q
  obtain ⟨s, hs1, hs2⟩ := pw_dv hp 32
  rw [show 2 ^ 32 = q from hq.symm] at hs1
  obtain ⟨h1, h2, h3, h4, h5, h6⟩ := h.main.2 (fun h => hp h.1)
  have hx : cf [0, 1] = X oneF := by
    funext i
    rcases i with _ | _ | i
    · rfl
    · rfl
    · rw [cf_cons, cf_cons, cf_nil]; rfl
  have hfs : cf f = addF (cf t) (cf s) := by
    rw [hf.cfs, ht, hs1, hx, addF_swap, addF_self, zero_addF, addF_comm]
  have hd : Dv g f := h5.add (h4.trans hs2) hfs
  have hg := splits_from hq hf hd h2 h3
  have hr : rts g = rts p := rts_congr fun a => by
    constructor
    · exact h4.evz
    · intro ha
      have e1 := ev_add hfs a
      rw [hf.evz hq, hs2.evz ha, xz] at e1
      exact (h6 [a, 1] (factor ha) (factor e1.symm)).root
  rw [hr] at hg
  exact hg
attribute [irreducible] pw
end Po
theorem addtwo_any (a b : Option Addr) (n c m d : Nat) (la lb : List (BitVec 32)) (w : World) (t : TypeId) (ha : Words32 w a n la) (hb : Words32 w b m lb) (hac : n ≤ c) (hbd : m ≤ d) (hs : n ≤ 1099511627776) (hs2 : m ≤ 1099511627776) :
    Calls Try.prog 64 #[.slice (some ⟨w.heap.size, 0, none⟩) 2 2] (w.alloc (.cells #[.slice a n c, .slice b m d] t)) fun e w' => (∃ v, e = .returned v ∧ Fresh 54 w.heap.size w' v (Po.addL la lb)) ∧ Below w.heap.size w w' := by
  refine (add_any _ 2 2 (two a b) (two n m) (two c d) (two la lb) _ (rows_two w a b n c m d la lb ha hb hac hbd t) (two_le hs hs2)).mono ?_
  rintro e w5 ⟨⟨v5, rfl, hv5⟩, hb5⟩
  change Fresh _ _ _ _ (Po.addL la lb) at hv5
  exact ⟨⟨_, rfl, hv5.low (by simp)⟩, ((Below.refl w.heap.size w).alloc (Nat.le_refl _) _).trans (hb5.mono (by simp))⟩
set_option maxHeartbeats 1000000 in
theorem ptraces_any (a : Option Addr) (n c : Nat) (lp : List (BitVec 32)) (b : BitVec 32) (w : World) (ha : Words32 w a n lp) (hac : n ≤ c) (hs : n ≤ 1000000) (h0 : Po.len1 lp ≠ 0) :
    Calls Try.prog 77 #[.slice a n c, .int .u32 (nb32 b)] w fun e w' => (∃ v, e = .returned v ∧ Fresh 54 w.heap.size w' v (Po.trc lp b 32)) ∧ Below w.heap.size w w' := by
  have hl := ha.1
  have hle := Po.len1_le lp
  have h1t : n ≤ 1099511627776 := by omega
  go_enter Try.func77, Try.ntmps77
  go_wp2_with (first
    | (go_at_call 78; refine (pdiv_any (some ⟨w.heap.size, 0, none⟩) a 2 2 n c [0#32, b] lp _ (words_two w 0#32 b 54) (ha.past _) hac (by omega) h1t h0).mono ?_; rintro e w1 ⟨⟨u, v, rfl, hu, hv⟩, hb1⟩; have hB1 := ((Below.refl _ w).alloc (Nat.le_refl _) _).trans (hb1.mono (by simp)); have hv1 := hv.low (B' := w.heap.size) (by simp); change Fresh _ _ _ _ (Po.qr [0, b] lp).2 at hv1; rw [← Po.tm_zero] at hv1))
  go_loopw [6, 8, 17] (fun x s i wr => ∃ k : Nat, k ≤ 32 ∧ i = .int .i64 k ∧ Fresh 54 w.heap.size wr s (Po.trc lp b k) ∧ Fresh 54 w.heap.size wr x (Po.tm lp b k) ∧ Below w.heap.size w wr) (fun _ _ i _ => 32 - (intOf i).toNat)
  case atStart => exact ⟨0, Nat.zero_le _, rfl, by rw [Po.trc_zero]; exact Fresh.nil _ _ _, hv1, hB1⟩
  case round =>
    obtain ⟨k, hk, rfl, hfs, hfx, hb⟩ := hrel
    obtain ⟨sa, sc, rfl, hsc, hs0, hsw⟩ := fresh_shape0 hfs
    obtain ⟨xa, xc, rfl, hxc, hx0, hxw⟩ := fresh_shape0 hfx
    have hsl := Po.trc_len h0 b k
    have hxl := Po.tm_len h0 b k
    by_cases hlt : k < 32
    · have q1 : (Po.trc lp b k).length ≤ 1099511627776 := by omega
      have q2 : (Po.tm lp b k).length ≤ 1099511627776 := by omega
      have q3 : (Po.tm lp b k).length ≤ 274877906944 := by omega
      go_wp2_with (first
        | (go_at_call 62; refine (squared_any xa a _ xc n c _ lp _ (hxw.below hb2) (ha.below (hb.trans (hb2.mono hb.size))) hxc hac q3 h1t h0).mono ?_; rintro e w4 ⟨⟨v4, rfl, hv4⟩, hb4⟩; rw [← Po.tm_succ] at hv4; have hb24 := hb2.trans (hb4.mono hb2.size))
        | (go_at_call 64; refine (addtwo_any sa xa _ sc _ xc _ _ wr _ hsw hxw hsc hxc q1 q2).mono ?_; rintro e w2 ⟨⟨v2, rfl, hv2⟩, hb2⟩; rw [← Po.trc_succ] at hv2))
      go_roundw
      case rel => exact ⟨k + 1, by omega, by go_num, (hv2.below hb4).low hb.size, hv4.low (Nat.le_trans hb.size hb2.size), hb.trans (hb24.mono hb.size)⟩
      case measure => simp [intOf]; omega
    · obtain rfl : k = 32 := by omega
      go_wp2
      go_ret
      exact ⟨⟨_, rfl, hfs⟩, hb⟩
set_option maxHeartbeats 1000000 in
theorem plinear_no (a : Option Addr) (n c : Nat) (l : List (BitVec 32)) (w : World) (ha : Words32 w a n l) (hno : ¬ Po.Fits l) :
    Calls Try.prog 49 #[.slice a n c] w fun e w' => (∃ a' c', e = .returned (.tuple #[.slice a' 0 c', errRange])) ∧ Below w.heap.size w w' := by
  have hd : decide (Po.Fits l) = false := decide_eq_false hno
  go_enter Try.func49, Try.ntmps49
  go_wp2_with (first
    | (go_at_call 61; refine (allowed_any a n c l _ ha).mono ?_; rw [hd]; rintro e w1 ⟨rfl, hb1⟩))
  go_ret2
  exact ⟨⟨_, _, rfl⟩, hb1⟩
set_option maxHeartbeats 1000000 in
theorem plinear_ok (a : Option Addr) (n c : Nat) (lp : List (BitVec 32)) (w : World) (ha : Words32 w a n lp) (hac : n ≤ c) (hs : n ≤ 1000) (hfit : Po.Fits lp) :
    Calls Try.prog 49 #[.slice a n c] w fun e w' => (∃ v, e = .returned (.tuple #[v, .nilIface]) ∧ Fresh 54 w.heap.size w' v (Po.fromL (Po.rts lp))) ∧ Below w.heap.size w w' := by
  have hd : decide (Po.Fits lp) = true := decide_eq_true hfit
  have h0 := hfit.1
  have hl := ha.1
  have hle := Po.len1_le lp
  go_enter Try.func49, Try.ntmps49
  go_wp2_with (first
    | (go_at_call 61; refine (allowed_any a n c lp _ ha).mono ?_; rw [hd]; rintro e w1 ⟨rfl, hb1⟩))
  go_loopw [5, 12] (fun x i wr => ∃ k : Nat, k ≤ 32 ∧ i = .int .i64 k ∧ Fresh 54 w.heap.size wr x (Po.pw lp k) ∧ Below w.heap.size w wr ∧ Words32 wr (some ⟨w1.heap.size, 0, none⟩) 2 [0#32, 1#32]) (fun _ i _ => 32 - (intOf i).toNat)
  case atStart => exact ⟨0, Nat.zero_le _, rfl, by rw [Po.pw_zero]; exact (own_lit (n := 2) (l := [0#32, 1#32]) hb1.size (Has.fresh w1 54 _) rfl rfl (by decide)).fresh, hb1.alloc hb1.size _, words_two w1 0#32 1#32 54⟩
  case round =>
    obtain ⟨k, hk, rfl, hfx, hb, hxx⟩ := hrel
    obtain ⟨xa, xc, rfl, hxc, hx0, hxw⟩ := fresh_shape0 hfx
    have hxl := Po.pw_len h0 k
    by_cases hlt : k < 32
    · have q3 : (Po.pw lp k).length ≤ 274877906944 := by omega
      have h1t : n ≤ 1099511627776 := by omega
      go_wp2_with (first
        | (go_at_call 62; refine (squared_any xa a _ xc n c _ lp _ hxw (ha.below hb) hxc hac q3 h1t h0).mono ?_; rintro e w4 ⟨⟨v4, rfl, hv4⟩, hb4⟩; rw [← Po.pw_succ] at hv4))
      go_roundw
      case rel => exact ⟨k + 1, by omega, by go_num, hv4.low hb.size, hb.trans (hb4.mono hb.size), hxx.below hb4⟩
      case measure => simp [intOf]; omega
    · obtain rfl : k = 32 := by omega
      have q2 : (Po.pw lp 32).length ≤ 1099511627776 := by omega
      have h2t : (2 : Nat) ≤ 1099511627776 := by omega
      have hn2 := Po.addL_norm (Po.pw lp 32) [0#32, 1#32]
      have hal : (Po.addL (Po.pw lp 32) [0#32, 1#32]).length ≤ 274877906944 := by
        have : (Po.addL (Po.pw lp 32) [0#32, 1#32]).length ≤ n + 2 := hn2.len fun i hi => by
          show Po.cf _ i ^^^ Po.cf _ i = 0
          rw [Po.cf_ge (by omega), Po.cf_ge (by simp; omega)]
          rfl
        omega
      have HN := Lib.hid hn2
      clear hn2
      go_wp2_with (first
        | (go_at_call 63; refine (common_any a sa n c _ sc lp (Po.addL (Po.pw lp 32) [0#32, 1#32]) _ (ha.below (hb.trans (hb2.mono hb.size))) hsw hac hsc (by omega) hal).mono ?_; rintro e w3 ⟨⟨v3, g, rfl, hg, hv3⟩, hb3⟩; have eg := Po.linear_pw h0 HN.out.2 hg; subst eg)
        | (go_at_call 64; refine (addtwo_any xa _ _ xc _ 2 _ [0#32, 1#32] wr _ hxw hxx hxc (Nat.le_refl _) q2 h2t).mono ?_; rintro e w2 ⟨⟨v2, rfl, hv2⟩, hb2⟩; obtain ⟨sa, sc, rfl, hsc, hs0, hsw⟩ := fresh_shape0 hv2))
      go_ret2
      exact ⟨⟨_, rfl, hv3.low (Nat.le_trans hb.size hb2.size)⟩, hb.trans ((hb2.trans (hb3.mono hb2.size)).mono hb.size)⟩
theorem deg_from (l : List (BitVec 32)) : ((Po.len1 (Po.fromL l) : Int) - 1) = (l.length : Int) := by
  rw [(Po.fromL_all l).2]; omega
end Go.Proofs.Ytamigcbodplmcaa
