/- The reference's division and common divisor. -/
import Derived.Test.YtlackhjlnoefcaaPoR4
namespace Go.Proofs.Ytlackhjlnoefcaa
open Go Go.RowKit
namespace Po
theorem mulL_single (c : E) (f : Nat → E) : mulL [c] f = sclF c f := by rw [mulL, mulL, X_zero, addF_zero]
theorem monic_norm {a : List E} (h : len1 a ≠ 0) : Norm (monic a) (sclF (Gf.inv (cf a (len1 a - 1))) (cf a)) := by
  have e : monic a = mulR a [Gf.inv (cf a (len1 a - 1))] := by rw [monic, if_neg h]
  rw [e]
  exact ⟨trim_self (mulR_len _ _), by rw [cf_mulR, mulL_comm, mulL_single]⟩
theorem cf_one : cf [(1 : E)] = oneF := by
  funext i
  cases i with
  | zero => rfl
  | succ i => rw [cf_cons, cf_nil]; rfl
/-- the plain division's state -/
structure RInv (la lb lr lq : List E) : Prop where
  eq : cf la = addF (mulL lb (cf lq)) (cf lr)
  tr : trim lr = lr
theorem RInv.step {la lb lr lq lr' lq' : List E} (h : RInv la lb lr lq) (hb : len1 lb ≠ 0) (hl : len1 lb ≤ lr.length) (c : E) (hc : c = Gf.mul (cf lr (lr.length - 1)) (Gf.inv (cf lb (len1 lb - 1))))
    (hr : Norm lr' (addF (cf lr) (Xn (lr.length - len1 lb) (sclF c (cf (trim lb)))))) (hq : cf lq' = addF (cf lq) (Xn (lr.length - len1 lb) (sclF c (cf [1])))) : RInv la lb lr' lq' ∧ lr'.length < lr.length := by
  refine ⟨⟨?_, hr.1⟩, ?_⟩
  · rw [hq, hr.2, cf_trim, cf_one, mulL_add, mulL_mono, h.eq, addF_swap, addF_self, addF_zero]
  · have h1 : lr'.length ≤ lr.length - 1 := hr.len fun i hi => by
      show cf lr i ^^^ (if lr.length - len1 lb ≤ i then Gf.mul c (cf (trim lb) (i - (lr.length - len1 lb))) else 0) = 0
      rw [if_pos (by omega), cf_trim]
      by_cases hi2 : i = lr.length - 1
      · subst hi2
        rw [show lr.length - 1 - (lr.length - len1 lb) = len1 lb - 1 from by omega, hc, Gf.mul_assoc, Gf.mul_comm (Gf.inv _), Gf.mul_inv (len1_ne hb), Gf.mul_one]
        exact BitVec.xor_self
      · rw [cf_ge (l := lr) (by omega), cf_len1 lb (by omega), Gf.mul_zero]; rfl
    omega
theorem RInv.done {la lb lr lq : List E} (h : RInv la lb lr lq) (hl : lr.length < len1 lb) : Po.qr la lb = (trim lq, lr) := by
  refine IsDiv.qr ⟨trim_trim _, h.tr, by rw [cf_trim]; exact h.eq, ?_⟩
  have := trim_length lr
  rw [h.tr] at this
  omega
end Po
theorem rscale0_any (a : Option Addr) (n c : Nat) (la : List (BitVec 32)) (x : BitVec 32) (w : World) (ha : Words32 w a n la) (hs : n ≤ 274877906944) :
    Calls Try.prog 57 #[.slice a n c, .int .u32 (nb32 x), .int .i64 0] w fun e w' => (∃ v l, e = .returned v ∧ Fresh 37 w.heap.size w' v l ∧ Po.Norm l (Po.sclF x (Po.cf la))) ∧ Below w.heap.size w w' := by
  have h := rscale_any a n c 0 la x w ha hs (by omega)
  rw [Po.Xn_zero] at h
  exact h
set_option maxHeartbeats 1000000 in
theorem rmonic_any (a : Option Addr) (n c : Nat) (la : List (BitVec 32)) (w : World) (ha : Words32 w a n la) (hac : n ≤ c) (hc0 : a = none → c = 0) (hs : n ≤ 274877906944) :
    Calls Try.prog 58 #[.slice a n c] w fun e w' => (∃ v, e = .returned v ∧ Fresh 37 w.heap.size w' v (Po.monic la)) ∧ Below w.heap.size w w' := by
  have hla := ha.1
  have hle := Po.len1_le la
  have hs2 : n ≤ 549755813888 := by omega
  have htl := Po.trim_length la
  by_cases h0 : Po.len1 la = 0
  · have ht : ((Po.len1 la : Int) == 0) = true := by simp [h0]
    have hm : Po.monic la = Po.trim la := by rw [Po.monic, if_pos h0]; exact (Po.trim_eq_nil.2 h0).symm
    rw [hm]
    clear hm h0
    go_enter Try.func58, Try.ntmps58
    go_wp2_with (first
      | (go_at_call 14; refine (rtrim_any a n c la _ ha hac hc0 hs2).mono ?_; rintro e w2 ⟨⟨v, rfl, hv⟩, hb2⟩; obtain ⟨va, vc, rfl, _⟩ := id hv; rw [htl] at hv))
    go_ret
    exact ⟨⟨_, rfl, hv⟩, hb2⟩
  · have ht : ((Po.len1 la : Int) == 0) = false := by simpa using h0
    have hmn := Po.monic_norm h0
    obtain ⟨k, hk⟩ : ∃ k, k = Po.len1 la - 1 := ⟨_, rfl⟩
    have hke : (Po.len1 la : Int) - 1 = (k : Int) := by omega
    have hkn : k < Po.len1 la := by omega
    obtain ⟨z, hz⟩ : ∃ z, z = Po.cf la k := ⟨_, rfl⟩
    rw [← hk, ← hz] at hmn
    have hgz : (Po.trim la).getD k 0 = z := (congrFun (Po.cf_trim la) k).trans hz.symm
    have HM := Lib.hid hmn
    have hlb : Po.len1 la ≤ 274877906944 := by omega
    clear hz hk h0 hmn
    go_enter Try.func58, Try.ntmps58
    go_wp2_with (first
      | (go_at_call 14; refine (rtrim_any a n c la _ ha hac hc0 hs2).mono ?_; rintro e w2 ⟨⟨v, rfl, hv⟩, hb2⟩; obtain ⟨va, vc, rfl, hvc, hvw⟩ := hv.slice; rw [htl] at hvw hvc
         obtain ⟨ad, rfl, hx⟩ := hvw.2.2 k hkn; rw [hgz] at hx)
      | (go_at_call 69; refine (rinverse_any _ _).mono ?_; rintro e w3 ⟨rfl, rfl⟩)
      | (go_at_call 57; refine (rscale0_any _ _ _ (Po.trim la) _ _ hvw hlb).mono ?_; rintro e w3 ⟨⟨v3, l3, rfl, hv3, hn3⟩, hb3⟩))
    go_ret
    rw [Po.cf_trim] at hn3
    rw [hn3.unique HM.out] at hv3
    exact ⟨⟨_, rfl, hv3.low hb2.size⟩, hb2.trans (hb3.mono hb2.size)⟩
set_option maxHeartbeats 2000000 in
theorem rdivide_any (a b : Option Addr) (n c m d : Nat) (la lb : List (BitVec 32)) (w : World) (ha : Words32 w a n la) (hb : Words32 w b m lb) (hac : n ≤ c) (hbd : m ≤ d) (ha0 : a = none → c = 0) (hb0 : b = none → d = 0)
    (hs : n ≤ 68719476736) (hs2 : m ≤ 68719476736) (h0 : Po.len1 lb ≠ 0) :
    Calls Try.prog 56 #[.slice a n c, .slice b m d] w fun e w' =>
      (∃ v u, e = .returned (.tuple #[v, u]) ∧ Fresh 37 w.heap.size w' v (Po.qr la lb).1 ∧ Fresh 37 w.heap.size w' u (Po.qr la lb).2) ∧ Below w.heap.size w w' := by
  have hla := ha.1
  have hlb := hb.1
  have hle := Po.len1_le la
  have hle2 := Po.len1_le lb
  have htla := Po.trim_length la
  have htlb := Po.trim_length lb
  have hsa : n ≤ 549755813888 := by omega
  have hsb : m ≤ 549755813888 := by omega
  go_enter Try.func56, Try.ntmps56
  go_wp2_with (first
    | (go_at_call 14; with_reducible refine (rtrim_any b m d lb w hb hbd hb0 hsb).mono ?_; rintro e w1 ⟨⟨v1, rfl, hv1⟩, hb1⟩; obtain ⟨tb, tbc, rfl, hbc, hbw⟩ := hv1.slice; have htb0 := hv1.cap0; rw [htlb] at hbc hbw)
    | (go_at_call 14; with_reducible refine (rtrim_any a n c la _ (ha.below hb1) hac ha0 hsa).mono ?_; rintro e w2 ⟨⟨v2, rfl, hv2⟩, hb2⟩; obtain ⟨ra, rc, rfl, hrc, hrw⟩ := hv2.slice; rw [htla] at hrc hrw))
  have hb12 := hb1.trans (hb2.mono hb1.size)
  have hbB : Words32 w2 tb (Po.len1 lb) (Po.trim lb) := hbw.below hb2
  have hst : Po.RInv la lb (Po.trim la) [] := ⟨by rw [Po.cf_nil, Po.mulL_zero, Po.zero_addF, Po.cf_trim], Po.trim_trim la⟩
  have HST := Lib.hid hst
  clear hst
  have HL := Lib.hid htla
  have HL2 := Lib.hid htlb
  clear htla htlb
  go_loopg [6, 7] (Po.len1 la) (fun g x y wr => ∃ (va : Option Addr) (vc : Nat) (lr lq : List (BitVec 32)), g = lr.length ∧ lr.length ≤ n ∧ lq.length ≤ n ∧ x = .slice va lr.length vc ∧ Fresh 37 w.heap.size wr x lr ∧ Fresh 37 w.heap.size wr y lq ∧ Po.RInv la lb lr lq ∧ Below w2.heap.size w2 wr)
  case atStart =>
    have h1 := HL.out
    rw [← h1]
    exact ⟨ra, rc, Po.trim la, [], rfl, by omega, Nat.zero_le _, rfl, hv2.low hb1.size, Fresh.nil _ _ _, HST.out, Below.refl _ _⟩
  case round =>
    obtain ⟨va, vc, lr, lq, hgk, hlr, hlq, rfl, hfr, hfq, hinv, hbk⟩ := hrel
    obtain ⟨qa, qc, rfl, hqc, hqw⟩ := hfq.slice
    have hq0 := hfq.cap0
    obtain ⟨_, _, hrw2⟩ := hfr.words
    have hbB2 := hbB.below hbk
    have HI := Lib.hid (And.intro hgk hinv)
    clear hgk hinv
    have hsz2 : w.heap.size ≤ wr.heap.size := Nat.le_trans hb12.size hbk.size
    obtain ⟨LR, hLR⟩ : ∃ LR, LR = lr.length := ⟨_, rfl⟩
    obtain ⟨LQ, hLQ⟩ : ∃ LQ, LQ = lq.length := ⟨_, rfl⟩
    rw [← hLR] at hrw2 hlr hfr ⊢
    rw [← hLQ] at hqw hqc hlq hfq ⊢
    have HLR := Lib.hid (And.intro hLR hLQ)
    clear hLR hLQ
    by_cases hlt : Po.len1 lb ≤ LR
    · obtain ⟨K, hK⟩ : ∃ K, K + 1 = LR := ⟨LR - 1, by omega⟩
      obtain ⟨J, hJ⟩ : ∃ J, J + 1 = Po.len1 lb := ⟨Po.len1 lb - 1, by omega⟩
      obtain ⟨D, hD⟩ : ∃ D, D + Po.len1 lb = LR := ⟨LR - Po.len1 lb, by omega⟩
      have hKe : (LR : Int) - 1 = (K : Int) := by omega
      have hJe : (Po.len1 lb : Int) - 1 = (J : Int) := by omega
      have hDe : (LR : Int) - (Po.len1 lb : Int) = (D : Int) := by omega
      have hKw : IntKind.i64.wrap (K : Int) = (K : Int) := IntWalk.i64_in _ (by omega)
      have hJw : IntKind.i64.wrap (J : Int) = (J : Int) := IntWalk.i64_in _ (by omega)
      have hKl : K < LR := by omega
      have hJl : J < Po.len1 lb := by omega
      have hK0 : (0 : Int) ≤ (K : Int) := by omega
      have hK1 : (K : Int) < (LR : Int) := by omega
      have hJ0 : (0 : Int) ≤ (J : Int) := by omega
      have hJ1 : (J : Int) < (Po.len1 lb : Int) := by omega
      obtain ⟨ad, rfl, hx⟩ := hrw2.2.2 K hKl
      obtain ⟨ad2, rfl, hy⟩ := hbB2.2.2 J hJl
      obtain ⟨z, hz⟩ : ∃ z, z = lr.getD K 0 := ⟨_, rfl⟩
      obtain ⟨y, hyz⟩ : ∃ y, y = (Po.trim lb).getD J 0 := ⟨_, rfl⟩
      rw [← hz] at hx
      rw [← hyz] at hy
      have HZ := Lib.hid (And.intro (show z = Po.cf lr K from hz) (show y = Po.cf lb J from hyz.trans (congrFun (Po.cf_trim lb) J)))
      have HN := Lib.hid (And.intro hK (And.intro hJ hD))
      have hDb : D ≤ 274877906944 := by omega
      have hlrb : LR ≤ 274877906944 := by omega
      have hlqb : LQ ≤ 274877906944 := by omega
      have hbb : Po.len1 lb ≤ 274877906944 := by omega
      clear hz hyz hK hJ hD
      go_wp2_with fail
      go_quiet (first
        | (go_at_call 69; exact Calls.quiet_of_same ((rinverse_any y _).mono fun e w' h => ⟨h.1, h.2.symm⟩))
        | (go_at_call 71; exact Calls.quiet_of_same ((rmul_any z _ _).mono fun e w' h => ⟨h.1, h.2.symm⟩)))
      obtain ⟨wd, hwd⟩ : ∃ wd, wd = wr.drewN nq := ⟨_, rfl⟩
      have hbd2 : Below w2.heap.size w2 wd := by rw [hwd]; exact below_draws hbk nq
      have hqd : Words32 wd qa LQ lq := by rw [hwd]; exact hqw
      have hrd : Words32 wd (some ad) LR lr := by rw [hwd]; exact hrw2
      have hbdd : Words32 wd (some ad2) (Po.len1 lb) (Po.trim lb) := by rw [hwd]; exact hbB2
      have hszd : w.heap.size ≤ wd.heap.size := by rw [hwd]; exact hsz2
      rw [← hwd]
      clear hwd hx hy hqw hrw2 hbB2
      obtain ⟨cc, hcc⟩ : ∃ cc, cc = Gf.mul z (Gf.inv y) := ⟨_, rfl⟩
      rw [← hcc]
      have HC := Lib.hid hcc
      clear hcc
      have hone : 1 ≤ 274877906944 := by omega
      have hD1 : D + 1 ≤ 274877906944 := by have := HN.out; omega
      have hDL : D + Po.len1 lb ≤ 274877906944 := by have := HN.out; omega
      go_wp2_with (first
        | (go_at_call 57; with_reducible refine (rscale_any (some ad2) (Po.len1 lb) tbc D (Po.trim lb) cc _ ((hbdd.past _).below (hbs1.trans (hba1.mono hbs1.size))) hbb hDb).mono ?_
           rintro e w5 ⟨⟨v5, l5, rfl, hv5, hn5⟩, hbs2⟩; obtain ⟨a5, c5, rfl, hc5, hw5⟩ := hv5.slice
           have hl5 : l5.length ≤ 274877906944 := Nat.le_trans (hn5.len (n := D + Po.len1 lb) fun i hi => by
             show (if D ≤ i then Gf.mul cc (Po.cf (Po.trim lb) (i - D)) else 0) = 0
             rw [if_pos (by omega), Po.cf_trim, Po.cf_len1 lb (by omega), Gf.mul_zero]) hDL)
        | (go_at_call 57; refine (rscale_any (some ⟨wd.heap.size, 0, none⟩) 1 1 D [1#32] cc _ (words_one wd 1#32 37) hone hDb).mono ?_
           rintro e w3 ⟨⟨v3, l3, rfl, hv3, hn3⟩, hbs1⟩; obtain ⟨a3, c3, rfl, hc3, hw3⟩ := hv3.slice
           have hl3 : l3.length ≤ 274877906944 := Nat.le_trans (hn3.len (n := D + 1) fun i hi => by
             show (if D ≤ i then Gf.mul cc (Po.cf [1#32] (i - D)) else 0) = 0
             rw [if_pos (by omega), Po.cf_ge (by simp; omega), Gf.mul_zero]) hD1)
        | (go_at_call 40; with_reducible refine (radd_any qa a3 LQ qc l3.length c3 lq l3 _ ((hqd.past _).below hbs1) hw3 hlqb hl3).mono ?_
           rintro e w4 ⟨⟨v4, l4, rfl, hv4, hn4⟩, hba1⟩; obtain ⟨a4, c4, rfl, hc4, hw4⟩ := hv4.slice)
        | (go_at_call 40; with_reducible refine (radd_any (some ad) a5 LR vc l5.length c5 lr l5 _ (((hrd.past _).below (hbs1.trans (hba1.mono hbs1.size))).below hbs2) hw5 hlrb hl5).mono ?_
           rintro e w6 ⟨⟨v6, l6, rfl, hv6, hn6⟩, hba2⟩; obtain ⟨a6, c6, rfl, hc6, hw6⟩ := hv6.slice))
      have hN := HN.out
      have hLr := HLR.out
      have hDe2 : lr.length - Po.len1 lb = D := by omega
      have hK2 : lr.length - 1 = K := by omega
      have hJ2 : Po.len1 lb - 1 = J := by omega
      have hn6' := hn6
      rw [hn5.2, ← hDe2] at hn6'
      have hst := HI.out.2.step h0 (by omega) cc (by rw [HC.out, hK2, hJ2, HZ.out.1, HZ.out.2]) hn6' (by rw [hn4.2, hn3.2, hDe2]; rfl)
      have hbA : Below w2.heap.size w2 w3 := (hbd2.alloc hbd2.size _).trans (hbs1.mono (by rw [World.size_alloc]; have := hbd2.size; omega))
      have hbB4 : Below w2.heap.size w2 w4 := hbA.trans (hba1.mono hbA.size)
      have hbC : Below w2.heap.size w2 w5 := hbB4.trans (hbs2.mono hbB4.size)
      have hbE : Below w2.heap.size w2 w6 := hbC.trans (hba2.mono hbC.size)
      have hw3s := hb12.size
      have hwA := hbA.size
      have hwC := hbC.size
      go_roundg l6.length
      case measure => rw [HI.out.1]; exact hst.2
      case rel =>
        refine ⟨a6, c6, l6, l4, rfl, by have := hst.2; omega, hn4.len (fun i hi => ?_), rfl, hv6.low (by omega), ((hv4.below hbs2).below hba2).low (by omega), hst.1, hbE⟩
        show Po.cf lq i ^^^ Po.cf l3 i = 0
        rw [Po.cf_ge (by omega), hn3.2]
        show (0 : BitVec 32) ^^^ (if D ≤ i then Gf.mul cc (Po.cf [1] (i - D)) else 0) = 0
        rw [if_pos (by omega), Po.cf_ge (by simp; omega), Gf.mul_zero]; rfl
    · have hqb : LQ ≤ 549755813888 := by omega
      have hqr := HI.out.2.done (by have := HLR.out; omega)
      go_wp2_with (first
        | (go_at_call 14; refine (rtrim_any qa LQ qc lq _ hqw hqc hq0 hqb).mono ?_; rintro e w4 ⟨⟨v4, rfl, hv4⟩, hb4⟩))
      go_ret2
      have hbT : Below w.heap.size w wr := hb12.trans (hbk.mono hb12.size)
      rw [hqr]
      exact ⟨⟨_, _, rfl, hv4.low hsz2, hfr.below hb4⟩, hbT.trans (hb4.mono hbT.size)⟩
set_option maxHeartbeats 1000000 in
theorem rcommon_aux : ∀ (N : Nat) (a b : Option Addr) (n c m d : Nat) (la lb : List (BitVec 32)), Po.len1 lb < N → ∀ (w : World), Words32 w a n la → Words32 w b m lb → n ≤ c → m ≤ d → (a = none → c = 0) → (b = none → d = 0) → n ≤ 68719476736 → m ≤ 68719476736 →
    Calls Try.prog 39 #[.slice a n c, .slice b m d] w fun e w' => (∃ v g, e = .returned v ∧ Po.Gcd la lb g ∧ Fresh 37 w.heap.size w' v g) ∧ Below w.heap.size w w' := by
  intro N
  induction N with
  | zero => intro a b n c m d la lb h; omega
  | succ N ih =>
    intro a b n c m d la lb hlt w ha hb hac hbd ha0 hb0 hs hs2
    have hsb : m ≤ 549755813888 := by omega
    have hsa : n ≤ 274877906944 := by omega
    have htl := Po.trim_length lb
    by_cases h0 : Po.len1 lb = 0
    · have ht : ((Po.len1 lb : Int) == 0) = true := by simp [h0]
      have hg := Po.Gcd.base (a := la) h0
      clear h0 ih
      go_enter Try.func39, Try.ntmps39
      go_wp2_with (first
        | (go_at_call 14; refine (rtrim_any b m d lb _ hb hbd hb0 hsb).mono ?_; rintro e w1 ⟨⟨v, rfl, hv⟩, hb1⟩; obtain ⟨va, vc, rfl, _⟩ := id hv)
        | (go_at_call 58; refine (rmonic_any a n c la _ (ha.below hb1) hac ha0 hsa).mono ?_; rintro e w2 ⟨⟨u, rfl, hu⟩, hb2⟩))
      go_ret
      exact ⟨⟨u, _, rfl, hg, hu.low hb1.size⟩, hb1.trans (hb2.mono hb1.size)⟩
    · have ht : ((Po.len1 lb : Int) == 0) = false := by simpa using h0
      have hspec := Po.qr_spec la h0
      have hlr : (Po.qr la lb).2.length ≤ 68719476736 := by
        have h1 := hspec.lt
        have h2 := Po.trim_length (Po.qr la lb).2
        rw [hspec.tr] at h2
        have h3 := Po.len1_le lb
        have h4 := hb.1
        omega
      have hln : Po.len1 (Po.qr la lb).2 < N := by have := hspec.lt; omega
      have hG : ∀ g, Po.Gcd lb (Po.qr la lb).2 g → Po.Gcd la lb g := fun g hg => Po.Gcd.step h0 hg
      have IH := Lib.hid ih
      have HG := Lib.hid hG
      clear ih hG hspec
      go_enter Try.func39, Try.ntmps39
      go_wp2_with (first
        | (go_at_call 14; refine (rtrim_any b m d lb _ hb hbd hb0 hsb).mono ?_; rintro e w1 ⟨⟨v, rfl, hv⟩, hb1⟩; obtain ⟨va, vc, rfl, _⟩ := id hv)
        | (go_at_call 56; refine (rdivide_any a b n c m d la lb _ (ha.below hb1) (hb.below hb1) hac hbd ha0 hb0 hs hs2 h0).mono ?_; rintro e w2 ⟨⟨v2, u2, rfl, hv2, hu2⟩, hb2⟩
           obtain ⟨ua, uc, rfl, huc, huw⟩ := hu2.slice; have hu0 := hu2.cap0)
        | (go_at_call 39; refine (IH.out b ua m d _ uc lb (Po.qr la lb).2 hln _ ((hb.below hb1).below hb2) huw hbd huc hb0 hu0 hs2 hlr).mono ?_; rintro e w3 ⟨⟨v3, g, rfl, hg, hv3⟩, hb3⟩))
      go_ret
      have hb12 := hb1.trans (hb2.mono hb1.size)
      exact ⟨⟨_, g, rfl, HG.out g hg, hv3.low hb12.size⟩, hb12.trans (hb3.mono hb12.size)⟩
theorem rcommon_any (a b : Option Addr) (n c m d : Nat) (la lb : List (BitVec 32)) (w : World) (ha : Words32 w a n la) (hb : Words32 w b m lb) (hac : n ≤ c) (hbd : m ≤ d) (ha0 : a = none → c = 0) (hb0 : b = none → d = 0) (hs : n ≤ 68719476736) (hs2 : m ≤ 68719476736) :
    Calls Try.prog 39 #[.slice a n c, .slice b m d] w fun e w' => (∃ v g, e = .returned v ∧ Po.Gcd la lb g ∧ Fresh 37 w.heap.size w' v g) ∧ Below w.heap.size w w' :=
  rcommon_aux (Po.len1 lb + 1) a b n c m d la lb (by omega) w ha hb hac hbd ha0 hb0 hs hs2
end Go.Proofs.Ytlackhjlnoefcaa
