/- the reference's Decode -/
import Derived.Test.YtamigcbodplmcaaGreatSkD
import Derived.Test.YtamigcbodplmcaaGreatSkS
import Derived.Test.YtamigcbodplmcaaGreatRoA
import Derived.Deep.CutRange
import Derived.Deep.RegionLaw
namespace Go.Proofs.YtamigcbodplmcaaGreat
open Go Go.RowKit Go.ChangeShapes Go.WideShapes
/-- what Decode answers -/
def Dec5 (B : Nat) (l : List (BitVec 32)) (e : Ending) (w' : World) : Prop :=
  (∃ v A, e = .returned (.tuple #[v, .bool true]) ∧ Sk.Is l A ∧ OwnW 40 B w' v A) ∨ (e = .returned (.tuple #[.slice none 0 0, .bool false]) ∧ ∀ A, ¬ Sk.Is l A)
theorem words_none (w : World) : Words32 w none 0 [] := ⟨rfl, by unfold maxLen; omega, fun i hi => by omega⟩
theorem addr_add0 (ad : Addr) : ad.add 0 = ad := by unfold Addr.add; cases ad; simp
theorem is_syn {l A : List (BitVec 32)} (hA : Sk.Is l A) : Sk.syn l.length A = l := Po.list_ext (by unfold Sk.syn; rw [Po.mk_length]) fun i hi => by
  unfold Sk.syn at hi ⊢
  rw [Po.mk_length] at hi
  rw [Po.cf_mk, if_pos hi]
  exact (hA.sums i hi).symm ▸ rfl
theorem step_append_word {P : Program} {w : World} {ops : Array Oper} {o : Oper} {a : Act} {K : Act → World → Prop} {Q : Exit → Act → World → Prop} {E : Prop} (hgd : o.guard = none) (s x : Operand) (t : TypeId)
    (ho : o.op = .call { callee := .builtin .append, args := #[s, x], argTypes := #[t, t] })
    (T : TypeId) (ht : P.underlying t = some (.slice T)) (hinfo : (P.info? T).map (fun i => (i.zero, i.size, i.bytes)) = some (some (.int .u32 0), 1, 4))
    (B : Nat) (v : Value) (l : List (BitVec 32)) (hs : a.eval s = v) (hown : OwnW T B w v l) (z : BitVec 32) (W : World) (hW : W = w.alloc (.cells #[.int .u32 (nb32 z)] T)) (hx : a.eval x = .slice (some ⟨w.heap.size, 0, none⟩) 1 1)
    (h63 : l.length + 1 ≤ 1099511627776) (hbase : B ≤ w.heap.size)
    (h : ∀ v' w', OwnW T B w' v' (l ++ [z]) → (w.alloc (.cells #[.int .u32 (nb32 z)] T)).grownBy w' v.ownBlock → K (a.put o.dst v') w') : if Region.wanted o (yielded ops a.tmps) = true then Oper.wp P o a W K Q else E := by
  subst hW
  have hw : Region.wanted o (yielded ops a.tmps) = true := by simp [Region.wanted, hgd]
  rw [if_pos hw]
  obtain ⟨i0, hi, hz0, hz1, hz2⟩ := info_parts hinfo
  refine wp_append_own (w.alloc (.cells #[.int .u32 (nb32 z)] T)) s x t ho B T i0 (.int .u32 0) 1 4 ht hi hz0 hz1 hz2 rfl (by decide) v _ _ hs (World.ownsRow.alloc hown _) ⟨w.heap.size, 0, none⟩ 1 1 [.int .u32 (nb32 z)] hx rfl (cell_one_new _ _ _) (by simp [Value.oneCell']) (by unfold maxLen; omega) (by omega) (by rw [World.size_alloc]; omega) ?_
  intro v' w' h1 h2 _
  exact h v' w' (OwnW.snoc h1) h2
set_option maxRecDepth 100000 in
set_option maxHeartbeats 4000000 in
theorem rdecode5_any (a : Option Addr) (n c : Nat) (l : List (BitVec 32)) (w : World) (h : Words32 w a n l) (hn : n ≤ 100) :
    Calls Tryz.prog 8 #[.slice a n c] w fun e w' => Dec5 w.heap.size l e w' ∧ Below w.heap.size w w' := by
  have hl := h.1
  by_cases he : l = Sk.syn n []
  · have HE := Lib.hid he
    clear he
    go_enter Tryz.func8, Tryz.ntmps8
    go_wp2_with (first
      | (go_at_call 18; refine (rsame_any a va n c n vc l (Sk.syn n []) w1 (h.below hb1) hvw).mono ?_; rw [decide_eq_true HE.out]; rintro e w2 ⟨rfl, hd2⟩)
      | (go_at_call 19; refine (rof_any n 0 0 none [] w (words_none w) (by omega)).mono ?_; rintro e w1 ⟨⟨v, rfl, hv⟩, hb1⟩; obtain ⟨va, vc, rfl, hvc, hv0, hvw⟩ := fresh_shapeK hv.fresh (Po.mk_length _ _)))
    go_ret2
    exact ⟨show Dec5 _ _ _ _ from Or.inl ⟨_, [], rfl, (Sk.is_nil l).2 (by rw [hl]; exact HE.out), OwnW.nil _ _ _⟩, hb1.trans ((hd2.below _).mono hb1.size)⟩
  · have HE := Lib.hid he
    clear he
    obtain ⟨N, hN⟩ : ∃ N, 2 * n = N := ⟨_, rfl⟩
    have hNw : IntKind.i64.wrap (2 * (n : Int)) = (N : Int) := by rw [IntWalk.i64_in _ (by omega)]; omega
    have hNi : 2 * (n : Int) = (N : Int) := by omega
    go_enter Tryz.func8, Tryz.ntmps8
    go_wp2_with (first
      | (go_at_call 18; refine (rsame_any a va n c n vc l (Sk.syn n []) w1 (h.below hb1) hvw).mono ?_; rw [decide_eq_false HE.out]; rintro e w2 ⟨rfl, hd2⟩; have hB2 := hb1.trans ((hd2.below w1.heap.size).mono hb1.size))
      | (go_at_call 19; refine (rof_any n 0 0 none [] w (words_none w) (by omega)).mono ?_; rintro e w1 ⟨⟨v, rfl, hv⟩, hb1⟩; obtain ⟨va, vc, rfl, hvc, hv0, hvw⟩ := fresh_shapeK hv.fresh (Po.mk_length _ _)))
    clear hvw
    rename World => wA
    go_loopw [4, 5] (fun vo iv wr => ∃ i : Nat, i ≤ N ∧ iv = .int .i64 i ∧ OwnW 40 w.heap.size wr vo (Po.mk i (Sk.ex l)) ∧ Below w.heap.size w wr) (fun _ iv _ => N - (intOf iv).toNat)
    case atStart => exact ⟨0, Nat.zero_le _, rfl, OwnW.nil _ _ _, hB2⟩
    case round =>
      obtain ⟨i, hi, rfl, hown, hb⟩ := hrel
      have hlen : (Po.mk i (Sk.ex l)).length = i := Po.mk_length _ _
      obtain ⟨ga, gc, rfl, hgc, hg0, hgw⟩ := fresh_shapeK hown.fresh hlen
      by_cases hlt : i < N
      · obtain ⟨q, hq⟩ : ∃ q, i / 2 = q := ⟨_, rfl⟩
        have hqi : (i : Int).tdiv 2 = (q : Int) := by rw [show (i : Int).tdiv 2 = ((i / 2 : Nat) : Int) from rfl, hq]
        have hqi2 : (i : Int) / 2 = (q : Int) := by omega
        have hqw : IntKind.i64.wrap (q : Int) = (q : Int) := IntWalk.i64_in _ (by omega)
        have hqn : q < n := by omega
        have hle : (Po.mk i (Sk.ex l)).length + 1 ≤ 1099511627776 := by omega
        by_cases hev : i % 2 = 0
        · have hr1 : (i : Int).tmod 2 = 0 := by rw [show (i : Int).tmod 2 = ((i % 2 : Nat) : Int) from rfl, hev]; rfl
          have hr2 : (i : Int) % 2 = 0 := by omega
          obtain ⟨ad, rfl, hx⟩ := (h.below hb).2.2 q hqn
          obtain ⟨x, hxe⟩ : ∃ x, x = l.getD q 0 := ⟨_, rfl⟩
          rw [← hxe] at hx
          have hxx : x = Sk.ex l i := by rw [Sk.ex_even l hev, hq, hxe]; rfl
          have HX := Lib.hid hxx
          clear hxe hxx
          go_wp2_with (first
            | (at_builtin; refine wpList_append_word rfl (.tmp 27) (.tmp 33) 22 rfl 40 Tryz.underlying22 info_word w.heap.size _ (Po.mk i (Sk.ex l)) rfl hown x rfl hle hb.size ?_; intro v' w2 h2 h3))
          go_roundw
          case rel => exact ⟨i + 1, by omega, by go_num, own_snoc h2 HX.out, below_own_row (hb.alloc hb.size _) h3 hown.lt⟩
          case measure => (simp [intOf]; try omega)
        · have hr1 : (i : Int).tmod 2 = 1 := by rw [show (i : Int).tmod 2 = ((i % 2 : Nat) : Int) from rfl, show i % 2 = 1 from by omega]; rfl
          have hr2 : (i : Int) % 2 = 1 := by omega
          have hqi3 : q < i := by omega
          obtain ⟨gd, rfl, hx⟩ := hgw.2.2 q hqi3
          obtain ⟨x, hxe⟩ : ∃ x, x = (Po.mk i (Sk.ex l)).getD q 0 := ⟨_, rfl⟩
          rw [← hxe] at hx
          have hxx : Gf.mul x x = Sk.ex l i := by
            rw [Sk.ex_odd l hev, hq, hxe]
            rw [show (Po.mk i (Sk.ex l)).getD q 0 = Sk.ex l q from (Po.cf_mk i (Sk.ex l) q).trans (if_pos hqi3)]
          have HX := Lib.hid hxx
          clear hxe hxx
          have hownD : OwnW 40 w.heap.size wr.drew (.slice (some gd) i gc) (Po.mk i (Sk.ex l)) := hown
          have hbD : Below w.heap.size w wr.drew := hb.drew
          go_wp2_with fail
          go_region_law (first
            | (refine step_append_word rfl (.tmp 35) (.tmp 47) 22 rfl 40 Tryz.underlying22 info_word w.heap.size (.slice (some gd) i gc) (Po.mk i (Sk.ex l)) rfl hownD (Gf.mul x x) _ rfl rfl hle hbD.size ?_; intro v' w2 h2 h3)
            | (go_simp; go_at_call 20; refine (rmul_any _ _ _).mono ?_; rintro e w1 ⟨rfl, rfl⟩))
          all_goals
            go_wp2
            go_roundw
            (case rel => exact ⟨i + 1, by omega, by go_num, own_snoc h2 HX.out, below_own_row (hbD.alloc hbD.size _) h3 hown.lt⟩)
            (case measure => (simp [intOf]; try omega))
      · obtain rfl : i = N := by omega
        have hsx : Po.mk i (Sk.ex l) = Sk.exL l := by unfold Sk.exL; rw [hl, hN]
        rw [hsx] at hown hgw
        clear hsx hlen
        rename World => wS
        go_wp2_with fail
        go_loopw [6] (fun vv wr => ∃ v : Nat, 1 ≤ v ∧ v ≤ n + 1 ∧ vv = .int .i64 v ∧ RowKit.Hid (∀ A, Sk.Is l A → v ≤ A.length) ∧ Below wS.heap.size wS wr) (fun vv _ => n + 1 - (intOf vv).toNat)
        case atStart => exact ⟨1, Nat.le_refl _, by omega, rfl, Lib.hid (fun A hA => by
          cases A with
          | nil => exact absurd ((Sk.is_nil l).1 hA) (by rw [hl]; exact HE.out)
          | cons x A => simp), Below.refl _ _⟩
        case round =>
          obtain ⟨v, hv1, hv2, rfl, HA, hbv⟩ := hrel
          have hgv := hgw.below hbv
          have hbB := hb.trans (hbv.mono hb.size)
          by_cases hlt : v ≤ n
          · have hsz : w.heap.size ≤ wr.heap.size := hbB.size
            go_upto_region 14 with (first
              | (go_at_call 21; refine (rsolve5_any ga i gc v (Sk.exL l) wr hgv (by omega) (by omega)).mono ?_; rintro e w3 ⟨⟨cv, ok, rfl, hok, hno⟩, hb3⟩))
            have hbv3 := hbv.trans (hb3.mono hbv.size)
            have hb03 := hb.trans (hbv3.mono hb.size)
            cases ok with
            | false =>
              have HZ := Lib.hid (hno rfl)
              clear hok hno
              have HA2 : RowKit.Hid (∀ A, Sk.Is l A → v + 1 ≤ A.length) := Lib.hid (fun A hA => by
                obtain ⟨z, j, hj, hz1, hz⟩ := HZ.out
                rcases Nat.lt_or_ge v A.length with g | g
                · exact g
                · have e : A.length = v := Nat.le_antisymm g (HA.out A hA)
                  subst e
                  exact (Sk.no_kernel hA hj hz1 hz).elim)
              go_wp2_with fail
              go_roundw
              case rel => exact ⟨v + 1, by omega, by omega, by go_num, HA2, hbv3⟩
              case measure => (simp [intOf]; try omega)
            | true =>
              obtain ⟨lc, hcw, hcl, hcs⟩ := hok rfl
              clear hok hno
              have HC := Lib.hid hcs
              clear hcs
              obtain ⟨ca, cc, rfl, hcc, hc0, hcW⟩ := fresh_shapeK hcw.fresh hcl
              have HW := Lib.hid hcw
              clear hcw
              have hg3 := hgv.below hb3
              obtain ⟨r, hr⟩ := ex_bool (∀ t, 2 * v ≤ t → t < i → Po.cf (Sk.exL l) t ^^^ Ms.dotN (Po.cf lc) (fun j => Po.cf (Sk.exL l) (t - 1 - j)) v = 0)
              have HR := Lib.hid hr
              clear hr
              cases r with
              | false =>
                have HA2 : RowKit.Hid (∀ A, Sk.Is l A → v + 1 ≤ A.length) := Lib.hid (fun A hA => by
                  rcases Nat.lt_or_ge v A.length with g | g
                  · exact g
                  · have e : A.length = v := Nat.le_antisymm g (HA.out A hA)
                    subst e
                    have := HR.out.2 (fun t g1 g2 => Sk.found_goes hA (Sk.found_loc hA HC.out) t g1 (by omega))
                    exact absurd this (by decide))
                go_wp2_with (first
                  | (go_at_call 22; refine (rgoes5_any ga ca i gc v cc (Sk.exL l) lc w3 hg3 hcW (by omega) (by omega) false HR.out).mono ?_; rintro e w4 ⟨rfl, hd4⟩))
                go_roundw
                case rel => exact ⟨v + 1, by omega, by omega, by go_num, HA2, hbv3.trans ((hd4.below _).mono hbv3.size)⟩
                case measure => (simp [intOf]; try omega)
              | true =>
                go_wp2_with (first
                  | (go_at_call 22; refine (rgoes5_any ga ca i gc v cc (Sk.exL l) lc w3 hg3 hcW (by omega) (by omega) true HR.out).mono ?_; rintro e w4 ⟨rfl, hd4⟩))
                rename World => wG
                have hvz : Po.mk (v - v) (fun t => Po.cf lc (v - 1 - t)) = [] := by rw [Nat.sub_self]; rfl
                go_loopw [9, 10] (fun pv iv wr => ∃ d : Nat, d ≤ v ∧ iv = .int .i64 ((d : Int) - 1) ∧ OwnW 40 wG.heap.size wr pv (Po.mk (v - d) (fun t => Po.cf lc (v - 1 - t))) ∧ Below wG.heap.size wG wr) (fun _ iv _ => (intOf iv + 1).toNat)
                case atStart => exact ⟨v, Nat.le_refl _, rfl, by rw [hvz]; exact OwnW.nil _ _ _, Below.refl _ _⟩
                case round =>
                  obtain ⟨d, hd, rfl, hpo, hbp⟩ := hrel
                  clear hvz
                  have hbG := (hb03.trans ((hd4.below _).mono hb03.size))
                  have hbq := hbG.trans (hbp.mono hbG.size)
                  cases d with
                  | succ e =>
                    have hce : ((e + 1 : Nat) : Int) - 1 = (e : Int) := by omega
                    rw [hce]
                    clear hce
                    have hev : e < v := by omega
                    obtain ⟨cd, rfl, hx⟩ := ((hcW.below (hd4.below _)).below hbp).2.2 e hev
                    obtain ⟨x, hxe⟩ : ∃ x, x = lc.getD e 0 := ⟨_, rfl⟩
                    rw [← hxe] at hx
                    obtain ⟨k, hk⟩ : ∃ k, k = v - (e + 1) := ⟨_, rfl⟩
                    have hk2 : v - e = k + 1 := by omega
                    have hxx : x = Po.cf lc (v - 1 - k) := by rw [hxe, show v - 1 - k = e from by omega]; rfl
                    have HX := Lib.hid (And.intro hxx hk2)
                    rw [← hk] at hpo
                    have hlen2 : (Po.mk k (fun t => Po.cf lc (v - 1 - t))).length = k := Po.mk_length _ _
                    have hle2 : (Po.mk k (fun t => Po.cf lc (v - 1 - t))).length + 1 ≤ 1099511627776 := by omega
                    clear hxe hxx hk2 hk hlen2
                    have hew : IntKind.i64.wrap ((e : Int) - 1) = (e : Int) - 1 := IntWalk.i64_in _ (by omega)
                    go_wp2_with (first
                      | (at_builtin; refine wpList_append_word rfl (.tmp 75) (.tmp 80) 22 rfl 40 Tryz.underlying22 info_word wG.heap.size _ (Po.mk k (fun t => Po.cf lc (v - 1 - t))) rfl hpo x rfl hle2 hbp.size ?_; intro v' w2 h2 h3))
                    go_roundw
                    case rel => exact ⟨e, by omega, rfl, by rw [HX.out.2]; exact own_snoc h2 HX.out.1, below_own_row (hbp.alloc hbp.size _) h3 hpo.lt⟩
                    case measure => (simp [intOf]; try omega)
                  | zero =>
                    have hce : ((0 : Nat) : Int) - 1 = -1 := rfl
                    rw [hce]
                    clear hce
                    have hrv : Po.mk (v - 0) (fun t => Po.cf lc (v - 1 - t)) = lc.reverse := Po.list_ext (by rw [Po.mk_length, List.length_reverse, hcl]; rfl) fun t ht => by
                      rw [Po.mk_length] at ht
                      rw [Po.cf_mk, if_pos ht]
                      show _ = lc.reverse.getD t 0
                      rw [List.getD_eq_getElem?_getD, List.getElem?_reverse (by omega), ← List.getD_eq_getElem?_getD, hcl]
                      rfl
                    rw [hrv] at hpo
                    clear hrv
                    have hle2 : lc.reverse.length + 1 ≤ 1099511627776 := by rw [List.length_reverse]; omega
                    obtain ⟨p, hp⟩ : ∃ p, p = lc.reverse ++ [1#32] := ⟨_, rfl⟩
                    have HP := Lib.hid hp
                    have hpl : p.length = v + 1 := by rw [hp, List.length_append, List.length_reverse, hcl]; rfl
                    have hp1 : Po.len1 p = v + 1 := by rw [hp, ← hcl]; exact Sk.rev_one lc
                    have hp0 : Po.len1 p ≠ 0 := by omega
                    have HT := Lib.hid ((Po.trim_length p).trans hp1)
                    have HN := Lib.hid (show ∀ A, Sk.Is l A → A.length = v → Po.rts p = A from fun A hA e => by
                      subst e
                      rw [hp, show lc.reverse ++ [1#32] = Po.fromL A from Sk.found_poly hcl (Sk.found_loc hA HC.out)]
                      exact Po.rts_from hA.srt)
                    have hS4 := hbv3.trans ((hd4.below _).mono hbv3.size)
                    obtain ⟨x0, hx0e⟩ : ∃ x0, x0 = (Po.rts p).getD 0 0 := ⟨_, rfl⟩
                    have HX0 := Lib.hid hx0e
                    clear hp hp1 hx0e
                    have NEXT : RowKit.Hid ((Po.rts p).length = v ∧ x0 ≠ 0 ∧ Sk.syn n (Po.rts p) = l → False) → RowKit.Hid (∀ A, Sk.Is l A → v + 1 ≤ A.length) := fun hn => Lib.hid (fun A hA => by
                      rcases Nat.lt_or_ge v A.length with g | g
                      · exact g
                      · have e : A.length = v := Nat.le_antisymm g (HA.out A hA)
                        have hr := HN.out A hA e
                        refine (hn.out ⟨by rw [hr, e], ?_, by rw [hr, ← hl]; exact is_syn hA⟩).elim
                        rw [HX0.out, hr]
                        cases A with
                        | nil => have e2 : (0 : Nat) = v := e; omega
                        | cons y A => exact hA.ne y (List.mem_cons_self ..))
                    have HNX := Lib.hid NEXT
                    clear NEXT
                    by_cases hKv : (Po.rts p).length = v
                    · have HK := Lib.hid hKv
                      clear hKv
                      by_cases hx00 : x0 = 0
                      · have hxb : (x0 != 0#32) = false := by rw [hx00]; rfl
                        have HA2 := HNX.out (Lib.hid fun g => g.2.1 hx00)
                        clear hx00
                        go_wp2_with (first
                          | (go_at_call 24; refine (rtrim_any pa (v + 1) pc p w5 (hpw.below hb5) hpc hp00 (by omega)).mono ?_; rintro e w6 ⟨⟨tv, rfl, htv⟩, hb6⟩; have hT6 := hT5.trans (hb6.mono hT5.size); have hS6 := hS5.trans (hb6.mono hS5.size); obtain ⟨ta, tc, rfl, htc, ht0, htw⟩ := fresh_shapeK htv HT.out; obtain ⟨ad0, rfl, hx0⟩ := (hiw.below hb6).2.2 0 hv1; rw [← HX0.out] at hx0; have hx0b := hx0; rw [addr_add0] at hx0b)
                          | (go_at_call 23; refine (rall_any pa (v + 1) pc p w2 hpw hpc hp00 (by omega) hp0).mono ?_; rintro e w5 ⟨⟨idv, rfl, hid⟩, hb5⟩; have hT5 := hT2.trans (hb5.mono hT2.size); have hS5 := hS2.trans (hb5.mono hS2.size); obtain ⟨ia, ic, rfl, hic, hi0, hiw⟩ := fresh_shapeK hid.fresh HK.out)
                          | (at_builtin; refine wpList_append_word rfl (.tmp 82) (.tmp 83) 22 rfl 40 Tryz.underlying22 info_word wG.heap.size _ lc.reverse rfl hpo (1#32) rfl hle2 hbp.size ?_; intro v' w2 h2 h3; rw [← HP.out] at h2; have hb2 := below_own_row (hbp.alloc hbp.size _) h3 hpo.lt; have hT2 := hbG.trans (hb2.mono hbG.size); have hS2 := hS4.trans (hb2.mono hS4.size); obtain ⟨pa, pc, rfl, hpc, hp00, hpw⟩ := fresh_shapeK h2.fresh hpl))
                        go_roundw
                        case rel => exact ⟨v + 1, by omega, by omega, by go_num, HA2, hS6⟩
                        case measure => (simp [intOf]; try omega)
                      · have hxb : (x0 != 0#32) = true := by simpa using hx00
                        have HX00 := Lib.hid hx00
                        clear hx00
                        by_cases hc3 : Sk.syn n (Po.rts p) = l
                        · have HC3 := Lib.hid hc3
                          clear hc3
                          go_wp2_with (first
                            | (go_at_call 18; refine (rsame_any fa a n fc n c (Sk.syn n (Po.rts p)) l w7 hfw (h.below hT7)).mono ?_; rw [decide_eq_true HC3.out]; rintro e w8 ⟨rfl, hd8⟩)
                            | (go_at_call 19; refine (rof_any n v ic (some ad0) (Po.rts p) w6 (hiw.below hb6) (by omega)).mono ?_; rintro e w7 ⟨⟨fv, rfl, hfv⟩, hb7⟩; have hT7 := hT6.trans (hb7.mono hT6.size); have hS7 := hS6.trans (hb7.mono hS6.size); obtain ⟨fa, fc, rfl, hfc, hf0, hfw⟩ := fresh_shapeK hfv.fresh (Po.mk_length _ _))
                            | (go_at_call 24; refine (rtrim_any pa (v + 1) pc p w5 (hpw.below hb5) hpc hp00 (by omega)).mono ?_; rintro e w6 ⟨⟨tv, rfl, htv⟩, hb6⟩; have hT6 := hT5.trans (hb6.mono hT5.size); have hS6 := hS5.trans (hb6.mono hS5.size); obtain ⟨ta, tc, rfl, htc, ht0, htw⟩ := fresh_shapeK htv HT.out; obtain ⟨ad0, rfl, hx0⟩ := (hiw.below hb6).2.2 0 hv1; rw [← HX0.out] at hx0; have hx0b := hx0; rw [addr_add0] at hx0b)
                            | (go_at_call 23; refine (rall_any pa (v + 1) pc p w2 hpw hpc hp00 (by omega) hp0).mono ?_; rintro e w5 ⟨⟨idv, rfl, hid⟩, hb5⟩; have hT5 := hT2.trans (hb5.mono hT2.size); have hS5 := hS2.trans (hb5.mono hS2.size); obtain ⟨ia, ic, rfl, hic, hi0, hiw⟩ := fresh_shapeK hid.fresh HK.out)
                            | (at_builtin; refine wpList_append_word rfl (.tmp 82) (.tmp 83) 22 rfl 40 Tryz.underlying22 info_word wG.heap.size _ lc.reverse rfl hpo (1#32) rfl hle2 hbp.size ?_; intro v' w2 h2 h3; rw [← HP.out] at h2; have hb2 := below_own_row (hbp.alloc hbp.size _) h3 hpo.lt; have hT2 := hbG.trans (hb2.mono hbG.size); have hS2 := hS4.trans (hb2.mono hS4.size); obtain ⟨pa, pc, rfl, hpc, hp00, hpw⟩ := fresh_shapeK h2.fresh hpl))
                          go_ret2
                          exact ⟨Or.inl ⟨_, Po.rts p, rfl, Sk.is_of (by rw [HK.out, hl]; omega) (by rw [← HX0.out]; exact HX00.out) (by rw [hl]; exact HC3.out), ((((hid.below hb6).below hb7).below (hd8.below _)).low hT2.size)⟩, hT7.trans ((hd8.below _).mono hT7.size)⟩
                        · have HC3 := Lib.hid hc3
                          clear hc3
                          have HA2 := HNX.out (Lib.hid fun g => HC3.out g.2.2)
                          go_wp2_with (first
                            | (go_at_call 18; refine (rsame_any fa a n fc n c (Sk.syn n (Po.rts p)) l w7 hfw (h.below hT7)).mono ?_; rw [decide_eq_false HC3.out]; rintro e w8 ⟨rfl, hd8⟩)
                            | (go_at_call 19; refine (rof_any n v ic (some ad0) (Po.rts p) w6 (hiw.below hb6) (by omega)).mono ?_; rintro e w7 ⟨⟨fv, rfl, hfv⟩, hb7⟩; have hT7 := hT6.trans (hb7.mono hT6.size); have hS7 := hS6.trans (hb7.mono hS6.size); obtain ⟨fa, fc, rfl, hfc, hf0, hfw⟩ := fresh_shapeK hfv.fresh (Po.mk_length _ _))
                            | (go_at_call 24; refine (rtrim_any pa (v + 1) pc p w5 (hpw.below hb5) hpc hp00 (by omega)).mono ?_; rintro e w6 ⟨⟨tv, rfl, htv⟩, hb6⟩; have hT6 := hT5.trans (hb6.mono hT5.size); have hS6 := hS5.trans (hb6.mono hS5.size); obtain ⟨ta, tc, rfl, htc, ht0, htw⟩ := fresh_shapeK htv HT.out; obtain ⟨ad0, rfl, hx0⟩ := (hiw.below hb6).2.2 0 hv1; rw [← HX0.out] at hx0; have hx0b := hx0; rw [addr_add0] at hx0b)
                            | (go_at_call 23; refine (rall_any pa (v + 1) pc p w2 hpw hpc hp00 (by omega) hp0).mono ?_; rintro e w5 ⟨⟨idv, rfl, hid⟩, hb5⟩; have hT5 := hT2.trans (hb5.mono hT2.size); have hS5 := hS2.trans (hb5.mono hS2.size); obtain ⟨ia, ic, rfl, hic, hi0, hiw⟩ := fresh_shapeK hid.fresh HK.out)
                            | (at_builtin; refine wpList_append_word rfl (.tmp 82) (.tmp 83) 22 rfl 40 Tryz.underlying22 info_word wG.heap.size _ lc.reverse rfl hpo (1#32) rfl hle2 hbp.size ?_; intro v' w2 h2 h3; rw [← HP.out] at h2; have hb2 := below_own_row (hbp.alloc hbp.size _) h3 hpo.lt; have hT2 := hbG.trans (hb2.mono hbG.size); have hS2 := hS4.trans (hb2.mono hS4.size); obtain ⟨pa, pc, rfl, hpc, hp00, hpw⟩ := fresh_shapeK h2.fresh hpl))
                          go_roundw
                          case rel => exact ⟨v + 1, by omega, by omega, by go_num, HA2, hS7.trans ((hd8.below _).mono hS7.size)⟩
                          case measure => (simp [intOf]; try omega)
                    · have HA2 := HNX.out (Lib.hid fun g => hKv g.1)
                      obtain ⟨K, hK⟩ : ∃ K, (Po.rts p).length = K := ⟨_, rfl⟩
                      rw [hK] at hKv
                      have HK := Lib.hid hK
                      clear hK
                      have hKi : ¬ (K : Int) = (v : Int) := by omega
                      go_wp2_with (first
                        | (go_at_call 23; refine (rall_any pa (v + 1) pc p w2 hpw hpc hp00 (by omega) hp0).mono ?_; rintro e w5 ⟨⟨idv, rfl, hid⟩, hb5⟩; have hT5 := hT2.trans (hb5.mono hT2.size); have hS5 := hS2.trans (hb5.mono hS2.size); obtain ⟨ia, ic, rfl, hic, hi0, hiw⟩ := fresh_shapeK hid.fresh HK.out)
                        | (at_builtin; refine wpList_append_word rfl (.tmp 82) (.tmp 83) 22 rfl 40 Tryz.underlying22 info_word wG.heap.size _ lc.reverse rfl hpo (1#32) rfl hle2 hbp.size ?_; intro v' w2 h2 h3; rw [← HP.out] at h2; have hb2 := below_own_row (hbp.alloc hbp.size _) h3 hpo.lt; have hT2 := hbG.trans (hb2.mono hbG.size); have hS2 := hS4.trans (hb2.mono hS4.size); obtain ⟨pa, pc, rfl, hpc, hp00, hpw⟩ := fresh_shapeK h2.fresh hpl))
                      go_roundw
                      case rel => exact ⟨v + 1, by omega, by omega, by go_num, HA2, hS5⟩
                      case measure => (simp [intOf]; try omega)
          · obtain rfl : v = n + 1 := by omega
            have hno : ∀ A, ¬ Sk.Is l A := fun A hA => by
              have := HA.out A hA
              have := hA.le
              omega
            have HNO := Lib.hid hno
            clear hno
            go_wp2_with fail
            go_ret2
            exact ⟨Or.inr ⟨rfl, HNO.out⟩, hbB⟩
end Go.Proofs.YtamigcbodplmcaaGreat
