/- the reference's All -/
import Derived.Test.YtamigcbodplmcaaGreatRoR
import Derived.Test.YtamigcbodplmcaaGreatRj
import Derived.Test.YtamigcbodplmcaaGreatPz
import Derived.BigQuiet
namespace Go.Proofs.YtamigcbodplmcaaGreat
open Go Go.RowKit Go.ChangeShapes Go.WideShapes
/-- the insertion's state: x stands behind A, and what is behind it is greater -/
structure Po.Ins (o q : List (BitVec 32)) (x : BitVec 32) (A B : List (BitVec 32)) : Prop where
  q : q = A ++ x :: B
  o : o = A ++ B
  gt : ∀ b, b ∈ B → x.toNat < b.toNat
theorem Po.Ins.start (o : List (BitVec 32)) (x : BitVec 32) : Po.Ins o (o ++ [x]) x o [] := ⟨rfl, (List.append_nil _).symm, fun b hb => by cases hb⟩
theorem Po.Ins.done {o q A B : List (BitVec 32)} {x : BitVec 32} (h : Po.Ins o q x A B) (hs : Po.Srt o) (hA : ∀ a, a ∈ A → a.toNat < x.toNat) : Po.Srt q := by
  rw [h.q]
  have hs' := hs
  rw [h.o] at hs'
  obtain ⟨h1, h2, h3⟩ := List.pairwise_append.1 hs'
  refine List.pairwise_append.2 ⟨h1, List.pairwise_cons.2 ⟨h.gt, h2⟩, fun a ha b hb => ?_⟩
  rcases List.mem_cons.1 hb with e | e
  · rw [e]; exact hA a ha
  · exact h3 a ha b e
theorem Po.Ins.perm {o q A B : List (BitVec 32)} {x : BitVec 32} (h : Po.Ins o q x A B) : q.Perm (o ++ [x]) := by
  rw [h.q, h.o]
  exact List.perm_middle.trans ((List.perm_append_singleton x (A ++ B)).symm)
theorem Po.Ins.at {o q A B : List (BitVec 32)} {x : BitVec 32} (h : Po.Ins o q x A B) : q.getD A.length 0 = x := by
  rw [h.q, List.getD_eq_getElem?_getD, List.getElem?_append_right (Nat.le_refl _), Nat.sub_self]
  rfl
theorem Po.Ins.before {o q A B : List (BitVec 32)} {x y : BitVec 32} (h : Po.Ins o q x (A ++ [y]) B) : q.getD A.length 0 = y := by
  rw [h.q, List.append_assoc, List.getD_eq_getElem?_getD, List.getElem?_append_right (Nat.le_refl _), Nat.sub_self]
  rfl
theorem Po.Ins.step {o q A B : List (BitVec 32)} {x y : BitVec 32} (h : Po.Ins o q x (A ++ [y]) B) (hxy : x.toNat < y.toNat) : Po.Ins o ((q.set A.length x).set (A.length + 1) y) x A (y :: B) := by
  refine ⟨?_, by rw [h.o, List.append_assoc]; rfl, fun b hb => ?_⟩
  · rw [h.q, List.append_assoc]
    show ((A ++ y :: x :: B).set A.length x).set (A.length + 1) y = A ++ x :: y :: B
    rw [List.set_append_right _ _ (Nat.le_refl _), Nat.sub_self, List.set_cons_zero, List.set_append_right _ _ (by omega), show A.length + 1 - A.length = 1 from by omega]
    rfl
  · rcases List.mem_cons.1 hb with e | e
    · rw [e]; exact hxy
    · exact h.gt b e
theorem Po.last_lt {A : List (BitVec 32)} {x y : BitVec 32} (hs : Po.Srt (A ++ [y])) (hy : y.toNat < x.toNat) : ∀ a, a ∈ A ++ [y] → a.toNat < x.toNat := fun a ha => by
  rcases List.mem_append.1 ha with e | e
  · have := (List.pairwise_append.1 hs).2.2 a e y (by simp)
    omega
  · rw [List.mem_singleton.1 e]; exact hy
theorem Po.snoc_of {A : List (BitVec 32)} (h : A.length ≠ 0) : ∃ m y, A = m ++ [y] := ⟨A.dropLast, A.getLast (by intro e; rw [e] at h; exact h rfl), (List.dropLast_concat_getLast _).symm⟩
theorem Po.perm_rts {m : List (BitVec 32)} {p q : List (BitVec 32)} (h : m.Perm (Po.rts p)) (hq : q.Perm m) (hs : Po.Srt q) : q = Po.rts p := hs.ext (Po.rts_srt p) fun _ => (hq.trans h).mem_iff
theorem Po.not_in {m o : List (BitVec 32)} {i : Nat} (hn : m.Nodup) (hi : i < m.length) (ho : o.Perm (m.take i)) : m.getD i 0 ∉ o := fun h => by
  have h1 := Po.take_snoc hi
  have h2 : (m.take (i + 1)).Nodup := hn.sublist (List.take_sublist _ _)
  rw [h1] at h2
  exact (List.nodup_append.1 h2).2.2 _ (ho.mem_iff.1 h) _ (List.mem_singleton.2 rfl) rfl
set_option maxRecDepth 100000 in
set_option maxHeartbeats 2000000 in
theorem rall_any (a : Option Addr) (n c : Nat) (lp : List (BitVec 32)) (w : World) (ha : Words32 w a n lp) (hac : n ≤ c) (ha0 : a = none → c = 0) (hs : n ≤ 900) (h0 : Po.len1 lp ≠ 0) :
    Calls Tryz.prog 23 #[.slice a n c] w fun e w' => (∃ v, e = .returned v ∧ OwnW 40 w.heap.size w' v (Po.rts lp)) ∧ Below w.heap.size w w' := by
  have hl := ha.1
  have hle := Po.len1_le lp
  have hct := Po.count_le h0 (Po.rts_srt lp).nodup fun x hx => Po.rts_mem.1 hx
  have hrl : (Po.rts lp).length ≤ 1000 := by omega
  have hfl := (Po.fromL_all (Po.rts lp)).1
  have hn1 : n ≤ 1000000 := by omega
  have hnd := (Po.rts_srt lp).nodup
  go_enter Tryz.func23, Tryz.ntmps23
  go_wp2_with (first
    | (go_at_call 40; refine (rparts_any 32 0 (Po.rts lp) rfl (Po.rts_srt lp) (Po.Agree.start _) hrl pa _ pc w1 hpw hpc hp0).mono ?_; rintro e w2 ⟨⟨v2, m, rfl, hv2, hpm⟩, hb2⟩)
    | (go_at_call 41; refine (rlinear_any a n c lp w ha hac ha0 hn1 h0).mono ?_; rintro e w1 ⟨⟨v1, rfl, hv1⟩, hb1⟩; obtain ⟨pa, pc, rfl, hpc, hp0, hpw⟩ := fresh_shapeK hv1 hfl))
  have hml := hpm.length_eq
  obtain ⟨M, hM⟩ : ∃ M, M = m.length := ⟨_, rfl⟩
  have hM1 : M ≤ 1000 := by omega
  have hmn : m.Nodup := hpm.nodup_iff.2 hnd
  obtain ⟨ma, mc, rfl, hmc, hm0, hmw⟩ := fresh_shapeK hv2.fresh hM.symm
  have hB2 := hb1.trans (hb2.mono hb1.size)
  have HM := Lib.hid hM
  have hmM : m.length = M := hM.symm
  clear hct hfl hml hM
  go_loopw [4, 5] (fun vo iv wr => ∃ (i : Nat) (o : List (BitVec 32)), i ≤ M ∧ iv = .int .i64 i ∧ o.length = i ∧ OwnW 40 w2.heap.size wr vo o ∧ RowKit.Hid (Po.Srt o ∧ o.Perm (m.take i)) ∧ Below w2.heap.size w2 wr) (fun _ iv _ => M - (intOf iv).toNat)
  case atStart => exact ⟨0, [], Nat.zero_le _, rfl, rfl, OwnW.nil _ _ _, Lib.hid ⟨List.Pairwise.nil, List.Perm.refl _⟩, Below.refl _ _⟩
  case round =>
    obtain ⟨i, o, hi, rfl, hol, hown, HO, hb⟩ := hrel
    by_cases hlt : i < M
    · obtain ⟨ad, rfl, hx⟩ := (hmw.below hb).2.2 i hlt
      obtain ⟨x, hxe⟩ : ∃ x, x = m.getD i 0 := ⟨_, rfl⟩
      rw [← hxe] at hx
      have hxo : x ∉ o := by rw [hxe]; exact Po.not_in hmn (by omega) HO.out.2
      have hts : m.take (i + 1) = m.take i ++ [x] := by rw [hxe]; exact Po.take_snoc (by omega)
      have HX := Lib.hid (And.intro hxo hts)
      have hol1 : (o ++ [x]).length = i + 1 := by simp; exact hol
      have hiM : (i : Int) < (M : Int) := by omega
      have hle1 : o.length + 1 ≤ 1099511627776 := by omega
      clear hxe hxo hts
      go_wp2_with (first
        | (at_builtin; refine wpList_append_word rfl (.tmp 16) (.tmp 21) 22 rfl 40 Tryz.underlying22 info_word w2.heap.size _ o rfl hown x rfl hle1 hb.size ?_; intro v' w3 h2 h3; have hB3 := below_own_row (hb.alloc hb.size _) h3 hown.lt; obtain ⟨ga, gc, rfl, hgc, hg0, hgw⟩ := fresh_shapeK h2.fresh hol1))
      rename World => wA
      go_loopw [6] (fun kv wr => ∃ (k : Nat) (q A B : List (BitVec 32)), k ≤ i ∧ kv = .int .i64 k ∧ A.length = k ∧ q.length = i + 1 ∧ RowKit.Hid (Po.Ins o q x A B) ∧ OwnW 40 w2.heap.size wr (.slice ga (i + 1) gc) q ∧ Below w2.heap.size w2 wr) (fun kv _ => (intOf kv).toNat)
      case atStart => exact ⟨i, o ++ [x], o, [], Nat.le_refl _, rfl, hol, hol1, Lib.hid (Po.Ins.start o x), h2, hB3⟩
      case round =>
        obtain ⟨k, q, A, B, hk, rfl, hAl, hql, HI, hown2, hb3⟩ := hrel
        clear hx
        have hperm : q.Perm (m.take (i + 1)) := by rw [HX.out.2]; exact HI.out.perm.trans (HO.out.2.append_right [x])
        by_cases hk0 : k = 0
        · have hsq : Po.Srt q := HI.out.done HO.out.1 fun b hb => by
            have : A = [] := List.length_eq_zero_iff.1 (by omega)
            rw [this] at hb
            cases hb
          have HS := Lib.hid (And.intro hsq hperm)
          clear hsq hperm
          subst hk0
          go_wp2_with fail
          go_quiet (fail)
          go_wp2
          go_roundw
          case rel => exact ⟨i + 1, q, by omega, by go_num, hql, hown2.draws _, HS, below_draws hb3 _⟩
          case measure => simp [intOf]; omega
        · obtain ⟨A', y, hA⟩ := Po.snoc_of (A := A) (by omega)
          subst hA
          obtain ⟨p, hp⟩ : ∃ p, p = A'.length := ⟨_, rfl⟩
          have hAl2 : A'.length + 1 = k := by simpa using hAl
          have hkp : k = p + 1 := by omega
          have hpi : p < i := by omega
          have hkp' : (k : Int) - 1 = (p : Int) := by omega
          have hwp : IntKind.i64.wrap ((k : Int) - 1) = (p : Int) := by rw [IntWalk.i64_in _ (by omega)]; omega
          obtain ⟨g, rfl, hg, ⟨cs, hh, hcs⟩, _⟩ := hown2.put (k := k) (by omega)
          have hqw : Words32 wr (some ⟨g, 0, none⟩) (i + 1) q := hown2.fresh.words.2.2
          obtain ⟨_, e1, hc1⟩ := hqw.2.2 p (by omega)
          injection e1 with e1
          subst e1
          obtain ⟨_, e2, hc2⟩ := hqw.2.2 k (by omega)
          injection e2 with e2
          subst e2
          rw [Addr.add_mid, Nat.zero_add] at hc1 hc2
          have hq1 : q.getD p 0 = y := by rw [hp]; exact HI.out.before
          have hq2 : q.getD k 0 = x := by
            have := HI.out.at
            rwa [hAl] at this
          rw [hq1] at hc1
          rw [hq2] at hc2
          have hf1 := hh.loose p
          have hf2 := hh.loose k
          have hk0' : (0 : Int) < (k : Int) := by omega
          have hk0n : 0 < k := by omega
          have hp0' : (0 : Int) ≤ (p : Int) := by omega
          have hpi' : (p : Int) < (i : Int) + 1 := by omega
          have hki' : (k : Int) < (i : Int) + 1 := by omega
          have HK := Lib.hid (And.intro hkp (And.intro hp hAl2))
          have HPe := Lib.hid hperm
          clear hkp hp hAl hAl2 hq1 hq2 hperm
          by_cases hxy : x.toNat < y.toNat
          · have hxy' : nb32 x < nb32 y := by show (x.toNat : Int) < (y.toNat : Int); omega
            go_wp2_with fail
            go_quiet (fail)
            go_wp2
            have hwZ : ∀ nz wZ, wr.drewN nz = wZ → Has wZ g 40 cs ∧ OwnW 40 w2.heap.size wZ (.slice (some ⟨g, 0, none⟩) (i + 1) gc) q ∧ Below w2.heap.size w2 wZ ∧ wZ.cell? ⟨g, p, none⟩ = some (.int .u32 (nb32 y)) ∧ wZ.cell? ⟨g, k, none⟩ = some (.int .u32 (nb32 x)) := fun nz wZ e => by
              rw [← e]
              exact ⟨hh.draws _, hown2.draws _, below_draws hb3 _, hc1, hc2⟩
            generalize hz : World.drewN wr _ = wZ
            obtain ⟨hhZ, hoZ, hbZ, hc1Z, hc2Z⟩ := hwZ _ _ hz
            have hwpp : IntKind.i64.wrap (p : Int) = (p : Int) := IntWalk.i64_in _ (by omega)
            have hf1Z := hhZ.loose p
            have hf2Z := hhZ.loose k
            clear hwZ hz hh hown2 hb3 hc1 hc2 hf1 hf2 hqw
            have hcs' : ((wZ.setCell ⟨g, p, none⟩ (.int .u32 (nb32 x))).cell? ⟨g, k, none⟩) = some (.int .u32 (nb32 x)) := by
              rw [((hhZ.put p (.int .u32 (nb32 x))).cell k), Array.getElem?_setIfInBounds, if_neg (by have := HK.out.1; omega), ← hhZ.cell k]
              exact hc2Z
            refine wp_region_join (((wZ.setCell ⟨g, p, none⟩ (.int .u32 (nb32 x))).setCell ⟨g, k, none⟩ (.int .u32 (nb32 y))).drew) 40 16 ?_ ?_
            · go_region_law fail
              all_goals
                (refine ⟨rfl, ?_, ?_⟩
                 · simp only [List.take_succ_cons, List.take_zero, List.drop_succ_cons, List.drop_zero]
                   rfl
                 · simp only [List.take_succ_cons, List.take_zero, List.drop_succ_cons, List.drop_zero, List.cons_append, List.nil_append])
            · intro vs hvs
              obtain ⟨_, _, _, _, _, _, _, _, _, _, _, _, _, _, _, _, rfl⟩ := list16 hvs
              simp only [List.take_succ_cons, List.take_zero, List.drop_succ_cons, List.drop_zero, List.cons_append, List.nil_append]
              obtain ⟨g1, eg1, _, _, hpu1⟩ := hoZ.put (k := p) (by omega)
              injection eg1 with eg1
              injection eg1 with eg1
              subst eg1
              have ho1 := hpu1 x
              obtain ⟨g2, eg2, _, _, hpu2⟩ := ho1.put (k := k) (by omega)
              injection eg2 with eg2
              injection eg2 with eg2
              subst eg2
              have ho2 := hpu2 y
              have hI2 := HI.out.step hxy
              rw [← HK.out.2.1] at hI2
              have hb2 := ((hbZ.setCell (p := ⟨g, p, none⟩) hg (.int .u32 (nb32 x))).setCell (p := ⟨g, k, none⟩) hg (.int .u32 (nb32 y))).drew
              have ho3 : OwnW 40 w2.heap.size (((wZ.setCell ⟨g, p, none⟩ (.int .u32 (nb32 x))).setCell ⟨g, k, none⟩ (.int .u32 (nb32 y))).drew) (.slice (some ⟨g, 0, none⟩) (i + 1) gc) ((q.set p x).set (p + 1) y) := by
                rw [← HK.out.1]
                exact ho2
              have hql2 : ((q.set p x).set (p + 1) y).length = i + 1 := by rw [List.length_set, List.length_set]; exact hql
              have hAp : A'.length = p := HK.out.2.1.symm
              generalize (((wZ.setCell ⟨g, p, none⟩ (.int .u32 (nb32 x))).setCell ⟨g, k, none⟩ (.int .u32 (nb32 y))).drew) = wY at hb2 ho3 ⊢
              have HI2 := Lib.hid hI2
              clear hI2 hpu1 hpu2 ho1 ho2 hoZ hhZ hc1Z hc2Z hf1Z hf2Z hcs'
              go_wp2
              go_roundw
              case rel => exact ⟨p, _, A', y :: B, by omega, by go_num, hAp, hql2, HI2, ho3, hb2⟩
              case measure => simp [intOf]; omega
          · have hxy' : ¬ nb32 x < nb32 y := by show ¬ (x.toNat : Int) < (y.toNat : Int); omega
            have hsq : Po.Srt q := HI.out.done HO.out.1 (Po.last_lt (by
              have := HO.out.1
              rw [HI.out.o] at this
              exact (List.pairwise_append.1 this).1) (by
              have hne : y ≠ x := fun e => HX.out.1 (by rw [HI.out.o, ← e]; simp)
              have : y.toNat ≠ x.toNat := fun e => hne (BitVec.eq_of_toNat_eq e)
              omega))
            have HS := Lib.hid (And.intro hsq HPe.out)
            clear hsq
            go_wp2_with fail
            go_quiet (fail)
            go_wp2
            go_roundw
            case rel => exact ⟨i + 1, q, by omega, by go_num, hql, hown2.draws _, HS, below_draws hb3 _⟩
            case measure => simp [intOf]; omega
    · have hoi : m.take i = m := List.take_of_length_le (by omega)
      have hor : o = Po.rts lp := Po.perm_rts hpm (by have := HO.out.2; rwa [hoi] at this) HO.out.1
      have HR := Lib.hid hor
      clear hor hoi
      go_wp2
      go_ret
      exact ⟨⟨_, rfl, by rw [← HR.out]; exact hown.low hB2.size⟩, hB2.trans (hb.mono hB2.size)⟩
end Go.Proofs.YtamigcbodplmcaaGreat
