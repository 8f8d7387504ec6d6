/- law05's own helpers: sorted -/
import Derived.Test.YtamigcbodplmcaaSkO
import Derived.Test.YtamigcbodplmcaaRoS
import Derived.Deep.RegionLaw
namespace Go.Proofs.Ytamigcbodplmcaa
open Go Go.RowKit Go.ChangeShapes Go.WideShapes
theorem OwnW.take {T : TypeId} {B n c k : Nat} {a : Option Addr} {w : World} {l : List (BitVec 32)} (h : OwnW T B w (.slice a n c) l) (hk : k ≤ n) : OwnW T B w (.slice a k c) (l.take k) := by
  obtain ⟨h1, ⟨e, h0⟩ | ⟨g, cap, cur, e, hg, hh, hn, hm, hc, ht⟩⟩ := h
  · injection e with e1 e2 e3
    subst e1 e2 e3
    obtain rfl : k = 0 := by omega
    exact OwnW.nil _ _ _
  · injection e with e1 e2 e3
    subst e1 e2 e3
    have hl : (l.take k).length = k := by rw [List.length_take]; omega
    refine ⟨by rw [wlist_length, hl]; omega, Or.inr ⟨g, c, cur, by rw [hl], hg, hh, by omega, hm, hc, ?_⟩⟩
    rw [hl, Nat.mul_one]
    rw [Nat.mul_one] at ht
    have : wlist (l.take k) = (wlist l).take k := by unfold wlist; rw [List.map_take]
    rw [this, ← ht, List.take_take, Nat.min_eq_left (by omega)]
theorem step_append_cut {P : Program} {w : World} {ops : Array Oper} {o : Oper} {a : Act} {K : Act → World → Prop} {Q : Exit → Act → World → Prop} {E : Prop} (hgd : o.guard = none) (s x : Operand) (t : TypeId)
    (ho : o.op = .call { callee := .builtin .append, args := #[s, x], argTypes := #[t, t] })
    (T : TypeId) (ht : P.underlying t = some (.slice T)) (hinfo : (P.info? T).map (fun i => (i.zero, i.size, i.bytes)) = some (some (.int .u32 0), 1, 4))
    (B g L gc k : Nat) (l : List (BitVec 32)) (hk : k < L) (hl : l.length = L) (hs : a.eval s = .slice (some ⟨g, 0, none⟩) k gc) (hown : OwnW T B w (.slice (some ⟨g, 0, none⟩) L gc) l) (ad : Addr) (m c : Nat) (hx : a.eval x = .slice (some ad) m c)
    (hm : m = L - (k + 1)) (had : m ≠ 0 → ad = ⟨g, k + 1, none⟩) (h63 : L ≤ 1099511627776) (hbase : B ≤ w.heap.size)
    (h : ∀ v' w', OwnW T B w' v' (l.take k ++ l.drop (k + 1)) → w.grownBy w' (some g) → K (a.put o.dst v') w') : if Region.wanted o (yielded ops a.tmps) = true then Oper.wp P o a w K Q else E := by
  have hw : Region.wanted o (yielded ops a.tmps) = true := by simp [Region.wanted, hgd]
  rw [if_pos hw]
  obtain ⟨i0, hi, hz0, hz1, hz2⟩ := info_parts hinfo
  have hdl : (l.drop (k + 1)).length = m := by rw [List.length_drop]; omega
  have htl : (l.take k).length = k := by rw [List.length_take]; omega
  have hW := hown.fresh.words.2.2
  have hot := hown.take (k := k) (by omega)
  unfold OwnW at hot
  rw [htl] at hot
  refine wp_append_own w s x t ho B T i0 (.int .u32 0) 1 4 ht hi hz0 hz1 hz2 rfl (by decide) (.slice (some ⟨g, 0, none⟩) k gc) k (wlist (l.take k)) hs hot ad m c (wlist (l.drop (k + 1))) hx (by rw [wlist_length, hdl]; omega) (fun j u hu => ?_) (wlist_one _) (by unfold maxLen; omega) (by omega) hbase ?_
  · have hj : j < (l.drop (k + 1)).length := by
      have := (List.getElem?_eq_some_iff.1 hu).1
      rwa [wlist_length] at this
    rw [wlist_at _ j hj] at hu
    injection hu with hu
    subst hu
    rw [had (by omega)]
    obtain ⟨_, e, hz⟩ := hW.2.2 (k + 1 + j) (by omega)
    injection e with e
    subst e
    rw [Addr.add_mid, Nat.zero_add] at hz
    rw [Addr.add_mid, hz]
    congr 3
    rw [List.getD_eq_getElem?_getD, List.getD_eq_getElem?_getD, List.getElem?_drop]
  · intro v' w' h1 h2 _
    exact h v' w' (OwnW.all (by rw [htl, hdl]; exact h1)) h2
set_option maxRecDepth 100000 in
set_option maxHeartbeats 8000000 in
theorem sorted5_any (a : Option Addr) (n c : Nat) (l : List (BitVec 32)) (w : World) (ha : Words32 w a n l) (hs : n ≤ 1000) :
    Calls Try.prog 20 #[.slice a n c] w fun e w' => (∃ v, e = .returned v ∧ OwnW 54 w.heap.size w' v (Sk.odds [] l)) ∧ Below w.heap.size w w' := by
  have hl := ha.1
  have hfresh := Has.fresh w 54 #[]
  have hcp0 : ∀ d dc sd sn sc w0, (Builtin.copy_ #[22, 22] 3 #[.slice d 0 dc, .slice sd sn sc]).run Try.prog w0 = .ok (goInt 0) w0 := fun d dc sd sn sc w0 =>
    run_copy_none (P := Try.prog) w0 22 22 3 54 d sd 0 dc sn sc Try.underlying22 size_word (by simp)
  go_enter Try.func20, Try.ntmps20
  go_wp2
  go_loopw [3, 10] (fun vo iv wr => ∃ (i L : Nat) (o : List (BitVec 32)), i ≤ n ∧ iv = .int .i64 i ∧ o.length = L ∧ L ≤ i ∧ OwnW 54 w.heap.size wr vo o ∧ RowKit.Hid (o = Sk.odds [] (l.take i)) ∧ Below w.heap.size w wr) (fun _ iv _ => n - (intOf iv).toNat)
  case atStart => exact ⟨0, 0, [], Nat.zero_le _, rfl, rfl, Nat.le_refl _, OwnW.empty (Nat.le_refl _) hfresh, Lib.hid rfl, (Below.refl _ _).alloc (Nat.le_refl _) _⟩
  case round =>
    obtain ⟨i, L, o, hi, rfl, hol, hLi, hown, HO, hb⟩ := hrel
    obtain ⟨ga, gc, rfl, hgc, hg0, hgw⟩ := fresh_shapeK hown.fresh hol
    by_cases hlt : i < n
    · obtain ⟨ad, rfl, hx⟩ := (ha.below hb).2.2 i hlt
      obtain ⟨x, hxe⟩ : ∃ x, x = l.getD i 0 := ⟨_, rfl⟩
      rw [← hxe] at hx
      have hts : l.take (i + 1) = l.take i ++ [x] := by rw [hxe]; exact Po.take_snoc (by omega)
      have HX := Lib.hid hts
      clear hxe hts
      go_wp2
      rename World => wA
      go_loop [6] (fun kv => ∃ k : Nat, k ≤ L ∧ kv = .int .i64 k ∧ RowKit.Hid (∀ j, j < k → j < o.length → (o.getD j 0).toNat < x.toNat)) (fun kv => L - (intOf kv).toNat)
      case atStart => exact ⟨0, Nat.zero_le _, rfl, Lib.hid fun j hj => by omega⟩
      case round =>
        obtain ⟨k, hk, rfl, HJ⟩ := hrel
        by_cases hkL : k < L
        · obtain ⟨gd, rfl, hy⟩ := hgw.2.2 k hkL
          obtain ⟨y, hye⟩ : ∃ y, y = o.getD k 0 := ⟨_, rfl⟩
          rw [← hye] at hy
          have HY := Lib.hid hye
          have hkL' : (k : Int) < (L : Int) := by omega
          have hk0' : (0 : Int) ≤ (k : Int) := by omega
          clear hye
          by_cases hyx : y.toNat < x.toNat
          · have hyx' : nb32 y < nb32 x := by show (y.toNat : Int) < (x.toNat : Int); omega
            have HJ2 : RowKit.Hid (∀ j, j < k + 1 → j < o.length → (o.getD j 0).toNat < x.toNat) := Lib.hid fun j h1 h2 => by
              by_cases e : j = k
              · rw [e, ← HY.out]; exact hyx
              · exact HJ.out j (by omega) h2
            go_wp2
            go_round
            case rel => exact ⟨k + 1, by omega, by go_num, HJ2⟩
            case measure => simp [intOf]; omega
          · have hyx' : ¬ nb32 y < nb32 x := by show ¬ (y.toNat : Int) < (x.toNat : Int); omega
            by_cases hexy : y = x
            · have hyb : (y == x) = true := by simp [hexy]
              have HS := Lib.hid (show o.take k ++ o.drop (k + 1) = Sk.odds [] (l.take (i + 1)) by
                rw [HX.out, Sk.odds_snoc, ← HO.out]
                exact (Sk.tog_out (fun j hj => HJ.out j hj (by omega)) (by omega) (HY.out.symm.trans hexy)).symm)
              clear hexy
              go_wp2_with fail
              obtain ⟨g, e, hg, _, _⟩ := hown.put (k := k) hkL
              injection e with e
              subst e
              have hownD : OwnW 54 w.heap.size wA.drew (.slice (some ⟨g, 0, none⟩) L gc) o := hown
              have hbD : Below w.heap.size w wA.drew := hb.drew
              have hwk1 : IntKind.i64.wrap ((k : Int) + 1) = (k : Int) + 1 := IntWalk.i64_in _ (by omega)
              have hk1a : (0 : Int) ≤ (k : Int) + 1 := by omega
              have hk1b : (k : Int) + 1 ≤ (L : Int) := by omega
              have hk1c : (k : Int) ≤ (L : Int) := by omega
              have hk1d : (k : Int) ≤ (gc : Int) := by omega
              have hnk : ¬ gc = k := by omega
              have hlt1 : (o.take k ++ o.drop (k + 1)).length = L - 1 := by
                rw [List.length_append, List.length_take, List.length_drop]
                omega
              have hL6 : L ≤ 1099511627776 := by omega
              by_cases hcap : gc = k + 1
              · have hm0 : 0 = L - (k + 1) := by omega
                have hn0 : (0 : Nat) ≠ 0 → (⟨g, 0, none⟩ : Addr) = ⟨g, k + 1, none⟩ := fun h => absurd rfl h
                have HM := Lib.hid (And.intro hm0 hn0)
                clear hm0 hn0
                obtain rfl : L = k + 1 := by omega
                obtain rfl : gc = k + 1 := hcap
                have hk1e : (k : Int) ≤ (k : Int) + 1 := by omega
                have hk1f : (k : Int) + 1 ≤ (k : Int) + 1 := by omega
                have hk1g : (k + 1) - (k + 1) = 0 := by omega
                clear hk1b hk1c hk1d
                go_region_law (refine step_append_cut rfl (.tmp 42) (.tmp 46) 22 rfl 54 Try.underlying22 info_word w.heap.size g (k + 1) (k + 1) k o hkL hol (by simp [Act.eval, Act.put]) hownD ⟨g, 0, none⟩ 0 0 (by simp [Act.eval, Act.put]) HM.out.1 HM.out.2 hL6 hbD.size ?_; intro v' w2 h2 h3)
                all_goals
                  go_wp2
                  go_roundw
                  (case rel => exact ⟨i + 1, k, _, by omega, by go_num, hlt1, by omega, h2, HS, below_own_row hbD h3 (fun j e => by injection e with e; omega)⟩)
                  (case measure => simp [intOf]; omega)
              · go_region_law (refine step_append_cut rfl (.tmp 42) (.tmp 46) 22 rfl 54 Try.underlying22 info_word w.heap.size g L gc k o hkL hol (by simp [Act.eval, Act.put]) hownD ⟨g, k + 1, none⟩ (L - (k + 1)) (gc - (k + 1)) (by simp [Act.eval, Act.put]) rfl (fun _ => rfl) hL6 hbD.size ?_; intro v' w2 h2 h3)
                all_goals
                  go_wp2
                  go_roundw
                  (case rel => exact ⟨i + 1, L - 1, _, by omega, by go_num, hlt1, by omega, h2, HS, below_own_row hbD h3 (fun j e => by injection e with e; omega)⟩)
                  (case measure => simp [intOf]; omega)
            · have hyb : (y == x) = false := by simpa using hexy
              have HS := Lib.hid (show o.take k ++ x :: o.drop k = Sk.odds [] (l.take (i + 1)) by
                rw [HX.out, Sk.odds_snoc, ← HO.out]
                exact (Sk.tog_in (fun j hj => HJ.out j hj (by omega)) (by omega) (fun _ => by
                  have : y.toNat ≠ x.toNat := fun e => hexy (BitVec.eq_of_toNat_eq e)
                  show x.toNat < (o.getD k 0).toNat
                  rw [← HY.out]
                  omega)).symm)
              have hol1 : (o ++ [0#32]).length = L + 1 := by simp; exact hol
              have hle1 : o.length + 1 ≤ 1099511627776 := by omega
              clear hexy
              go_wp2_with (first
                | (at_builtin; refine wpList_append_word rfl (.tmp 48) (.tmp 49) 22 rfl 54 Try.underlying22 info_word w.heap.size _ o rfl hown 0#32 rfl hle1 hb.size ?_; intro v' w3 h2 h3; have hB3 := below_own_row (hb.alloc hb.size _) h3 hown.lt; obtain ⟨na, nc, rfl, hnc, hn0, hnw⟩ := fresh_shapeK h2.fresh hol1))
              obtain ⟨g, rfl, hg, ⟨cs, hh, hcs⟩, _⟩ := h2.put (k := k) (by omega)
              have hdl : (o.drop k).length = L - k := by rw [List.length_drop, hol]
              have hcpy := run_copy_cells (P := Try.prog) w3.drew 22 22 3 54 g (k + 1) (L - k) (nc - (k + 1)) ⟨g, k, none⟩ (L + 1 - k) (nc - k) (wlist (o.drop k)) Try.underlying22 size_word
                (by rw [wlist_length, hdl]; exact (Nat.min_eq_right (by omega)).symm)
                (fun j v hv => by
                  have hj : j < (o.drop k).length := by
                    have := (List.getElem?_eq_some_iff.1 hv).1
                    rwa [wlist_length] at this
                  obtain ⟨_, e, hz⟩ := hnw.2.2 (k + j) (by omega)
                  injection e with e
                  subst e
                  rw [Addr.add_mid, Nat.zero_add] at hz
                  rw [Addr.add_mid]
                  refine (show w3.drew.cell? _ = w3.cell? _ from rfl).trans (hz.trans ?_)
                  rw [← hv, wlist_at _ j hj]
                  congr 3
                  rw [List.getD_eq_getElem?_getD, List.getD_eq_getElem?_getD, List.getElem?_append_left (by omega), List.getElem?_drop])
                (fun j hj => by
                  rw [wlist_length, hdl] at hj
                  obtain ⟨_, e, hz⟩ := hnw.2.2 (k + 1 + j) (by omega)
                  injection e with e
                  subst e
                  rw [Addr.add_mid, Nat.zero_add] at hz
                  exact (congrArg Option.isSome hz).trans rfl)
                (fun j hj => hh.loose _) (wlist_one _)
              have hwk1 : IntKind.i64.wrap ((k : Int) + 1) = (k : Int) + 1 := IntWalk.i64_in _ (by omega)
              have hk1a : (0 : Int) ≤ (k : Int) + 1 := by omega
              have hk1b : (k : Int) + 1 ≤ (L : Int) + 1 := by omega
              have hk1c : (k : Int) ≤ (L : Int) + 1 := by omega
              have hnk : ¬ nc = k := by omega
              have hnk1 : ¬ nc = k + 1 := by omega
              refine wp_region_join (w3.drew.setCells g (k + 1) (wlist (o.drop k))) 51 8 ?_ ?_
              · go_region_law fail
                all_goals
                  (refine ⟨rfl, ?_, ?_⟩
                   · simp only [List.take_succ_cons, List.take_zero, List.drop_succ_cons, List.drop_zero]
                     rfl
                   · simp only [List.take_succ_cons, List.take_zero, List.drop_succ_cons, List.drop_zero, List.cons_append, List.nil_append])
              · intro vs hvs
                obtain ⟨_, _, _, _, _, _, _, _, rfl⟩ := list8 hvs
                simp only [List.take_succ_cons, List.take_zero, List.drop_succ_cons, List.drop_zero, List.cons_append, List.nil_append]
                have hoS : OwnW 54 w.heap.size (w3.drew.setCells g (k + 1) (wlist (o.drop k))) (.slice (some ⟨g, 0, none⟩) (L + 1) nc) (putL (o ++ [0]) (k + 1) (o.drop k)) := OwnW.putAll (w := w3.drew) (o.drop k) (k + 1) h2 (by omega)
                have hbS : Below w.heap.size w (w3.drew.setCells g (k + 1) (wlist (o.drop k))) := below_setAll hg (wlist (o.drop k)) (k + 1) hB3.drew
                generalize (w3.drew.setCells g (k + 1) (wlist (o.drop k))) = wS at hoS hbS ⊢
                obtain ⟨g', e, _, ⟨cs', hh', hcs'⟩, hput⟩ := hoS.put (k := k) (by omega)
                injection e with e
                injection e with e
                subst e
                have ho2 := hput x
                rw [insert_list o k x (by omega)] at ho2
                have hcl := hh'.cell_at (i := k) (Array.getElem?_eq_getElem hcs')
                have hlo := hh'.loose k
                have hb2 := hbS.setCell (p := ⟨g, k, none⟩) hg (.int .u32 (nb32 x))
                have hlen : (o.take k ++ x :: o.drop k).length = L + 1 := by
                  rw [List.length_append, List.length_cons, List.length_take, List.length_drop]
                  omega
                have hkS : (k : Int) < (L : Int) + 1 := by omega
                have hk0S : (0 : Int) ≤ (k : Int) := by omega
                clear hput hoS hbS
                go_wp2
                go_roundw
                case rel => exact ⟨i + 1, L + 1, _, by omega, by go_num, hlen, by omega, ho2, HS, hb2⟩
                case measure => simp [intOf]; omega
        · have hkk : k = L := by omega
          subst hkk
          have hkL' : ¬ (k : Int) < (k : Int) := by omega
          have HS := Lib.hid (show o.take k ++ x :: o.drop k = Sk.odds [] (l.take (i + 1)) by
            rw [HX.out, Sk.odds_snoc, ← HO.out]
            exact (Sk.tog_in (fun j hj => HJ.out j hj (by omega)) (by omega) (fun h => absurd h (by omega))).symm)
          have hol1 : (o ++ [0#32]).length = k + 1 := by simp; exact hol
          have hle1 : o.length + 1 ≤ 1099511627776 := by omega
          have hwk1 : IntKind.i64.wrap ((k : Int) + 1) = (k : Int) + 1 := IntWalk.i64_in _ (by omega)
          have hk1a : (0 : Int) ≤ (k : Int) + 1 := by omega
          have hk1b : (k : Int) + 1 ≤ (k : Int) + 1 := by omega
          have hk1c : (k : Int) ≤ (k : Int) + 1 := by omega
          go_wp2_with (first
            | (at_builtin; refine wpList_append_word rfl (.tmp 48) (.tmp 49) 22 rfl 54 Try.underlying22 info_word w.heap.size _ o rfl hown 0#32 rfl hle1 hb.size ?_; intro v' w3 h2 h3; have hB3 := below_own_row (hb.alloc hb.size _) h3 hown.lt; obtain ⟨na, nc, rfl, hnc, hn0, hnw⟩ := fresh_shapeK h2.fresh hol1))
          obtain ⟨g, rfl, hg, ⟨cs, hh, hcs⟩, _⟩ := h2.put (k := k) (by omega)
          by_cases hcap : nc = k + 1
          · subst hcap
            have hnk : ¬ k + 1 = k := by omega
            refine wp_region_join (w3.drew) 51 8 ?_ ?_
            · go_region_law fail
              all_goals
                (refine ⟨rfl, ?_, ?_⟩
                 · simp only [List.take_succ_cons, List.take_zero, List.drop_succ_cons, List.drop_zero]
                   rfl
                 · simp only [List.take_succ_cons, List.take_zero, List.drop_succ_cons, List.drop_zero, List.cons_append, List.nil_append])
            · intro vs hvs
              obtain ⟨_, _, _, _, _, _, _, _, rfl⟩ := list8 hvs
              simp only [List.take_succ_cons, List.take_zero, List.drop_succ_cons, List.drop_zero, List.cons_append, List.nil_append]
              have hoS : OwnW 54 w.heap.size (w3.drew) (.slice (some ⟨g, 0, none⟩) (k + 1) (k + 1)) (putL (o ++ [0]) (k + 1) (o.drop k)) := by rw [List.drop_of_length_le (by omega)]; exact h2
              have hbS : Below w.heap.size w (w3.drew) := hB3.drew
              generalize (w3.drew) = wS at hoS hbS ⊢
              obtain ⟨g', e, _, ⟨cs', hh', hcs'⟩, hput⟩ := hoS.put (k := k) (by omega)
              injection e with e
              injection e with e
              subst e
              have ho2 := hput x
              rw [insert_list o k x (by omega)] at ho2
              have hcl := hh'.cell_at (i := k) (Array.getElem?_eq_getElem hcs')
              have hlo := hh'.loose k
              have hb2 := hbS.setCell (p := ⟨g, k, none⟩) hg (.int .u32 (nb32 x))
              have hlen : (o.take k ++ x :: o.drop k).length = k + 1 := by
                rw [List.length_append, List.length_cons, List.length_take, List.length_drop]
                omega
              have hkS : (k : Int) < (k : Int) + 1 := by omega
              have hk0S : (0 : Int) ≤ (k : Int) := by omega
              clear hput hoS hbS
              go_wp2
              go_roundw
              case rel => exact ⟨i + 1, k + 1, _, by omega, by go_num, hlen, by omega, ho2, HS, hb2⟩
              case measure => simp [intOf]; omega
          · have hnk : ¬ nc = k := by omega
            refine wp_region_join (w3.drew) 51 8 ?_ ?_
            · go_region_law fail
              all_goals
                (refine ⟨rfl, ?_, ?_⟩
                 · simp only [List.take_succ_cons, List.take_zero, List.drop_succ_cons, List.drop_zero]
                   rfl
                 · simp only [List.take_succ_cons, List.take_zero, List.drop_succ_cons, List.drop_zero, List.cons_append, List.nil_append])
            · intro vs hvs
              obtain ⟨_, _, _, _, _, _, _, _, rfl⟩ := list8 hvs
              simp only [List.take_succ_cons, List.take_zero, List.drop_succ_cons, List.drop_zero, List.cons_append, List.nil_append]
              have hoS : OwnW 54 w.heap.size (w3.drew) (.slice (some ⟨g, 0, none⟩) (k + 1) nc) (putL (o ++ [0]) (k + 1) (o.drop k)) := by rw [List.drop_of_length_le (by omega)]; exact h2
              have hbS : Below w.heap.size w (w3.drew) := hB3.drew
              generalize (w3.drew) = wS at hoS hbS ⊢
              obtain ⟨g', e, _, ⟨cs', hh', hcs'⟩, hput⟩ := hoS.put (k := k) (by omega)
              injection e with e
              injection e with e
              subst e
              have ho2 := hput x
              rw [insert_list o k x (by omega)] at ho2
              have hcl := hh'.cell_at (i := k) (Array.getElem?_eq_getElem hcs')
              have hlo := hh'.loose k
              have hb2 := hbS.setCell (p := ⟨g, k, none⟩) hg (.int .u32 (nb32 x))
              have hlen : (o.take k ++ x :: o.drop k).length = k + 1 := by
                rw [List.length_append, List.length_cons, List.length_take, List.length_drop]
                omega
              have hkS : (k : Int) < (k : Int) + 1 := by omega
              have hk0S : (0 : Int) ≤ (k : Int) := by omega
              clear hput hoS hbS
              go_wp2
              go_roundw
              case rel => exact ⟨i + 1, k + 1, _, by omega, by go_num, hlen, by omega, ho2, HS, hb2⟩
              case measure => simp [intOf]; omega
    · have hti : l.take i = l := List.take_of_length_le (by omega)
      have hset : o = Sk.odds [] l := by have := HO.out; rwa [hti] at this
      have HR := Lib.hid hset
      clear hset hti
      go_wp2
      go_ret
      exact ⟨⟨_, rfl, by rw [← HR.out]; exact hown⟩, hb⟩
end Go.Proofs.Ytamigcbodplmcaa
