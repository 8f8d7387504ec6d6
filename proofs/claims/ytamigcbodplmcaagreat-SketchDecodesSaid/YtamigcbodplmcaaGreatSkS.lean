/- the reference's solve -/
import Derived.Test.YtamigcbodplmcaaGreatSkE
import Derived.Deep.CutRange
namespace Go.Proofs.YtamigcbodplmcaaGreat
open Go Go.RowKit Go.ChangeShapes Go.WideShapes
/-- what solve answers -/
def Solve5 (B L : Nat) (M : Nat → Nat → Po.E) (e : Ending) (w' : World) : Prop := ∃ v ok, e = .returned (.tuple #[v, .bool ok]) ∧
  (ok = true → ∃ x, OwnW 40 B w' v x ∧ x.length = L ∧ ∀ i, i < L → Ms.dotN (M i) (Po.cf x) L = M i L) ∧
  (ok = false → ∃ (z : Nat → Po.E) (j : Nat), j < L ∧ z j = 1 ∧ ∀ i, i < L → Ms.dotN (M i) z L = 0)
set_option maxRecDepth 100000 in
set_option maxHeartbeats 4000000 in
theorem rsolve5_any (a : Option Addr) (n c L : Nat) (l : List (BitVec 32)) (w : World) (h : Words32 w a n l) (hn : n ≤ 1000) (hL : 2 * L ≤ n) :
    Calls Tryz.prog 21 #[.slice a n c, .int .i64 L] w fun e w' => Solve5 w.heap.size L (Ms.sysR (Po.cf l) L) e w' ∧ Below w.heap.size w w' := by
  have hl := h.1
  obtain ⟨N, hN⟩ : ∃ N, 2 * L = N := ⟨_, rfl⟩
  have hNw : IntKind.i64.wrap (2 * (L : Int)) = (N : Int) := by rw [IntWalk.i64_in _ (by omega)]; omega
  have hNi : 2 * (L : Int) = (N : Int) := by omega
  have hLN : L ≤ N := by omega
  have hNn : N ≤ n := by omega
  obtain ⟨M, hM⟩ : ∃ M, M = Ms.sysR (Po.cf l) L := ⟨_, rfl⟩
  have HM := Lib.hid hM
  rw [← hM]
  clear hM
  go_enter Tryz.func21, Tryz.ntmps21
  go_wp2
  go_loopw [6, 7] (fun v i wr => ∃ (q : Nat) (g cp : Nat → Nat), L ≤ q ∧ q ≤ N ∧ i = .int .i64 q ∧ Bld 22 40 w.heap.size wr v (q - L) (L + 1) g cp M ∧ Below w.heap.size w wr) (fun _ i _ => N - (intOf i).toNat)
  case atStart => exact ⟨L, fun _ => 0, fun _ => 0, Nat.le_refl _, hLN, rfl, by rw [Nat.sub_self]; exact Bld.nil _ _ _ _ _ _ _ _, Below.refl _ _⟩
  case round =>
    obtain ⟨q, g, cp, hq1, hq2, rfl, hbl, hbw⟩ := hrel
    rename Value => xv
    by_cases hlt : q < N
    · go_wp2
      rename World => wA
      go_loopw [8, 9] (fun x i wr => ∃ j : Nat, 1 ≤ j ∧ j ≤ L + 1 ∧ i = .int .i64 j ∧ OwnW 40 wA.heap.size wr x (Po.mk (j - 1) (M (q - L))) ∧ Below wA.heap.size wA wr) (fun _ i _ => L + 1 - (intOf i).toNat)
      case atStart => exact ⟨1, Nat.le_refl _, by omega, rfl, OwnW.nil _ _ _, Below.refl _ _⟩
      case round =>
        obtain ⟨j, hj1, hj2, rfl, hown, hb2⟩ := hrel
        have hlen : (Po.mk (j - 1) (M (q - L))).length = j - 1 := Po.mk_length _ _
        have hbw2 := hbw.trans (hb2.mono hbw.size)
        by_cases hlt2 : j ≤ L
        · obtain ⟨p, hp⟩ : ∃ p, p = q - j := ⟨_, rfl⟩
          have hpn : p < n := by omega
          obtain ⟨ad, rfl, hx⟩ := h.2.2 p hpn
          obtain ⟨z, hz⟩ : ∃ z, z = l.getD p 0 := ⟨_, rfl⟩
          rw [← hz] at hx
          have hcell := (hbw2.cell (isSome_lt (by rw [hx]; rfl))).trans hx
          have hwr : IntKind.i64.wrap ((q : Int) - (j : Int)) = (p : Int) := by rw [IntWalk.i64_in _ (by omega)]; omega
          have hp0 : (0 : Int) ≤ (p : Int) := by omega
          have hpn' : (p : Int) < (n : Int) := by omega
          have hzM : z = M (q - L) (j - 1) := by
            rw [hz, HM.out]
            unfold Ms.sysR
            rw [if_pos (by omega), show q - L + L - 1 - (j - 1) = p from by omega]
            rfl
          have HZ := Lib.hid hzM
          have hle : (Po.mk (j - 1) (M (q - L))).length + 1 ≤ 1099511627776 := by omega
          clear hzM hz hx hp
          go_wp2_with (first
            | (at_builtin; refine wpList_append_word rfl (.tmp 32) (.tmp 39) 22 rfl 40 Tryz.underlying22 info_wd wA.heap.size _ (Po.mk (j - 1) (M (q - L))) rfl hown z rfl hle hb2.size ?_; intro v' w2 h2 h3))
          go_roundw
          case rel => exact ⟨j + 1, by omega, by omega, by go_num, by rw [show j + 1 - 1 = j - 1 + 1 from by omega]; exact own_snoc h2 HZ.out, below_own_row (hb2.alloc hb2.size _) h3 hown.lt⟩
          case measure => simp [intOf]; omega
        · obtain ⟨jj, hjj⟩ : ∃ jj, jj = L + 1 := ⟨_, rfl⟩
          obtain rfl : j = jj := by omega
          have hjm : j - 1 + 1 = L + 1 := by omega
          have hll : (Po.mk (L + 1) (M (q - L))).length = L + 1 := Po.mk_length _ _
          obtain ⟨ad, rfl, hx⟩ := h.2.2 q (by omega)
          obtain ⟨z, hz⟩ : ∃ z, z = l.getD q 0 := ⟨_, rfl⟩
          rw [← hz] at hx
          have hcell := (hbw2.cell (isSome_lt (by rw [hx]; rfl))).trans hx
          have hzM : z = M (q - L) (j - 1) := by
            rw [hz, HM.out]
            unfold Ms.sysR
            rw [if_neg (by omega), show q - L + L = q from by omega]
            rfl
          have HZ := Lib.hid hzM
          have hle : (Po.mk (j - 1) (M (q - L))).length + 1 ≤ 1099511627776 := by omega
          have hle2 : q - L + 1 ≤ 1099511627776 := by omega
          have hbl2 := hbl.below hb2
          clear hzM hz hx
          go_wp2_with (first
            | (at_builtin; refine wpList_append_word rfl (.tmp 42) (.tmp 47) 22 rfl 40 Tryz.underlying22 info_wd wA.heap.size _ (Po.mk (j - 1) (M (q - L))) rfl hown z rfl hle hb2.size ?_; intro v' w2 h2 h3; have hb3 := below_own_row (hb2.alloc hb2.size _) h3 hown.lt; have h4 := own_snoc h2 HZ.out; rw [hjm] at h4; have hbl3 := hbl.below hb3; obtain ⟨va, vc, rfl, hvc, hvw⟩ := own_shape h4 hll)
            | (at_builtin; refine wpList_append_rowv rfl (.tmp 41) (.tmp 49) 65 rfl 22 Tryz.underlying65 info_row w.heap.size _ (q - L) _ rfl hbl3.own (.slice va _ vc) rfl rfl hle2 (Nat.le_trans hbw.size hb3.size) ?_; intro v'' w3 h5 h6))
          obtain ⟨g', cp', hb4⟩ := (hbl3.below ((Below.refl _ _).alloc (Nat.le_refl _) _)).snoc (by decide) (World.ownsRow.alloc h4 _) hbw.size (fun i hi => (hbl.rws.row i hi).lt) hll (Nat.succ_pos _) (fun i hi => by
            show _ = Po.cf (Po.mk (L + 1) (M (q - L))) i
            rw [Po.cf_mk, if_pos hi]) h5 h6
          go_roundw
          case rel => exact ⟨q + 1, g', cp', by omega, by omega, by go_num, by rw [show q + 1 - L = q - L + 1 from by omega]; exact hb4, below_own_row ((hbw.trans (hb3.mono hbw.size)).alloc (Nat.le_trans hbw.size hb3.size) _) h6 (fun k hk => (World.ownsRow.lt hbl3.own k hk).1)⟩
          case measure => simp [intOf]; omega
    · obtain rfl : q = N := by omega
      obtain ⟨m, hm⟩ : ∃ m, m = q - L := ⟨_, rfl⟩
      rw [← hm] at hbl
      obtain ⟨ra, C, rfl, hmC, hmo⟩ := hbl.matO
      have hm0 : m ≤ 1000 := by omega
      have hmL : m = L := by omega
      clear hbl hm
      subst hmL
      have hE0 := Lib.hid (And.intro (Sk.Eqv.refl m M) (show Sk.Unit m 0 M from fun i _ j hj => by omega))
      go_wp2
      rename World => wA
      clear h hNn hNi hNw hLN hL hn
      have hbr := hbw
      clear hbw
      go_loopw [10] (fun co wr => ∃ (col : Nat) (g cp : Nat → Nat) (R : Nat → Nat → BitVec 32), col ≤ m ∧ co = .int .i64 col ∧ MatO 22 40 w.heap.size wr ra m (m + 1) g cp R ∧ RowKit.Hid (Sk.Eqv m M R ∧ Sk.Unit m col R) ∧ Below w.heap.size w wr) (fun co _ => m - (intOf co).toNat)
      case atStart => exact ⟨0, g, cp, M, Nat.zero_le _, rfl, hmo, hE0, hbr⟩
      case round =>
        obtain ⟨col, g1, cp1, R, hcol, rfl, hmt, HE, hbr⟩ := hrel
        clear hmo hE0
        by_cases hlt : col < m
        · go_wp2
          rename World => wB
          go_loop [11, 12] (fun ks is => ∃ (i : Nat) (kk : Int), col ≤ i ∧ i ≤ m ∧ is = .int .i64 i ∧ ks = .int .i64 kk ∧ ((kk = -1 ∧ ∀ i', col ≤ i' → i' < i → R i' col = 0) ∨ (∃ k : Nat, kk = k ∧ col ≤ k ∧ k < i ∧ R k col ≠ 0))) (fun _ is => m - (intOf is).toNat)
          case atStart => exact ⟨col, -1, Nat.le_refl _, hcol, rfl, rfl, Or.inl ⟨rfl, fun i' h1 h2 => by omega⟩⟩
          case round =>
            obtain ⟨i, kk, hi1, hi2, rfl, rfl, hor⟩ := hrel
            by_cases hlti : i < m
            · obtain ⟨G, rfl, hmat⟩ := hmt (by omega)
              have hcA := hmat.cellA hlti
              have hcR := hmat.cellR (j := col) hlti (by omega)
              have hi3 : (i : Int) < (m : Int) := by omega
              have hc3 : (col : Int) < (m : Int) + 1 := by omega
              obtain ⟨x, hx⟩ : ∃ x, x = R i col := ⟨_, rfl⟩
              rw [← hx] at hcR
              have HX := Lib.hid hx
              clear hx
              by_cases hx0 : x = 0
              · have hxb : (x != 0#32) = false := by rw [hx0]; rfl
                have HO : RowKit.Hid ((kk = -1 ∧ ∀ i', col ≤ i' → i' < i + 1 → R i' col = 0) ∨ (∃ k : Nat, kk = k ∧ col ≤ k ∧ k < i + 1 ∧ R k col ≠ 0)) := Lib.hid (by
                  rcases hor with ⟨h1, h2⟩ | ⟨k, h1, h2, h3, h4⟩
                  · refine Or.inl ⟨h1, fun i' g1 g2 => ?_⟩
                    by_cases e : i' = i
                    · rw [e, ← HX.out, hx0]
                    · exact h2 i' g1 (by omega)
                  · exact Or.inr ⟨k, h1, h2, by omega, h4⟩)
                clear hor hx0
                go_wp2
                go_round
                case rel => exact ⟨i + 1, kk, by omega, by omega, by go_num, rfl, HO.out⟩
                case measure => simp [intOf]; omega
              · have hxb : (x != 0#32) = true := by simpa using hx0
                have HO : RowKit.Hid (R i col ≠ 0) := Lib.hid (by rw [← HX.out]; exact hx0)
                clear hor hx0
                go_wp2
                go_round
                case rel => exact ⟨i + 1, i, by omega, by omega, by go_num, rfl, Or.inr ⟨i, rfl, hi1, by omega, HO.out⟩⟩
                case measure => simp [intOf]; omega
            · obtain rfl : i = m := by omega
              have hi3 : ¬ (i : Int) < (i : Int) := by omega
              rcases hor with ⟨rfl, hall⟩ | ⟨k, rfl, hk1, hk2, hk3⟩
              · have HA := Lib.hid hall
                clear hall
                have hst : ∃ (z : Nat → Po.E) (j : Nat), j < i ∧ z j = 1 ∧ ∀ t, t < i → Ms.dotN (M t) z i = 0 := by
                  obtain ⟨z, hz1, hz2⟩ := HE.out.2.stuck hlt (fun i' h1 h2 => HA.out i' h1 h2)
                  exact ⟨z, col, hlt, hz1, (HE.out.1 _ (Sk.form_ker z i)).2 hz2⟩
                have HST := Lib.hid hst
                clear hst
                go_wp2
                go_ret2
                exact ⟨show Solve5 _ _ _ _ _ from ⟨_, false, rfl, (fun e => by cases e), fun _ => HST.out⟩, hbr⟩
              · have hk4 : ¬ (k : Int) < 0 := by omega
                obtain ⟨G, rfl, hmat⟩ := hmt (by omega)
                have hcK := hmat.cellA hk2
                have hcU := hmat.cellA hlt
                have hlA := hmat.looseA col
                have hlB := hmat.looseA k
                have hk5 : (k : Int) < (i : Int) := by omega
                have hu5 : (col : Int) < (i : Int) := by omega
                obtain ⟨sx, hsx⟩ := hmat.cellSet col (.slice (some ⟨g1 k, 0, none⟩) (i + 1) (cp1 k)) hk2
                have HK := Lib.hid hk3
                clear hk3
                go_wp2
                refine wp_region_join (((wB.setCell ⟨G, col, none⟩ (.slice (some ⟨g1 k, 0, none⟩) (i + 1) (cp1 k))).setCell ⟨G, k, none⟩ (.slice (some ⟨g1 col, 0, none⟩) (i + 1) (cp1 col))).drew) 73 14 ?_ ?_
                · go_region_law fail
                  all_goals
                    (refine ⟨rfl, ?_, ?_⟩
                     · simp only [List.take_succ_cons, List.take_zero, List.drop_succ_cons, List.drop_zero]
                       rfl
                     · simp only [List.take_succ_cons, List.take_zero, List.drop_succ_cons, List.drop_zero, List.cons_append, List.nil_append])
                · intro vs hvs
                  obtain ⟨_, _, _, _, _, _, _, _, _, _, _, _, _, _, rfl⟩ := list14 hvs
                  simp only [List.take_succ_cons, List.take_zero, List.drop_succ_cons, List.drop_zero, List.cons_append, List.nil_append]
                  have hm2 := (hmat.swap (by decide) hlt hk2).drawn (Drawn.refl _).drew
                  have hb2 : Below w.heap.size w (((wB.setCell ⟨G, col, none⟩ (.slice (some ⟨g1 k, 0, none⟩) (i + 1) (cp1 k))).setCell ⟨G, k, none⟩ (.slice (some ⟨g1 col, 0, none⟩) (i + 1) (cp1 col))).drew) := ((hbr.setCell (p := ⟨G, col, none⟩) hmat.lowG _).setCell (p := ⟨G, k, none⟩) hmat.lowG _).drew
                  have hE2 : Sk.Eqv i M (fun t => R (swp col k t)) ∧ Sk.Unit i col (fun t => R (swp col k t)) := ⟨HE.out.1.trans (Sk.Eqv.swap R hlt hk2), HE.out.2.swap hlt hk2 hk1⟩
                  have hp2 : (fun t => R (swp col k t)) col col ≠ 0 := by show R (swp col k col) col ≠ 0; rw [show swp col k col = k from if_pos rfl]; exact HK.out
                  generalize ((wB.setCell ⟨G, col, none⟩ (.slice (some ⟨g1 k, 0, none⟩) (i + 1) (cp1 k))).setCell ⟨G, k, none⟩ (.slice (some ⟨g1 col, 0, none⟩) (i + 1) (cp1 col))).drew = wC at hm2 hb2 ⊢
                  generalize (fun t => R (swp col k t)) = R2 at hm2 hE2 hp2
                  generalize (fun t => g1 (swp col k t)) = g2 at hm2
                  generalize (fun t => cp1 (swp col k t)) = cp2 at hm2
                  have HE2 := Lib.hid hE2
                  have HP2 := Lib.hid hp2
                  clear hmt hmat hsx hbr hcK hcU hlA hlB hE2 hp2 HE HK
                  have hcA := hm2.cellA hlt
                  have hcR := hm2.cellR (j := col) hlt (by omega)
                  have hc3 : (col : Int) < (i : Int) + 1 := by omega
                  go_wp2_with (first | (go_at_call 39; refine (rinverse_any _ _).mono ?_; rintro e w1 ⟨rfl, rfl⟩))
                  obtain ⟨ci, hci⟩ : ∃ ci, Gf.inv (R2 col col) = ci := ⟨_, rfl⟩
                  rw [hci]
                  have HCI := Lib.hid hci
                  clear hci hcA hcR
                  rename World => wD
                  go_loopw [14] (fun js wr => ∃ j : Nat, j ≤ i + 1 ∧ js = .int .i64 j ∧ Mat 22 40 w.heap.size wr G i (i + 1) g2 cp2 (Sk.scM R2 col ci j) ∧ Below w.heap.size w wr) (fun js _ => i + 1 - (intOf js).toNat)
                  case atStart => exact ⟨0, Nat.zero_le _, rfl, by rw [Sk.scM_zero]; exact hm2, hb2⟩
                  case round =>
                    obtain ⟨j, hj, rfl, hmj, hbj⟩ := hrel
                    by_cases hltj : j ≤ i
                    · have hcA := hmj.cellA hlt
                      have hcU := hmj.cellR (j := j) hlt (by omega)
                      rw [Sk.scM_at] at hcU
                      have hlT := hmj.looseR hlt j
                      have hj5 : (j : Int) < (i : Int) + 1 := by omega
                      go_wp2_with (first | (go_at_call 20; refine (rmul_any _ _ _).mono ?_; rintro e w1 ⟨rfl, rfl⟩))
                      have hmS := hmj.setR (by decide) hlt j (Gf.mul (R2 col j) ci)
                      have hbS := hbj.setCell (p := ⟨g2 col, j, none⟩) (hmj.rws.low col hlt) (.int .u32 (nb32 (Gf.mul (R2 col j) ci)))
                      rw [Sk.scM_step] at hmS
                      refine wp_region_still_tail 15 rfl (by kernel_rfl) ?_
                      simp only [List.take_succ_cons, List.take_zero, List.drop_succ_cons, List.drop_zero]
                      repeat still_step
                      still_call ((rmul_any _ _ _).mono fun e w' h => ⟨h.1, h.2.symm⟩)
                      repeat still_step
                      refine wpStill_nil ?_
                      go_wp2
                      go_roundw
                      case rel => exact ⟨j + 1, by omega, by go_num, hmS.drawn (Drawn.refl _).drew, hbS.drew⟩
                      case measure => simp [intOf]; omega
                    · have hjj : j = i + 1 := by omega
                      have hjl : ¬ (j : Int) ≤ (i : Int) := by omega
                      have hm3 := hmj.congr (R' := Sk.sclR R2 col ci) (fun i' _ j' hj' => by rw [hjj]; exact Sk.scM_end R2 col ci (i + 1) i' j' hj')
                      have hE3 : Sk.Eqv i M (Sk.sclR R2 col ci) ∧ Sk.Unit i col (Sk.sclR R2 col ci) := ⟨HE2.out.1.trans (Sk.Eqv.scale R2 (by rw [← HCI.out]; exact Sk.inv_ne HP2.out)), HE2.out.2.scale hlt⟩
                      have hu3 : Sk.sclR R2 col ci col col = 1 := by
                        unfold Sk.sclR
                        rw [if_pos rfl]
                        show Gf.mul ci (R2 col col) = 1
                        rw [← HCI.out, Gf.mul_comm]
                        exact Gf.mul_inv HP2.out
                      generalize Sk.sclR R2 col ci = R3 at hm3 hE3 hu3
                      have HE3 := Lib.hid (And.intro hE3 hu3)
                      have HJ := Lib.hid hjj
                      clear hjj hmj hE3 hu3 HE2 HP2 HCI
                      go_wp2
                      rename World => wE
                      go_loopw [15] (fun is wr => ∃ t : Nat, t ≤ i ∧ is = .int .i64 t ∧ Mat 22 40 w.heap.size wr G i (i + 1) g2 cp2 (Sk.clrR R3 col t) ∧ Below w.heap.size w wr) (fun is _ => i - (intOf is).toNat)
                      case atStart => exact ⟨0, Nat.zero_le _, rfl, by rw [Sk.clrR_zero]; exact hm3, hbj⟩
                      case round =>
                        obtain ⟨t, ht2, rfl, hmt, hbt⟩ := hrel
                        clear hm3 hbj
                        by_cases hltt : t < i
                        · have hcA := hmt.cellA hltt
                          have hcR := hmt.cellR (j := col) hltt (by omega)
                          rw [show Sk.clrR R3 col t t col = R3 t col from by unfold Sk.clrR; rw [if_neg (by omega)]] at hcR
                          have ht5 : (t : Int) < (i : Int) := by omega
                          by_cases htc : t = col
                          · have htb : ((t : Int) != (col : Int)) = false := by simp [htc]
                            have hms := hmt.congr (R' := Sk.clrR R3 col (t + 1)) (fun i' _ j' _ => by
                              unfold Sk.clrR
                              by_cases e : i' = col
                              · rw [if_neg (by omega), if_neg (by omega)]
                              · by_cases e2 : i' < t
                                · rw [if_pos ⟨e, e2⟩, if_pos ⟨e, by omega⟩]
                                · rw [if_neg (by omega), if_neg (by omega)])
                            have HT := Lib.hid htc
                            clear htc
                            go_wp2
                            rename World => wF
                            go_loopw [17] (fun js wr => js = .int .i64 0 ∧ wr = wF) (fun _ _ => 0)
                            case atStart => exact ⟨rfl, rfl⟩
                            case round =>
                              obtain ⟨rfl, rfl⟩ := hrel
                              have h0i : (0 : Int) ≤ (i : Int) := by omega
                              go_wp2
                              go_roundw
                              case rel => exact ⟨t + 1, by omega, by go_num, hms, hbt⟩
                              case measure => simp [intOf]; omega
                          · have htb : ((t : Int) != (col : Int)) = true := by rw [bne_iff_ne]; omega
                            go_wp2
                            rename World => wF
                            go_loopw [17] (fun js wr => ∃ j : Nat, j ≤ i + 1 ∧ js = .int .i64 j ∧ Mat 22 40 w.heap.size wr G i (i + 1) g2 cp2 (Sk.clM R3 col t j) ∧ Below w.heap.size w wr) (fun js _ => i + 1 - (intOf js).toNat)
                            case atStart => exact ⟨0, Nat.zero_le _, rfl, by rw [Sk.clM_zero]; exact hmt, hbt⟩
                            case round =>
                              obtain ⟨j, hj, rfl, hmj, hbj⟩ := hrel
                              clear hcA hcR hmt hbt
                              by_cases hltj : j ≤ i
                              · have hcA := hmj.cellA hltt
                                have hcB := hmj.cellA hlt
                                have hcT := hmj.cellR (j := j) hltt (by omega)
                                have hcU := hmj.cellR (j := j) hlt (by omega)
                                rw [Sk.clM_i] at hcT
                                rw [Sk.clM_u R3 htc] at hcU
                                have hlT := hmj.looseR hltt j
                                have hj5 : (j : Int) < (i : Int) + 1 := by omega
                                go_wp2_with (first | (go_at_call 20; refine (rmul_any _ _ _).mono ?_; rintro e w1 ⟨rfl, rfl⟩))
                                have hmS := hmj.setR (by decide) hltt j (R3 t j ^^^ Gf.mul (R3 t col) (R3 col j))
                                have hbS := hbj.setCell (p := ⟨g2 t, j, none⟩) (hmj.rws.low t hltt) (.int .u32 (nb32 (R3 t j ^^^ Gf.mul (R3 t col) (R3 col j))))
                                rw [Sk.clM_step R3 htc] at hmS
                                refine wp_region_still_tail 23 rfl (by kernel_rfl) ?_
                                simp only [List.take_succ_cons, List.take_zero, List.drop_succ_cons, List.drop_zero]
                                repeat still_step
                                still_call ((rmul_any _ _ _).mono fun e w' h => ⟨h.1, h.2.symm⟩)
                                repeat still_step
                                refine wpStill_nil ?_
                                go_wp2
                                go_roundw
                                case rel => exact ⟨j + 1, by omega, by go_num, hmS.drawn (Drawn.refl _).drew, hbS.drew⟩
                                case measure => simp [intOf]; omega
                              · have hjj2 : j = i + 1 := by omega
                                have hjl2 : ¬ (j : Int) ≤ (i : Int) := by omega
                                have hmf := hmj.congr (R' := Sk.clrR R3 col (t + 1)) (fun i' _ j' hj' => by rw [hjj2]; exact Sk.clM_end R3 htc (i + 1) i' j' hj')
                                have HJ2 := Lib.hid hjj2
                                clear hjj2 hmj
                                go_wp2
                                go_roundw
                                case rel => exact ⟨t + 1, by omega, by go_num, hmf, hbj⟩
                                case measure => simp [intOf]; omega
                        · have hti : t = i := by omega
                          have htl : ¬ (t : Int) < (i : Int) := by omega
                          rw [hti] at hmt
                          have HT := Lib.hid hti
                          clear hti
                          go_wp2
                          go_roundw
                          case rel => exact ⟨col + 1, g2, cp2, Sk.clrR R3 col i, by omega, by go_num, fun _ => ⟨G, rfl, hmt⟩, Lib.hid ⟨HE3.out.1.1.trans (Sk.Eqv.clear R3 hlt), HE3.out.1.2.clear hlt HE3.out.2⟩, hbt⟩
                          case measure => simp [intOf]; omega
        · have hcl : col = m := by omega
          have hnc : ¬ (col : Int) < (m : Int) := by omega
          have HE4 := HE.out
          rw [hcl] at HE4
          have HE5 := Lib.hid HE4
          have HC := Lib.hid hcl
          clear hcl HE4 HE
          go_wp2
          rename World => wB
          go_loopw [18, 19] (fun vo is wr => ∃ i : Nat, i ≤ m ∧ is = .int .i64 i ∧ OwnW 40 wB.heap.size wr vo (Po.mk i (fun i => R i m)) ∧ Below wB.heap.size wB wr) (fun _ is _ => m - (intOf is).toNat)
          case atStart => exact ⟨0, Nat.zero_le _, rfl, OwnW.nil _ _ _, Below.refl _ _⟩
          case round =>
            obtain ⟨i, hi2, rfl, hown, hb2⟩ := hrel
            have hlen : (Po.mk i (fun i => R i m)).length = i := Po.mk_length _ _
            by_cases hlti : i < m
            · obtain ⟨G, rfl, hmat⟩ := hmt (by omega)
              have hmat2 := hmat.below hb2
              have hcA := hmat2.cellA hlti
              have hcR := hmat2.cellR (j := m) hlti (by omega)
              have hi3 : (i : Int) < (m : Int) := by omega
              have hc3 : (m : Int) < (m : Int) + 1 := by omega
              have hle : (Po.mk i (fun i => R i m)).length + 1 ≤ 1099511627776 := by omega
              obtain ⟨x, hx⟩ : ∃ x, x = R i m := ⟨_, rfl⟩
              rw [← hx] at hcR
              have HX := Lib.hid hx
              clear hx
              go_wp2_with (first
                | (at_builtin; refine wpList_append_word rfl (.tmp 165) (.tmp 173) 22 rfl 40 Tryz.underlying22 info_wd wB.heap.size _ (Po.mk i (fun i => R i m)) rfl hown x rfl hle hb2.size ?_; intro v' w2 h2 h3))
              go_roundw
              case rel => exact ⟨i + 1, by omega, by go_num, own_snoc h2 HX.out, below_own_row (hb2.alloc hb2.size _) h3 hown.lt⟩
              case measure => simp [intOf]; omega
            · have him : i = m := by omega
              have hi3 : ¬ (i : Int) < (m : Int) := by omega
              have hfin : ∀ t, t < m → Ms.dotN (M t) (Po.cf (Po.mk m (fun i => R i m))) m = M t m := fun t ht => by
                rw [← HE5.out.2.done HE5.out.1 t ht]
                exact Ms.dotN_congr m (fun _ _ => rfl) (fun j hj => by rw [Po.cf_mk, if_pos hj])
              rw [him] at hown
              have HF := Lib.hid (And.intro hfin him)
              clear hfin him
              go_wp2
              go_ret2
              exact ⟨show Solve5 _ _ _ _ _ from ⟨_, true, rfl, fun _ => ⟨_, hown.low hbr.size, Po.mk_length _ _, HF.out.1⟩, fun e => by cases e⟩, hbr.trans (hb2.mono hbr.size)⟩
end Go.Proofs.YtamigcbodplmcaaGreat
