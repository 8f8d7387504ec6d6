/- the reference's solvable -/
import Derived.Test.YtmjboiaopihjeaaRows
import Derived.Test.YtmjboiaopihjeaaMsE
import Derived.Test.YtmjboiaopihjeaaGfPw
import Derived.Test.YtmjboiaopihjeaaMt
import Derived.StillTailTactics
namespace Go.Proofs.Ytmjboiaopihjeaa
open Go Go.RowKit Go.ChangeShapes Go.WideShapes
theorem wp_region_join {P : Program} {id : Nat} {ops : Array Oper} {b : Bool} {Q : Exit → Act → World → Prop} {a : Act} {w : World} (W2 : World) (lo n : Nat)
    (h : (Code.region id ops b).wp P (Exit.then (fun s w' => w' = W2 ∧ ((s.tmps.toList.drop lo).take n).length = n ∧ s = ⟨(a.tmps.toList.take lo ++ (s.tmps.toList.drop lo).take n ++ a.tmps.toList.drop (lo + n)).toArray, a.defers⟩) (fun _ _ _ => False)) a w)
    (k : ∀ vs : List Value, vs.length = n → Q .normal ⟨(a.tmps.toList.take lo ++ vs ++ a.tmps.toList.drop (lo + n)).toArray, a.defers⟩ W2) : (Code.region id ops b).wp P Q a w :=
  Code.wp_mono (fun e s w' he => by
    cases e <;> first
      | (obtain ⟨rfl, hv, hs⟩ := he; rw [hs]; exact k _ hv)
      | exact (he : False).elim) h
theorem list14 {vs : List Value} (h : vs.length = 14) : ∃ a b c d e f g i j k l m n o, vs = [a, b, c, d, e, f, g, i, j, k, l, m, n, o] := by
  match vs, h with
  | [a, b, c, d, e, f, g, i, j, k, l, m, n, o], _ => exact ⟨a, b, c, d, e, f, g, i, j, k, l, m, n, o, rfl⟩
theorem Ms.swapR_swp (R : Nat → Nat → Po.E) (u k : Nat) : Ms.swapR R u k = fun i => R (swp u k i) := by
  funext i
  unfold Ms.swapR swp
  split
  · rfl
  · split <;> rfl
/-- while row i is cleared: j entries are done -/
def Ms.midR (R : Nat → Nat → Po.E) (u col i j : Nat) : Nat → Nat → Po.E := fun i' j' => if i' = i ∧ j' < j then Ms.elim1 (R u) (R i) col j' else Ms.elimR R u col i i' j'
theorem Ms.midR_start (R : Nat → Nat → Po.E) (u col i : Nat) : Ms.midR R u col i 0 = Ms.elimR R u col i := by
  funext i' j'
  unfold Ms.midR
  rw [if_neg (by omega)]
theorem Ms.midR_end (R : Nat → Nat → Po.E) {u col i K : Nat} (hu : u < i) : ∀ i' j', j' < K → Ms.midR R u col i K i' j' = Ms.elimR R u col (i + 1) i' j' := fun i' j' hj => by
  unfold Ms.midR Ms.elimR
  by_cases e : i' = i
  · subst e
    rw [if_pos ⟨rfl, hj⟩, if_pos ⟨hu, by omega⟩]
  · rw [if_neg (fun h => e h.1)]
    by_cases e2 : u < i' ∧ i' < i
    · rw [if_pos e2, if_pos ⟨e2.1, by omega⟩]
    · rw [if_neg e2, if_neg (by omega)]
theorem Ms.midR_u (R : Nat → Nat → Po.E) {u col i j : Nat} (hu : u < i) : Ms.midR R u col i j u = R u := by
  funext j'
  unfold Ms.midR Ms.elimR
  rw [if_neg (by omega), if_neg (by omega)]
theorem Ms.midR_i (R : Nat → Nat → Po.E) {u col i j : Nat} (j' : Nat) (hj : j ≤ j') : Ms.midR R u col i j i j' = R i j' := by
  unfold Ms.midR Ms.elimR
  rw [if_neg (by omega), if_neg (by omega)]
theorem Ms.midR_step (R : Nat → Nat → Po.E) {u col i j : Nat} (x : Po.E) (hx : x = Ms.elim1 (R u) (R i) col j) : setM (Ms.midR R u col i j) i j x = Ms.midR R u col i (j + 1) := by
  funext i' j'
  unfold setM Ms.midR
  by_cases e : i' = i
  · subst e
    by_cases e2 : j' = j
    · subst e2
      rw [if_pos ⟨rfl, rfl⟩, if_pos ⟨rfl, by omega⟩, hx]
    · rw [if_neg (fun h => e2 h.2)]
      by_cases e3 : j' < j
      · rw [if_pos ⟨rfl, e3⟩, if_pos ⟨rfl, by omega⟩]
      · rw [if_neg (fun h => e3 h.2), if_neg (by omega)]
  · rw [if_neg (fun h => e h.1), if_neg (fun h => e h.1), if_neg (fun h => e h.1)]
theorem Ms.elimR_start (R : Nat → Nat → Po.E) (u col : Nat) : Ms.elimR R u col (u + 1) = R := by
  funext i
  unfold Ms.elimR
  rw [if_neg (by omega)]
theorem own_snoc {T : TypeId} {B : Nat} {w : World} {v : Value} {k : Nat} {F : Nat → BitVec 32} {x : BitVec 32} (h : OwnW T B w v (Po.mk k F ++ [x])) (hx : x = F k) : OwnW T B w v (Po.mk (k + 1) F) := by
  have : Po.mk (k + 1) F = Po.mk k F ++ [x] := by
    rw [hx]
    simp [Po.mk, List.range_succ]
  rw [this]
  exact h
theorem own_shape {T : TypeId} {B K : Nat} {w : World} {v : Value} {l : List (BitVec 32)} (h : OwnW T B w v l) (hl : l.length = K) : ∃ a c, v = .slice a K c ∧ K ≤ c ∧ Words32 w a K l := by
  obtain ⟨a, c, rfl, h1, h2⟩ := h.fresh.slice
  rw [hl] at h1 h2 ⊢
  exact ⟨a, c, rfl, h1, h2⟩
theorem info_wd : (Try.prog.info? 29).map (fun i => (i.zero, i.size, i.bytes)) = some (some (.int .u32 0), 1, 4) := by kernel_rfl
theorem info_row : (Try.prog.info? 22).map (fun i => (i.zero, i.size, i.bytes)) = some (some (.slice none 0 0), 1, 24) := by kernel_rfl
set_option maxRecDepth 100000 in
set_option maxHeartbeats 2000000 in
theorem solvable_any (a : Option Addr) (n c L : Nat) (l : List (BitVec 32)) (w : World) (h : Words32 w a n l) (hn : n ≤ 1000) (hL : L ≤ n) (r : Bool) (hr : r = true ↔ Ms.Sol L (Ms.sysR (Po.cf l) L) 0 (n - L)) :
    Calls Try.prog 22 #[.slice a n c, .int .i64 L] w fun e w' => e = .returned (.bool r) ∧ Below w.heap.size w w' := by
  have hl := h.1
  have HR := Lib.hid hr
  clear hr
  obtain ⟨M, hM⟩ : ∃ M, M = Ms.sysR (Po.cf l) L := ⟨_, rfl⟩
  have HM := Lib.hid hM
  clear hM
  go_enter Try.func22, Try.ntmps22
  go_wp2
  go_loopw [5, 6] (fun v i wr => ∃ (q : Nat) (g cp : Nat → Nat), L ≤ q ∧ q ≤ n ∧ i = .int .i64 q ∧ Bld 22 29 w.heap.size wr v (q - L) (L + 1) g cp M ∧ Below w.heap.size w wr) (fun _ i _ => n - (intOf i).toNat)
  case atStart => exact ⟨L, fun _ => 0, fun _ => 0, Nat.le_refl _, hL, rfl, by rw [Nat.sub_self]; exact Bld.nil _ _ _ _ _ _ _ _, Below.refl _ _⟩
  case round =>
    obtain ⟨q, g, cp, hq1, hq2, rfl, hbl, hbw⟩ := hrel
    rename Value => xv
    by_cases hlt : q < n
    · go_wp2
      rename World => wA
      go_loopw [7, 8] (fun x i wr => ∃ j : Nat, 1 ≤ j ∧ j ≤ L + 1 ∧ i = .int .i64 j ∧ OwnW 29 wA.heap.size wr x (Po.mk (j - 1) (M (q - L))) ∧ Below wA.heap.size wA wr) (fun _ i _ => L + 1 - (intOf i).toNat)
      case atStart => exact ⟨1, Nat.le_refl _, by omega, rfl, OwnW.nil _ _ _, Below.refl _ _⟩
      case round =>
        obtain ⟨j, hj1, hj2, rfl, hown, hb2⟩ := hrel
        have hlen : (Po.mk (j - 1) (M (q - L))).length = j - 1 := Po.mk_length _ _
        have hbw2 := hbw.trans (hb2.mono hbw.size)
        by_cases hlt2 : j ≤ L
        · obtain ⟨p, hp⟩ : ∃ p, p = q - j := ⟨_, rfl⟩
          have hpn : p < n := by omega
          obtain ⟨ad, rfl, hx⟩ := h.2.2 p hpn
          obtain ⟨z, hz⟩ : ∃ z, z = l.getD p 0 := ⟨_, rfl⟩
          rw [← hz] at hx
          have hcell := (hbw2.cell (isSome_lt (by rw [hx]; rfl))).trans hx
          have hwr : IntKind.i64.wrap ((q : Int) - (j : Int)) = (p : Int) := by rw [IntWalk.i64_in _ (by omega)]; omega
          have hp0 : (0 : Int) ≤ (p : Int) := by omega
          have hpn' : (p : Int) < (n : Int) := by omega
          have hzM : z = M (q - L) (j - 1) := by
            rw [hz, HM.out]
            unfold Ms.sysR
            rw [if_pos (by omega), show q - L + L - 1 - (j - 1) = p from by omega]
            rfl
          have HZ := Lib.hid hzM
          have hle : (Po.mk (j - 1) (M (q - L))).length + 1 ≤ 1099511627776 := by omega
          clear hzM hz hx hp
          go_wp2_with (first
            | (at_builtin; refine wpList_append_word rfl (.tmp 30) (.tmp 37) 22 rfl 29 Try.underlying22 info_wd wA.heap.size _ (Po.mk (j - 1) (M (q - L))) rfl hown z rfl hle hb2.size ?_; intro v' w2 h2 h3))
          go_roundw
          case rel => exact ⟨j + 1, by omega, by omega, by go_num, by rw [show j + 1 - 1 = j - 1 + 1 from by omega]; exact own_snoc h2 HZ.out, below_own_row (hb2.alloc hb2.size _) h3 hown.lt⟩
          case measure => simp [intOf]; omega
        · obtain ⟨jj, hjj⟩ : ∃ jj, jj = L + 1 := ⟨_, rfl⟩
          obtain rfl : j = jj := by omega
          have hjm : j - 1 + 1 = L + 1 := by omega
          have hll : (Po.mk (L + 1) (M (q - L))).length = L + 1 := Po.mk_length _ _
          obtain ⟨ad, rfl, hx⟩ := h.2.2 q hlt
          obtain ⟨z, hz⟩ : ∃ z, z = l.getD q 0 := ⟨_, rfl⟩
          rw [← hz] at hx
          have hcell := (hbw2.cell (isSome_lt (by rw [hx]; rfl))).trans hx
          have hzM : z = M (q - L) (j - 1) := by
            rw [hz, HM.out]
            unfold Ms.sysR
            rw [if_neg (by omega), show q - L + L = q from by omega]
            rfl
          have HZ := Lib.hid hzM
          have hle : (Po.mk (j - 1) (M (q - L))).length + 1 ≤ 1099511627776 := by omega
          have hle2 : q - L + 1 ≤ 1099511627776 := by omega
          have hbl2 := hbl.below hb2
          clear hzM hz hx
          go_wp2_with (first
            | (at_builtin; refine wpList_append_word rfl (.tmp 40) (.tmp 45) 22 rfl 29 Try.underlying22 info_wd wA.heap.size _ (Po.mk (j - 1) (M (q - L))) rfl hown z rfl hle hb2.size ?_; intro v' w2 h2 h3; have hb3 := below_own_row (hb2.alloc hb2.size _) h3 hown.lt; have h4 := own_snoc h2 HZ.out; rw [hjm] at h4; have hbl3 := hbl.below hb3; obtain ⟨va, vc, rfl, hvc, hvw⟩ := own_shape h4 hll)
            | (at_builtin; refine wpList_append_rowv rfl (.tmp 39) (.tmp 47) 53 rfl 22 Try.underlying53 info_row w.heap.size _ (q - L) _ rfl hbl3.own (.slice va _ vc) rfl rfl hle2 (Nat.le_trans hbw.size hb3.size) ?_; intro v'' w3 h5 h6))
          obtain ⟨g', cp', hb4⟩ := (hbl3.below ((Below.refl _ _).alloc (Nat.le_refl _) _)).snoc (by decide) (World.ownsRow.alloc h4 _) hbw.size (fun i hi => (hbl.rws.row i hi).lt) hll (Nat.succ_pos _) (fun i hi => by
            show _ = Po.cf (Po.mk (L + 1) (M (q - L))) i
            rw [Po.cf_mk, if_pos hi]) h5 h6
          go_roundw
          case rel => exact ⟨q + 1, g', cp', by omega, by omega, by go_num, by rw [show q + 1 - L = q - L + 1 from by omega]; exact hb4, below_own_row ((hbw.trans (hb3.mono hbw.size)).alloc (Nat.le_trans hbw.size hb3.size) _) h6 (fun k hk => (World.ownsRow.lt hbl3.own k hk).1)⟩
          case measure => simp [intOf]; omega
    · obtain rfl : q = n := by omega
      obtain ⟨m, hm⟩ : ∃ m, m = q - L := ⟨_, rfl⟩
      rw [← hm] at hbl
      obtain ⟨ra, C, rfl, hmC, hmo⟩ := hbl.matO
      have hm0 : m ≤ 1000 := by omega
      have HRm : RowKit.Hid (r = true ↔ Ms.Sol L M 0 m) := Lib.hid (by rw [hm, HM.out]; exact HR.out)
      clear hbl HR hm
      have hz0 : Ms.Zc 0 M 0 m := fun i _ _ j hj => by omega
      go_wp2
      rename World => wA
      go_loopw [9, 10] (fun us co wr => ∃ (used col : Nat) (g cp : Nat → Nat) (R : Nat → Nat → BitVec 32), col ≤ L ∧ used ≤ m ∧ us = .int .i64 used ∧ co = .int .i64 col ∧ MatO 22 29 w.heap.size wr ra m (L + 1) g cp R ∧ Ms.Zc col R used m ∧ (Ms.Sol L R used m ↔ Ms.Sol L M 0 m) ∧ Below w.heap.size w wr) (fun _ co _ => L - (intOf co).toNat)
      case atStart => exact ⟨0, 0, g, cp, M, Nat.zero_le _, Nat.zero_le _, rfl, rfl, hmo, hz0, Iff.rfl, hbw⟩
      case round =>
        obtain ⟨used, col, g1, cp1, R, hcol, hus, rfl, rfl, hmt, hzc, hsol, hbr⟩ := hrel
        clear hmo hz0 hbw
        by_cases hlt : col < L
        · have HS := Lib.hid hsol
          clear hsol
          go_wp2
          rename World => wB
          go_loop [11, 12] (fun ks is => ∃ (i : Nat) (kk : Int), used ≤ i ∧ i ≤ m ∧ is = .int .i64 i ∧ ks = .int .i64 kk ∧ ((kk = -1 ∧ ∀ i', used ≤ i' → i' < i → R i' col = 0) ∨ (∃ k : Nat, kk = k ∧ used ≤ k ∧ k < i ∧ R k col ≠ 0))) (fun _ is => m - (intOf is).toNat)
          case atStart => exact ⟨used, -1, Nat.le_refl _, hus, rfl, rfl, Or.inl ⟨rfl, fun i' h1 h2 => by omega⟩⟩
          case round =>
            obtain ⟨i, kk, hi1, hi2, rfl, rfl, hor⟩ := hrel
            by_cases hlti : i < m
            · obtain ⟨G, rfl, hmat⟩ := hmt (by omega)
              have hcA := hmat.cellA hlti
              have hcR := hmat.cellR (j := col) hlti (by omega)
              have hi3 : (i : Int) < (m : Int) := by omega
              have hc3 : (col : Int) < (L : Int) + 1 := by omega
              obtain ⟨x, hx⟩ : ∃ x, x = R i col := ⟨_, rfl⟩
              rw [← hx] at hcR
              have HX := Lib.hid hx
              clear hx
              by_cases hx0 : x = 0
              · have hxb : (x != 0#32) = false := by rw [hx0]; rfl
                have HO : RowKit.Hid ((kk = -1 ∧ ∀ i', used ≤ i' → i' < i + 1 → R i' col = 0) ∨ (∃ k : Nat, kk = k ∧ used ≤ k ∧ k < i + 1 ∧ R k col ≠ 0)) := Lib.hid (by
                  rcases hor with ⟨h1, h2⟩ | ⟨k, h1, h2, h3, h4⟩
                  · refine Or.inl ⟨h1, fun i' g1 g2 => ?_⟩
                    by_cases e : i' = i
                    · rw [e, ← HX.out, hx0]
                    · exact h2 i' g1 (by omega)
                  · exact Or.inr ⟨k, h1, h2, by omega, h4⟩)
                clear hor hx0
                go_wp2
                go_round
                case rel => exact ⟨i + 1, kk, by omega, by omega, by go_num, rfl, HO.out⟩
                case measure => simp [intOf]; omega
              · have hxb : (x != 0#32) = true := by simpa using hx0
                have HO : RowKit.Hid (R i col ≠ 0) := Lib.hid (by rw [← HX.out]; exact hx0)
                clear hor hx0
                go_wp2
                go_round
                case rel => exact ⟨i + 1, i, by omega, by omega, by go_num, rfl, Or.inr ⟨i, rfl, hi1, by omega, HO.out⟩⟩
                case measure => simp [intOf]; omega
            · obtain rfl : i = m := by omega
              have hi3 : ¬ (i : Int) < (i : Int) := by omega
              rcases hor with ⟨rfl, hall⟩ | ⟨k, rfl, hk1, hk2, hk3⟩
              · have HA := Lib.hid hall
                clear hall
                go_wp2
                go_roundw
                case rel => exact ⟨used, col + 1, g1, cp1, R, by omega, hus, rfl, by go_num, hmt, hzc.skip HA.out, HS.out, hbr⟩
                case measure => simp [intOf]; omega
              · have hk4 : ¬ (k : Int) < 0 := by omega
                obtain ⟨G, rfl, hmat⟩ := hmt (by omega)
                have hcK := hmat.cellA hk2
                have hum : used < i := by omega
                have hcU := hmat.cellA hum
                have hlA := hmat.looseA used
                have hlB := hmat.looseA k
                have hk5 : (k : Int) < (i : Int) := by omega
                have hu5 : (used : Int) < (i : Int) := by omega
                obtain ⟨sx, hsx⟩ := hmat.cellSet used (.slice (some ⟨g1 k, 0, none⟩) (L + 1) (cp1 k)) hk2
                have HK := Lib.hid hk3
                clear hk3
                go_wp2
                refine wp_region_join (((wB.setCell ⟨G, used, none⟩ (.slice (some ⟨g1 k, 0, none⟩) (L + 1) (cp1 k))).setCell ⟨G, k, none⟩ (.slice (some ⟨g1 used, 0, none⟩) (L + 1) (cp1 used))).drew) 72 14 ?_ ?_
                · go_region_law fail
                  all_goals
                    (refine ⟨rfl, ?_, ?_⟩
                     · simp only [List.take_succ_cons, List.take_zero, List.drop_succ_cons, List.drop_zero]
                       rfl
                     · simp only [List.take_succ_cons, List.take_zero, List.drop_succ_cons, List.drop_zero, List.cons_append, List.nil_append])
                · intro vs hvs
                  obtain ⟨_, _, _, _, _, _, _, _, _, _, _, _, _, _, rfl⟩ := list14 hvs
                  simp only [List.take_succ_cons, List.take_zero, List.drop_succ_cons, List.drop_zero, List.cons_append, List.nil_append]
                  have hm2 := (hmat.swap (by decide) hum hk2).drawn (Drawn.refl _).drew
                  have hb2 : Below w.heap.size w (((wB.setCell ⟨G, used, none⟩ (.slice (some ⟨g1 k, 0, none⟩) (L + 1) (cp1 k))).setCell ⟨G, k, none⟩ (.slice (some ⟨g1 used, 0, none⟩) (L + 1) (cp1 used))).drew) := ((hbr.setCell (p := ⟨G, used, none⟩) hmat.lowG _).setCell (p := ⟨G, k, none⟩) hmat.lowG _).drew
                  have hz2 : Ms.Zc col (fun i => R (swp used k i)) used i := by rw [← Ms.swapR_swp]; exact hzc.swap ⟨Nat.le_refl _, hum⟩ ⟨hk1, hk2⟩
                  have hs2 : Ms.Sol L (fun i => R (swp used k i)) used i ↔ Ms.Sol L M 0 i := by rw [← Ms.swapR_swp, Ms.Sol.swap ⟨Nat.le_refl _, hum⟩ ⟨hk1, hk2⟩]; exact HS.out
                  have hp2 : (fun i => R (swp used k i)) used col ≠ 0 := by show R (swp used k used) col ≠ 0; rw [show swp used k used = k from if_pos rfl]; exact HK.out
                  generalize ((wB.setCell ⟨G, used, none⟩ (.slice (some ⟨g1 k, 0, none⟩) (L + 1) (cp1 k))).setCell ⟨G, k, none⟩ (.slice (some ⟨g1 used, 0, none⟩) (L + 1) (cp1 used))).drew = wC at hm2 hb2 ⊢
                  generalize (fun i => R (swp used k i)) = R2 at hm2 hz2 hs2 hp2
                  generalize (fun i => g1 (swp used k i)) = g2 at hm2
                  generalize (fun i => cp1 (swp used k i)) = cp2 at hm2
                  clear hmt hmat hsx hzc hbr hcK hcU hlA hlB
                  have hcA := hm2.cellA hum
                  have hcR := hm2.cellR (j := col) hum (by omega)
                  have hc3 : (col : Int) < (L : Int) + 1 := by omega
                  have hmi := Ms.elimR_start R2 used col
                  go_wp2_with (first | (go_at_call 31; refine (rinverse_any _ _).mono ?_; rintro e w1 ⟨rfl, rfl⟩))
                  rename World => wD
                  go_loopw [14] (fun is wr => ∃ i' : Nat, used + 1 ≤ i' ∧ i' ≤ i ∧ is = .int .i64 i' ∧ Mat 22 29 w.heap.size wr G i (L + 1) g2 cp2 (Ms.elimR R2 used col i') ∧ Below w.heap.size w wr) (fun is _ => i - (intOf is).toNat)
                  case atStart => exact ⟨used + 1, Nat.le_refl _, by omega, by go_num, by rw [hmi]; exact hm2, hb2⟩
                  case round =>
                    obtain ⟨t, ht1, ht2, rfl, hmt, hbt⟩ := hrel
                    by_cases hltt : t < i
                    · have hcA := hmt.cellA hltt
                      have hcR := hmt.cellR (j := col) hltt (by omega)
                      rw [show Ms.elimR R2 used col t t col = R2 t col from by unfold Ms.elimR; rw [if_neg (by omega)]] at hcR
                      have ht5 : (t : Int) < (i : Int) := by omega
                      go_wp2_with (first | (go_at_call 23; refine (rmul_any _ _ _).mono ?_; rintro e w1 ⟨rfl, rfl⟩))
                      rename World => wE
                      go_loopw [16] (fun js wr => ∃ j : Nat, j ≤ L + 1 ∧ js = .int .i64 j ∧ Mat 22 29 w.heap.size wr G i (L + 1) g2 cp2 (Ms.midR R2 used col t j) ∧ Below w.heap.size w wr) (fun js _ => L + 1 - (intOf js).toNat)
                      case atStart => exact ⟨0, Nat.zero_le _, rfl, by rw [Ms.midR_start]; exact hmt, hbt⟩
                      case round =>
                        obtain ⟨j, hj, rfl, hmj, hbj⟩ := hrel
                        clear hcA hcR hmt hbt
                        by_cases hltj : j ≤ L
                        · have hcA := hmj.cellA hltt
                          have hcB := hmj.cellA hum
                          have hcT := hmj.cellR (j := j) hltt (by omega)
                          have hcU := hmj.cellR (j := j) hum (by omega)
                          rw [Ms.midR_i R2 j (Nat.le_refl _)] at hcT
                          rw [Ms.midR_u R2 (show used < t by omega)] at hcU
                          have hlT := hmj.looseR hltt j
                          have hj5 : (j : Int) < (L : Int) + 1 := by omega
                          go_wp2_with (first | (go_at_call 23; refine (rmul_any _ _ _).mono ?_; rintro e w1 ⟨rfl, rfl⟩))
                          have hmS := hmj.setR (by decide) hltt j (R2 t j ^^^ Gf.mul (Gf.mul (R2 t col) (Gf.inv (R2 used col))) (R2 used j))
                          have hbS := hbj.setCell (p := ⟨g2 t, j, none⟩) (hmj.rws.low t hltt) (.int .u32 (nb32 (R2 t j ^^^ Gf.mul (Gf.mul (R2 t col) (Gf.inv (R2 used col))) (R2 used j))))
                          rw [Ms.midR_step R2 (u := used) (col := col) (i := t) (j := j) (R2 t j ^^^ Gf.mul (Gf.mul (R2 t col) (Gf.inv (R2 used col))) (R2 used j)) rfl] at hmS
                          refine wp_region_still_tail 23 rfl (by kernel_rfl) ?_
                          simp only [List.take_succ_cons, List.take_zero, List.drop_succ_cons, List.drop_zero]
                          repeat still_step
                          still_call ((rmul_any _ _ _).mono fun e w' h => ⟨h.1, h.2.symm⟩)
                          repeat still_step
                          refine wpStill_nil ?_
                          go_wp2
                          go_roundw
                          case rel => exact ⟨j + 1, by omega, by go_num, hmS.drawn (Drawn.refl _).drew, hbS.drew⟩
                          case measure => simp [intOf]; omega
                        · have hjj : j = L + 1 := by omega
                          have hjl : ¬ (j : Int) ≤ (L : Int) := by omega
                          have hmf := hmj.congr (R' := Ms.elimR R2 used col (t + 1)) (fun i' _ j' hj' => by rw [hjj]; exact Ms.midR_end R2 (K := L + 1) (show used < t by omega) i' j' hj')
                          have HJ := Lib.hid hjj
                          clear hjj hmj
                          go_wp2
                          go_roundw
                          case rel => exact ⟨t + 1, by omega, by omega, by go_num, hmf, hbj⟩
                          case measure => simp [intOf]; omega
                    · have hti : t = i := by omega
                      have htl : ¬ (t : Int) < (i : Int) := by omega
                      rw [hti] at hmt
                      have HT := Lib.hid hti
                      clear hti
                      go_wp2
                      go_roundw
                      case rel => exact ⟨used + 1, col + 1, g2, cp2, Ms.elimR R2 used col i, by omega, by omega, by go_num, by go_num, fun _ => ⟨G, rfl, hmt⟩, hz2.pivot hum hp2, (Ms.Sol.pivot hum hp2 hlt).trans hs2, hbt⟩
                      case measure => simp [intOf]; omega
        · have hcl : col = L := by omega
          rw [hcl] at hzc
          have hfin : r = true ↔ ∀ i, used ≤ i → i < m → R i L = 0 := by rw [HRm.out, ← hsol]; exact Ms.Sol.last hzc
          have hnc : ¬ (col : Int) < (L : Int) := by omega
          have HF := Lib.hid hfin
          have HC := Lib.hid hcl
          clear hfin hcl hsol hzc
          go_wp2
          rename World => wB
          go_loop [17] (fun is => ∃ i : Nat, used ≤ i ∧ i ≤ m ∧ is = .int .i64 i ∧ RowKit.Hid (∀ i', used ≤ i' → i' < i → R i' L = 0)) (fun is => m - (intOf is).toNat)
          case atStart => exact ⟨used, Nat.le_refl _, hus, rfl, Lib.hid fun i' h1 h2 => by omega⟩
          case round =>
            obtain ⟨i, hi1, hi2, rfl, HA⟩ := hrel
            by_cases hlti : i < m
            · obtain ⟨G, rfl, hmat⟩ := hmt (by omega)
              have hcA := hmat.cellA hlti
              have hcR := hmat.cellR (j := L) hlti (by omega)
              have hi3 : (i : Int) < (m : Int) := by omega
              have hc3 : (L : Int) < (L : Int) + 1 := by omega
              obtain ⟨x, hx⟩ : ∃ x, x = R i L := ⟨_, rfl⟩
              rw [← hx] at hcR
              have HX := Lib.hid hx
              clear hx
              by_cases hx0 : x = 0
              · have hxb : (x != 0#32) = false := by rw [hx0]; rfl
                have HA2 : RowKit.Hid (∀ i', used ≤ i' → i' < i + 1 → R i' L = 0) := Lib.hid (fun i' g1 g2 => by
                  by_cases e : i' = i
                  · rw [e, ← HX.out, hx0]
                  · exact HA.out i' g1 (by omega))
                clear hx0
                go_wp2
                go_round
                case rel => exact ⟨i + 1, by omega, by omega, by go_num, HA2⟩
                case measure => simp [intOf]; omega
              · have hxb : (x != 0#32) = true := by simpa using hx0
                have hrf : r = false := by
                  cases hr : r
                  · rfl
                  · exact (hx0 (by rw [HX.out]; exact HF.out.1 hr i hi1 hlti)).elim
                clear hx0
                go_wp2
                go_ret
                exact ⟨rfl, hbr⟩
            · have him : i = m := by omega
              have hnm : ¬ (i : Int) < (m : Int) := by omega
              have hrt : r = true := HF.out.2 (fun i' g1 g2 => HA.out i' g1 (by omega))
              have HI := Lib.hid him
              clear him
              go_wp2
              go_ret
              exact ⟨rfl, hbr⟩
end Go.Proofs.Ytmjboiaopihjeaa
