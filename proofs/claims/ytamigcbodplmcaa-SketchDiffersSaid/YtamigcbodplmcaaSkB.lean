/- package sketch: chunks, read -/
import Derived.Test.YtamigcbodplmcaaSkA
import Derived.Test.YtamigcbodplmcaaPz
import Derived.Test.YtamigcbodplmcaaRh
namespace Go.Proofs.Ytamigcbodplmcaa
open Go Go.RowKit Go.Shelf
attribute [local go_sem] Oper.semAt_some
theorem Addr.add_zero' (a : Addr) : a.add 0 = a := by unfold Addr.add; cases a; simp
theorem chunks_any (a : Option Addr) (n c : Nat) (w : World) :
    Calls Try.prog 41 #[.slice a n c] w fun e w' =>
      e = .returned (.func (.func 56) #[] #[.pointer (some ⟨w.heap.size, 0, none⟩)]) ∧ w' = w.alloc (.cells #[.slice a n c] 23) := by
  go_enter Try.func41, Try.ntmps41
  go_wp2
  go_ret
  exact ⟨rfl, rfl⟩
/-- what the iterator yields at place p -/
def encC (ad : Addr) (c : Nat) (p : Nat) : Array Value := #[.slice (some (ad.add p)) 4 (c - p)]
set_option maxHeartbeats 1000000 in
theorem chunks_iter (m : Nat) (hm : 1 ≤ m) (Bx : Nat) (ad : Addr) (a : Option Addr) (n c : Nat) (hn : n ≤ 4000) (hnc : n ≤ c) (hd : Hid (n % 4 = 0)) (ha : 0 < n → a = some ad) (w : World) (hg : w.cell? ⟨Bx, 0, none⟩ = some (.slice a n c)) :
    Iterates Fence.wide m Try.prog 56 #[.pointer (some ⟨Bx, 0, none⟩)] (encC ad c) (fun W W' => W.cell? ⟨Bx, 0, none⟩ = some (.slice a n c) → W'.cell? ⟨Bx, 0, none⟩ = some (.slice a n c)) 0 (fun p _ x p' => x = p ∧ p' = p + 4 ∧ p + 4 ≤ n) (fun p => n ≤ p) w := by
  intro l J Jx W hW hJ hJx hY h0
  have hgW : W.cell? ⟨Bx, 0, none⟩ = some (.slice a n c) := (hW.cell (isSome_lt (by rw [hg]; rfl))).trans hg
  refine callsIn_of_wp Try.func56 rfl trivial ?_ rfl
  simp only [Try.ntmps56, List.size_toArray, List.length_cons, List.length_nil, Nat.reduceAdd, Nat.reduceSub, Array.replicate_succ, Array.replicate_zero, List.push_toArray, List.append_toArray, List.nil_append, List.cons_append]
  gi_wp2
  gi_loopw [3] (fun i wr => ∃ k : Nat, k ≤ n ∧ Hid (k % 4 = 0) ∧ i = .int .i64 (k : Int) ∧ J k wr ∧ wr.cell? ⟨Bx, 0, none⟩ = some (.slice a n c)) (fun i _ => n - (intOf i).toNat)
  case atStart => exact ⟨0, Nat.zero_le _, Lib.hid rfl, rfl, h0, hgW⟩
  case round =>
    obtain ⟨k, hk, hk4, rfl, hJs, hbr⟩ := hrel
    by_cases hlt : k < n
    · have hk5 : k + 4 ≤ n := by have := hd.out; have := hk4.out; omega
      obtain rfl := ha (by omega)
      obtain ⟨fn, tmps, assign, body, hy, hR⟩ := hY k k (k + 4) wr hJs ⟨rfl, rfl, hk5⟩
      dsimp only [encC] at hy
      have hw4 : IntKind.i64.wrap ((k : Int) + 4) = (k : Int) + 4 := IntWalk.i64_in _ (by omega)
      have h1 : (0 : Int) ≤ (k : Int) := by omega
      have h2 : (k : Int) ≤ (k : Int) + 4 := by omega
      have h3 : (k : Int) + 4 ≤ (c : Int) := by omega
      have h4 : ¬ c = k := by omega
      gi_wp2
      refine hR.mono ?_
      rintro e W3 (⟨rfl, hJ3, hk3⟩ | ⟨rfl, hJx3⟩)
      · gi_wp2
        go_roundw
        case rel => exact ⟨k + 4, hk5, Lib.hid (by have := hk4.out; omega), by go_num, hJ3, hk3 hbr⟩
        case measure => (simp [intOf]; try omega)
      · gi_wp2
        refine bodyPost_ret (results_none rfl _ _ _) rfl ?_
        exact ⟨⟨_, rfl⟩, .inr ⟨_, hJx3⟩⟩
    · have hii : ¬ (k : Int) < (n : Int) := by omega
      gi_wp2
      go_end0
      exact ⟨⟨_, rfl⟩, .inl ⟨k, by omega, hJs⟩⟩
theorem OwnW.apart {T T' : TypeId} {B g : Nat} {w : World} {v : Value} {l : List (BitVec 32)} {cs : Array Value} (h : OwnW T B w v l) (hg : Has w g T' cs) (hT : T ≠ T') : v.ownBlock ≠ some g := fun e => by
  rcases h.2 with ⟨rfl, _⟩ | ⟨G, cap, cur, rfl, _, hh, _⟩
  · cases e
  · obtain rfl : G = g := by injection e
    unfold Has at hg
    rw [hh] at hg
    injection hg with hg
    injection hg with _ h2
    exact hT h2
theorem OwnW.aside {T : TypeId} {B : Nat} {w : World} {v : Value} {l : List (BitVec 32)} (h : OwnW T B w v l) {p : Addr} (hp : v.ownBlock ≠ some p.block) (u : Value) : OwnW T B (w.setCell p u) v l := by
  refine ⟨h.1, ?_⟩
  rcases h.2 with hn | ⟨G, cap, cur, rfl, h1, h2, rest⟩
  · exact .inl hn
  · exact .inr ⟨G, cap, cur, rfl, h1, (Below.heap_setCell w p u G (fun e => hp (by rw [← e]; rfl))).trans h2, rest⟩
theorem OwnW.kept {T : TypeId} {B : Nat} {W W' : World} {row : Option Nat} {v : Value} {l : List (BitVec 32)} (h : OwnW T B W v l) (hg : W.grownBy W' row) (hr : ∀ r, row = some r → ∃ o : Obj, W.heap[r]? = some o ∧ o.isCells = false) : OwnW T B W' v l := by
  refine ⟨h.1, ?_⟩
  rcases h.2 with hn | ⟨G, cap, cur, rfl, h1, h2, rest⟩
  · exact .inl hn
  · exact .inr ⟨G, cap, cur, rfl, h1, (show Has W G T cur from h2).kept hg hr, rest⟩
theorem OwnW.rowCells {T : TypeId} {B : Nat} {w : World} {v : Value} {l : List (BitVec 32)} (h : OwnW T B w v l) : ∀ (j : Nat) (o : Obj), v.ownBlock = some j → w.heap[j]? = some o → o.isCells = true := fun j o e ho => by
  rcases h.2 with ⟨rfl, _⟩ | ⟨G, cap, cur, rfl, _, hh, _⟩
  · cases e
  · obtain rfl : G = j := by injection e
    rw [hh] at ho
    injection ho with ho
    subst ho
    rfl
set_option maxRecDepth 100000 in
set_option maxHeartbeats 2000000 in
theorem read_any (a : Option Addr) (n c : Nat) (lb : List (BitVec 8)) (w : World) (h : Bytes8 w a n lb) (hnc : n ≤ c) (hd : Hid (n % 4 = 0)) (hn : n ≤ 4000) :
    Calls Try.prog 26 #[.slice a n c] w fun e w' => (∃ v, e = .returned v ∧ OwnW 54 w.heap.size w' v (sums8 lb)) ∧ Below w.heap.size w w' := by
  have hl := h.1
  obtain ⟨q, hq⟩ : ∃ q, n / 4 = q := ⟨_, rfl⟩
  have hqi : (n : Int).tdiv 4 = (q : Int) := by rw [show (n : Int).tdiv 4 = ((n / 4 : Nat) : Int) from rfl, hq]
  have hqi2 : (n : Int) / 4 = (q : Int) := by omega
  have hqn : q ≤ 1000 := by omega
  have HQ := Lib.hid hq
  clear hq
  obtain ⟨i0, hi0, hz0, hz1, hz2⟩ := info_parts info_word
  obtain ⟨wm, hmk, hr1, hr2⟩ := run_make_own (P := Try.prog) w w.heap.size 22 54 i0 (.int .u32 0) 1 Try.underlying22 hi0 hz0 hz1 .i64 .i64 q (by rw [hz2]; omega) (by unfold maxLen; omega) (Nat.le_refl _)
  have hbm : Below w.heap.size w wm := (Below.refl _ w).grown hr2 (Nat.le_refl _) (fun k e => by cases e)
  have hom : OwnW 54 w.heap.size wm (.slice (some ⟨w.heap.size, 0, none⟩) 0 q) [] := hr1
  clear hr1 hr2 hi0 hz0 hz1 hz2
  apply calls_of_wide
  refine callsIn_of_wp_marks Try.func26 rfl trivial ?_ rfl
  simp only [Try.ntmps26, List.size_toArray, List.length_cons, List.length_nil, Nat.reduceAdd, Nat.reduceSub, Array.replicate_succ, Array.replicate_zero, List.push_toArray, List.append_toArray, List.nil_append, List.cons_append]
  gi_wp2_with (refine ⟨trivial, ?_⟩; first
      | (gi_at_call 41; refine (callsIn_wide.2 (chunks_any _ _ _ _)).mono ?_; rintro e w' ⟨rfl, rfl⟩))
  obtain ⟨ad, had⟩ : ∃ ad : Addr, 0 < n → a = some ad := by
    rcases Nat.eq_zero_or_pos n with h0 | h0
    · exact ⟨⟨0, 0, none⟩, fun h => absurd h0 (by omega)⟩
    · obtain ⟨ad, e, _⟩ := h.2.2 0 h0
      exact ⟨ad, fun _ => e⟩
  have hszm := hbm.size
  obtain ⟨W2, hW2⟩ : ∃ W2, (wm.alloc (.cells #[.slice (some ⟨w.heap.size, 0, none⟩) 0 q] 22)).alloc (.cells #[.slice a n c] 23) = W2 := ⟨_, rfl⟩
  have hbx2 : Has W2 wm.heap.size 22 #[.slice (some ⟨w.heap.size, 0, none⟩) 0 q] := by rw [← hW2]; exact (Has.fresh _ _ _).past _
  have hci2 : Has W2 (wm.heap.size + 1) 23 #[.slice a n c] := by rw [← hW2]; exact Has.fresh_at _ _ _ (by simp)
  have hb2 : Below w.heap.size w W2 := by rw [← hW2]; exact (hbm.alloc hszm _).alloc (by simp; omega) _
  have ho2 : OwnW 54 w.heap.size W2 (.slice (some ⟨w.heap.size, 0, none⟩) 0 q) [] := by rw [← hW2]; exact hom.below (((Below.refl _ wm).alloc (Nat.le_refl _) _).alloc (by simp) _)
  have hs2 : W2.heap.size = wm.heap.size + 1 + 1 := by rw [← hW2]; simp
  rw [hW2]
  clear hW2 hom hmk hbm
  obtain ⟨F, hF⟩ : ∃ F : Nat → BitVec 32, F = fun k => un4 (cb lb (4 * k)) (cb lb (4 * k + 1)) (cb lb (4 * k + 2)) (cb lb (4 * k + 3)) := ⟨_, rfl⟩
  have hfin : sums8 lb = Po.mk (n / 4) F := by rw [hF, ← hl]; rfl
  have HF := Lib.hid (And.intro hF hfin)
  clear hF hfin
  refine wpIn_range_told (F := Fence.wide) rfl (by omega) (gf := 56) (lb := #[.pointer (some ⟨wm.heap.size + 1, 0, none⟩)]) rfl trivial (enters_of Try.func56 (by kernel_rfl) rfl)
    (chunks_iter 4 (by omega) (wm.heap.size + 1) ad a n c hn hnc hd had W2 (hci2.cell_at (i := 0) rfl)) (Below.refl _ _) (fun _ => rfl)
    (fun h1 h2 h => h2 (h1 h)) (fun W l o o' _ ho hc hg => cell_kept hg (grownBy_putObj' W l o') (fun r e => by cases e; exact ⟨o, ho, hc⟩)) (fun x s' => fun s W W' row h hg hr => h)
    (fun p W => p ≤ n ∧ Hid (p % 4 = 0) ∧ ∃ v, Has W wm.heap.size 22 #[v] ∧ OwnW 54 w.heap.size W v (Po.mk (p / 4) F) ∧ Below w.heap.size w W ∧ Has W (wm.heap.size + 1) 23 #[.slice a n c])
    (fun _ _ _ => False)
    (fun p W W' row h hg hr => ⟨h.1, h.2.1, by
      obtain ⟨v, h1, h2, h3, h4⟩ := h.2.2
      exact ⟨v, h1.own hg hr, h2.kept hg (fun r e => (hr r e).2), below_own h3 (by omega) hg hr, h4.own hg hr⟩⟩)
    (fun _ _ _ _ _ h _ _ => h) ⟨Nat.zero_le _, Lib.hid rfl, _, hbx2, (by rw [Nat.zero_div]; exact ho2), hb2, hci2⟩
    (fun p => { tmps := #[Value.slice a n c, undef, Value.slice none 0 0, Value.pointer (some { block := wm.heap.size, off := 0 }),
          Value.slice (some (ad.add p)) 4 (c - p), Value.slice a n c, Value.int IntKind.i64 ↑n, Value.int IntKind.i64 ↑q,
          Value.slice (some { block := w.heap.size, off := 0 }) 0 q, Value.slice a n c,
          Value.func (Fn.func 56) #[] #[Value.pointer (some { block := wm.heap.size + 1, off := 0 })], Value.slice (some (ad.add p)) 4 (c - p), undef,
          undef, undef, undef, undef, undef, undef, undef, undef, undef, undef, undef, undef, undef, undef, undef,
          undef, undef, undef, undef, undef, undef, undef, undef, undef, undef], defers := [] })
    ?assign ?body ?done ?stop
  case assign =>
    intro l x W K hK
    dsimp only [encC]
    gi_wp2
    exact hK
  case body =>
    rintro lp p x p' W ⟨hp, hp4, v, hbox, hov, hbW, hci⟩ ⟨rfl, rfl, hp5⟩ hsz
    obtain rfl : a = some ad := had (by omega)
    have hby : ∀ j, j < 4 → W.cell? ((ad.add x).add j) = some (.int .u8 (nb8 (cb lb (x + j)))) := fun j hj => by
      obtain ⟨_, e, hc⟩ := h.2.2 (x + j) (by omega)
      injection e with e
      subst e
      rw [Addr.add_add]
      exact (hbW.cell (isSome_lt (by rw [hc]; rfl))).trans hc
    obtain ⟨k, hk⟩ : ∃ k, k = x / 4 := ⟨_, rfl⟩
    have hx4 : x = 4 * k := by have := hp4.out; omega
    obtain ⟨b0, hb0⟩ : ∃ b, b = cb lb x := ⟨_, rfl⟩
    obtain ⟨b1, hb1⟩ : ∃ b, b = cb lb (x + 1) := ⟨_, rfl⟩
    obtain ⟨b2, hb2'⟩ : ∃ b, b = cb lb (x + 2) := ⟨_, rfl⟩
    obtain ⟨b3, hb3⟩ : ∃ b, b = cb lb (x + 3) := ⟨_, rfl⟩
    have hval : un4 b0 b1 b2 b3 = F k := by rw [HF.out.1, hb0, hb1, hb2', hb3, hx4]
    have hc0 := hby 0 (by omega)
    have hc1 := hby 1 (by omega)
    have hc2 := hby 2 (by omega)
    have hc3 := hby 3 (by omega)
    rw [← hb1] at hc1
    rw [← hb2'] at hc2
    rw [← hb3] at hc3
    rw [Addr.add_zero', Nat.add_zero, ← hb0] at hc0
    have hk1 : (x + 4) / 4 = k + 1 := by omega
    rw [← hk] at hov
    have HK := Lib.hid (And.intro hval hk1)
    have hkq : k ≤ 1000 := by omega
    clear hby hb0 hb1 hb2' hb3 hval hk1 hx4 hk
    generalize ad.add x = ap at hc0 hc1 hc2 hc3 ⊢
    change W.cell? ⟨ap.block, ap.off + 1, none⟩ = _ at hc1
    change W.cell? ⟨ap.block, ap.off + 2, none⟩ = _ at hc2
    change W.cell? ⟨ap.block, ap.off + 3, none⟩ = _ at hc3
    have hcv := hbox.cell_at (i := 0) rfl
    have hmix : Try.prog.follows .mixedOrders = true := by kernel_rfl
    have hne := hov.apart hbox (by decide)
    have hlen : (Po.mk k F).length + 1 ≤ 1099511627776 := by rw [Po.mk_length]; omega
    gi_wp2_with fail
    refine wpIn_round_load (S := fun w => w.cell? ⟨wm.heap.size, 0, none⟩ = some v) (v := v) 23 hmix (by kernel_rfl) (by simp) (fun ⟨_, _, h⟩ => (h : False)) (fun _ _ _ h => h) rfl rfl ?hy hcv ?_
    case hy =>
      refine .inl ⟨rfl, fun w5 hw5 => ?_⟩
      obtain ⟨va, vc, rfl, _⟩ := own_shape0 hov
      go_simp
    simp only [List.take_succ_cons, List.take_zero, List.drop_succ_cons, List.drop_zero]
    repeat still_step
    refine wpStill_nil ?_
    have hbD := hbW.drew
    have hoD : OwnW 54 w.heap.size W.drew v (Po.mk k F) := hov
    have hxD := hbox.draw
    have hciD := hci.draw
    have hne1 := hov.apart hci (by decide)
    have hKD : KeepsOthers W W.drew := KeepsOthers.drew W
    generalize W.drew = W1 at *
    refine ⟨.slice (some ⟨W1.heap.size, 0, none⟩) 1 1, W1.alloc (.cells #[.int .u32 (nb32 (un4 b0 b1 b2 b3))] 54), ?hrun, (hxD.past _).cell_at (i := 0) rfl, ?_⟩
    case hrun => go_simp; rfl
    go_wp2_with (first
      | (at_builtin; refine wpList_append_word rfl (.tmp 12) (.tmp 35) 22 rfl 54 Try.underlying22 info_word w.heap.size _ (Po.mk k F) rfl hoD (un4 b0 b1 b2 b3) rfl hlen hbD.size ?_; intro v' w2 h2 h3; have hx2 : Has w2 wm.heap.size 22 #[v] := (h3.block _ (hxD.past _).lt (fun e => hne e.symm)).trans (hxD.past _); have hf2 := hx2.loose 0; have hcc2 := hx2.cell_at (i := 0) rfl; obtain ⟨va, vc, rfl, _⟩ := own_shape0 h2))
    have hA : Below W1.heap.size W1 (W1.alloc (.cells #[.int .u32 (nb32 (un4 b0 b1 b2 b3))] 54)) := (Below.refl _ W1).alloc (Nat.le_refl _) _
    have hci2 : Has w2 (wm.heap.size + 1) 23 #[.slice (some ad) n c] := (h3.block _ (hciD.past _).lt (fun e => hne1 e.symm)).trans (hciD.past _)
    have hci3 := hci2.aside (p := ⟨wm.heap.size, 0, none⟩) (by show wm.heap.size + 1 ≠ wm.heap.size; omega) (.slice va ((Po.mk k F).length + 1) vc)
    have hb2 : Below w.heap.size w w2 := below_own_row (hbD.alloc hbD.size _) h3 hov.lt
    refine ⟨((hKD.trans (KeepsOthers.alloc W1 _)).trans ((KeepsOthers.of_grownBy h3 (fun j o e ho => OwnW.rowCells (hoD.below hA) j o e ho)).trans (KeepsOthers.setCell _ _ _))).from _, fun _ => hci3.cell_at (i := 0) rfl, by omega, Lib.hid (by have := hp4.out; omega), _, hx2.put 0 _, ?_, hb2.setCell (p := ⟨wm.heap.size, 0, none⟩) (by show w.heap.size ≤ wm.heap.size; omega) _, hci3⟩
    rw [HK.out.2]
    rw [List.length_append, show [un4 b0 b1 b2 b3].length = 1 from rfl] at h2
    exact own_snoc (h2.aside (p := ⟨wm.heap.size, 0, none⟩) (h2.apart hx2 (by decide)) _) HK.out.1
  case done =>
    rintro D p W hD hpn ⟨hp, _, v, hbox, hov, hbW, _⟩ hK
    obtain rfl : p = n := by omega
    have hcv := hbox.cell_at (i := 0) rfl
    gi_wp2
    refine leaves_tmp rfl rfl hK ⟨⟨_, rfl, ?_⟩, below_putObj hbW hbW.size (by omega) _⟩
    rw [HF.out.2]
    exact hov.kept (grownBy_putObj' W D _) (fun r e => by cases e; exact ⟨_, hK, rfl⟩)
  case stop =>
    rintro D cd k W hD hf hK
    exact hf.elim
end Go.Proofs.Ytamigcbodplmcaa
