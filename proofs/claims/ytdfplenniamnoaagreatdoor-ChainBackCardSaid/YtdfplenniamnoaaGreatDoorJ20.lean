/- package digest: paired, Tree -/
import Derived.Test.YtdfplenniamnoaaGreatDoorJ19
import Derived.Test.YtdfplenniamnoaaGreatDoorJ14
import Derived.Test.YtdfplenniamnoaaGreatDoorJ04
import Derived.Test.YtdfplenniamnoaaGreatDoorJ02
/-! package digest: paired, Tree -/
namespace Go.Proofs.YtdfplenniamnoaaGreatDoor
open Go Go.RowKit Go.Shelf Go.ChangeShapes Go.WideShapes
attribute [local go_sem] Oper.semAt_some
theorem wpIn_round_held {P : Program} {lp n id : Nat} {Q : Exit → Act → World → Prop} {a : Act} {w : World} {l : List Oper} {S : World → Prop} (hm : P.follows .mixedOrders = true)
    (hnd : ∀ o ∈ l, ∀ c, o.op ≠ .defer c) (hlo : ¬ LetsOut Q) (hS : S w.drew) (h : S w.drew → wpAnyH P .any l.toArray Q S l.toArray.size (Array.replicate l.toArray.size false) a w.drew) : (Code.region id l.toArray true).wpIn (Fence.wide.inRound lp) n P Q a w :=
  wpIn_region_any hm (anyIn_round hlo (fun i o ho => hnd o (by
    rw [List.getElem?_toArray] at ho
    exact List.mem_of_getElem? ho)) _ _ _ _ (wpAny_of_held _ _ _ _ (h hS)))
theorem OwnH.kept {T : TypeId} {B : Nat} {w w' : World} {row : Option Nat} {v : Value} {L : List (List (BitVec 8))} (h : OwnH T B w v L) (hg : w.grownBy w' row) (hr : ∀ r, row = some r → ∃ o : Obj, w.heap[r]? = some o ∧ o.isCells = false) : OwnH T B w' v L := by
  refine ⟨h.1, h.2.1, ?_⟩
  rcases h.2.2 with hn | ⟨G, cap, cur, rfl, h1, h2, rest⟩
  · exact .inl hn
  · exact .inr ⟨G, cap, cur, rfl, h1, (Has.kept (show Has w G T cur from h2) hg hr), rest⟩
theorem OwnH.aside {T : TypeId} {B : Nat} {w : World} {v : Value} {L : List (List (BitVec 8))} (h : OwnH T B w v L) {p : Addr} (hp : p.block < B) (u : Value) : OwnH T B (w.setCell p u) v L := by
  refine ⟨h.1, h.2.1, ?_⟩
  rcases h.2.2 with hn | ⟨G, cap, cur, rfl, h1, h2, rest⟩
  · exact .inl hn
  · exact .inr ⟨G, cap, cur, rfl, h1, (Has.aside (show Has w G T cur from h2) (by omega) u), rest⟩
theorem GdC.own {w0 W W' : World} {B1 B2 B : Nat} {a : Option Addr} {n c : Nat} {row : Option Nat} (h : GdC w0 B1 B2 a n c W) (hB : w0.heap.size ≤ B) (hg : W.grownBy W' row) (hr : ∀ r, row = some r → B ≤ r ∧ ∃ o : Obj, W.heap[r]? = some o ∧ o.isCells = false) : GdC w0 B1 B2 a n c W' :=
  ⟨h.1.grown hg h.1.size (fun k e => Nat.le_trans hB (hr k e).1), h.2.1.kept hg (fun r e => (hr r e).2), h.2.2.kept hg (fun r e => (hr r e).2)⟩
theorem step_store_mid {P : Program} {w : World} {ops : Array Oper} {o : Oper} {a : Act} {K : Act → World → Prop} {Q : Exit → Act → World → Prop} {E : Prop} (hwt : Region.wanted o (yielded ops a.tmps) = true) (ty : TypeId) (x y : Operand) (ho : o.op = .store ty x y)
    (b off : Nat) (cells : Array Value) (hx : a.eval x = .pointer (some ⟨b, off, none⟩)) (hy : a.eval y = .agg cells) (ht : w.there b off cells.size) (hi : (P.info? ty).map (·.size) = some cells.size) (h1 : cells.all (·.oneCell') = true)
    (h : K (a.put o.dst undef) (w.setCells b off cells.toList)) : if Region.wanted o (yielded ops a.tmps) = true then Oper.wp P o a w K Q else E := by
  rw [if_pos hwt]
  exact wp_store_mid ty x y ho b off cells hx hy ht hi h1 h
theorem KeepsFrom.of_below {B : Nat} {a b : World} (h : Below a.heap.size a b) : KeepsFrom B a b := ⟨h.size, fun k _ _ ho _ => (h.block k (Array.getElem?_eq_some_iff.1 ho).1).trans ho⟩
theorem OwnH.keepsFrom {T : TypeId} {B C : Nat} {w w1 w' : World} {v : Value} {L : List (List (BitVec 8))} (h : OwnH T B w v L) (hb : Below w.heap.size w w1) (hg : w1.grownBy w' v.ownBlock) : KeepsFrom C w1 w' :=
  (KeepsOthers.of_grownBy hg fun j o e ho => by
    rcases h.2.2 with ⟨rfl, _⟩ | ⟨G, cap, cur, rfl, _, h2, _⟩
    · cases e
    · injection e with e
      subst e
      have := (hb.block G (Array.getElem?_eq_some_iff.1 h2).1).trans h2
      rw [this] at ho
      injection ho with ho
      subst ho
      rfl).from C
set_option maxRecDepth 100000 in
set_option maxHeartbeats 8000000 in
theorem paired_any (y : Addr) (n c : Nat) (LT : List (List (BitVec 8))) (w : World) (hK : KDg w) (hR : Rows8 32 w (some y) n LT) (hn : n ≤ 1000) (hnc : n ≤ c) :
    Calls Tryz.prog 136 #[.slice (some y) n c] w fun e w' => ∃ v, e = .returned v ∧ OwnH 34 w.heap.size w' v (Dg.up LT) ∧ Below w.heap.size w w' := by
  have hmix : Tryz.prog.follows .mixedOrders = true := rfl
  have HK := Lib.hid (And.intro hK (And.intro hR (And.intro hn hnc)))
  have hiter := fun B1 B2 w1 (h : GdC w B1 B2 (some y) n c w1) => chunk_iter 4 (by omega) B1 B2 y n c hn hnc w w1 h
  clear hK hR hn hnc
  apply calls_wide7
  refine callsIn_of_wp_marks Tryz.func136 rfl trivial ?_ rfl
  simp only [Tryz.ntmps136, List.size_toArray, List.length_cons, List.length_nil, Nat.reduceAdd, Nat.reduceSub, Array.replicate_succ, Array.replicate_zero, List.push_toArray, List.append_toArray, List.nil_append, List.cons_append]
  refine wpIn_wide.2 ?_
  go_wp2_with (first
    | (go_at_call 159; refine (chunk_any _ n c _).mono ?_; rintro e wQ ⟨rfl, rfl⟩))
  obtain ⟨wD, hwD⟩ : ∃ x, x = ((w.alloc (.cells #[.slice none 0 0] 169)).alloc (.cells #[.slice (some y) n c] 169)).alloc (.cells #[.int .i64 2] 3) := ⟨_, rfl⟩
  rw [← hwD]
  have hND : Has wD w.heap.size 169 #[.slice none 0 0] := by rw [hwD]; exact ((Has.fresh _ _ _).past _).past _
  have h1D : Has wD (w.heap.size + 1) 169 #[.slice (some y) n c] := by rw [hwD]; exact (Has.fresh_at _ _ _ (by simp)).past _
  have h2D : Has wD (w.heap.size + 1 + 1) 3 #[.int .i64 2] := by rw [hwD]; exact Has.fresh_at _ _ _ (by simp)
  have hBD : Below w.heap.size w wD := by rw [hwD]; exact (((Below.refl _ w).alloc (Nat.le_refl _) _).alloc (by simp) _).alloc (by simp; omega) _
  have hsD : wD.heap.size = w.heap.size + 3 := by rw [hwD]; simp
  have hgD : GdC w (w.heap.size + 1) (w.heap.size + 1 + 1) (some y) n c wD := ⟨hBD, h1D, h2D⟩
  have HS := Lib.hid hsD
  clear hwD h1D h2D hBD hsD
  refine (wpIn_wide (n := 5)).1 ?_
  refine wpIn_range_told (F := Fence.wide) rfl (by omega) (gf := 184) (lb := #[.pointer (some ⟨w.heap.size + 1, 0, none⟩), .pointer (some ⟨w.heap.size + 1 + 1, 0, none⟩)]) rfl trivial (enters_of Tryz.func184 (by kernel_rfl) rfl)
    (hiter _ _ wD hgD) (Below.refl _ _) (fun _ => rfl)
    (fun h1 h2 h => h2 (h1 h)) (fun W l o o' hl ho hc hg => hg.put o' (by have := HS.out; omega) ho hc) (fun x s' s W W' row h hg hr => h)
    (fun k W => GdC w (w.heap.size + 1) (w.heap.size + 1 + 1) (some y) n c W ∧ ∃ v, Has W w.heap.size 169 #[v] ∧ OwnH 34 wD.heap.size W v ((Dg.up LT).take k))
    (fun _ _ _ => False)
    (fun k W W' row h hg hr => ⟨h.1.own (by have := HS.out; omega) hg hr, by
      obtain ⟨v, h1, h2⟩ := h.2
      exact ⟨v, h1.kept hg (fun r e => (hr r e).2), h2.kept hg (fun r e => (hr r e).2)⟩⟩)
    (fun _ _ _ _ _ h _ _ => h) ⟨hgD, _, hND, OwnH.nil _ _ _⟩
    (fun x => { tmps := #[.slice (some y) n c, undef, .slice none 0 0, .pointer (some ⟨w.heap.size, 0, none⟩), .slice x.1 x.2.1 x.2.2, undef, undef, .slice (some y) n c,
      .func (.func 184) #[] #[.pointer (some ⟨w.heap.size + 1, 0, none⟩), .pointer (some ⟨w.heap.size + 1 + 1, 0, none⟩)], .slice x.1 x.2.1 x.2.2, undef, undef, undef, undef, undef, undef, undef, undef, undef, undef, undef, undef, undef, undef, undef, undef, undef], defers := [] })
    ?assign ?body ?done ?stop
  case assign =>
    intro l x W K hK
    dsimp only [encS]
    gi_wp2
    exact hK
  case stop => exact fun _ _ _ _ _ h => h.elim
  case done =>
    rintro D k W hD rfl ⟨hgW, v, hNW, hoW⟩ hK1
    have cN : W.cell? ⟨w.heap.size, 0, none⟩ = some v := hNW.cell_at rfl
    have HO := Lib.hid (And.intro hoW (And.intro hgW hD))
    clear hgW hoW hNW hD
    go_wp2
    have ho := HO.out.1
    have hs := HS.out
    rw [List.take_of_length_le (by rw [Dg.up_len, HK.out.2.1.1]; exact Nat.le_refl _)] at ho
    refine leaves_tmp rfl rfl hK1 ⟨v, rfl, ?_, below_put_at HO.out.2.1.1 HO.out.2.1.1.size (by have := HO.out.2.2; omega) _⟩
    exact (ho.kept (grownBy_putObj' W D _) (fun r e => by cases e; exact ⟨_, hK1, rfl⟩)).low (by omega)
  case body =>
    rintro lp k ⟨ya, xm, xc⟩ k' W ⟨hgW, v, hNW, hoW⟩ ⟨rfl, hk, hxe⟩ hsz
    obtain ⟨e, he⟩ : ∃ e, e = min 2 (n - 2 * k) := ⟨_, rfl⟩
    rw [← he] at hxe
    injection hxe with h1 h2
    injection h2 with h2 h3
    subst ya xm xc
    obtain ⟨p, hp⟩ : ∃ p, p = 2 * k := ⟨_, rfl⟩
    rw [← hp] at he hk ⊢
    obtain ⟨r, hr⟩ : ∃ r, r = e - 1 := ⟨_, rfl⟩
    have hri : (e : Int) - 1 = (r : Int) := by omega
    have hrw : IntKind.i64.wrap (r : Int) = (r : Int) := IntWalk.i64_in _ (by omega)
    have hr0 : (0 : Int) ≤ (r : Int) := by omega
    have hre : (r : Int) < (e : Int) := by omega
    have he0 : (0 : Int) < (e : Int) := by omega
    have he0n : 0 < e := by omega
    have hren : r < e := by omega
    obtain ⟨l1, hl1⟩ : ∃ l, l = LT.getD p [] := ⟨_, rfl⟩
    obtain ⟨l2, hl2⟩ : ∃ l, l = LT.getD (p + r) [] := ⟨_, rfl⟩
    have hRW := HK.out.2.1
    have hl1l : l1.length = 32 := by rw [hl1]; exact hRW.len (by omega)
    have hl2l : l2.length = 32 := by rw [hl2]; exact hRW.len (by omega)
    have hrun : ∀ (i : Nat) (wq : World), Below w.heap.size w wq → i < n → (Instr.loadAt 34 (.pointer (some (y.add (i * 32))))).run Tryz.prog wq = .ok (.agg (blist (LT.getD i [])).toArray) wq := fun i wq h hi => by
      obtain ⟨x', e, hx⟩ := (hRW.below h).load (P := Tryz.prog) Tryz.underlying34 (by kernel_rfl) hi
      injection e with e
      subst e
      exact hx
    obtain ⟨yk, hyk⟩ : ∃ z, z = y.add (p * 32) := ⟨_, rfl⟩
    have H1 := Lib.hid (show ∀ wq, Below w.heap.size w wq → (Instr.loadAt 34 (.pointer (some yk))).run Tryz.prog wq = .ok (.agg (blist l1).toArray) wq from fun wq h => by
      rw [hl1, hyk]
      exact hrun p wq h hk)
    have H2 := Lib.hid (show ∀ wq, Below w.heap.size w wq → (Instr.loadAt 34 (.pointer (some (yk.add (r * 32))))).run Tryz.prog wq = .ok (.agg (blist l2).toArray) wq from fun wq h => by
      rw [hl2, hyk, Addr.add_add, ← Nat.add_mul]
      exact hrun (p + r) wq h (by omega))
    have HUP := Lib.hid (show (Dg.up LT).take (k + 1) = (Dg.up LT).take k ++ [Dg.double (l1 ++ l2)] from Dg.up_take (by rw [hRW.1]; omega) l1 l2 (by rw [hl1, hp]) (by
      rw [hl2, hRW.1]
      congr 1
      split <;> omega))
    have HLL := Lib.hid (And.intro hl1l hl2l)
    have HP := Lib.hid (And.intro hp (And.intro he (And.intro hr hk)))
    rw [← hyk]
    dsimp only
    have HYK := Lib.hid hyk
    clear hl1 hl2 hRW hl1l hl2l hrun hyk hp he hr hk
    gi_wp2
    refine wpIn_round_held (S := Held W) hmix (by simp) (fun ⟨_, _, h⟩ => (h : False)) (Held.of (Below.refl _ _).drew) (fun hHeld => ?_)
    obtain ⟨wd, hwd⟩ : ∃ x, x = W.drew := ⟨_, rfl⟩
    rw [← hwd] at hHeld ⊢
    have hCd : Below W.heap.size W wd := by rw [hwd]; exact (Below.refl _ _).drew
    clear hwd
    refine take_at (v := ?_) 0 10 rfl rfl (by kernel_rfl) (by kernel_rfl) (by kernel_rfl) (fun _ _ _ h => h) hHeld (Or.inl ⟨by rfl, ?_⟩) rfl ?_
    rotate_left
    · intro wq hSw
      go_simp
      try with_reducible rfl
    simp only [List.set_cons_zero, List.set_cons_succ]
    refine take_at (v := ?_) 1 11 rfl rfl (by kernel_rfl) (by kernel_rfl) (by kernel_rfl) (fun _ _ _ h => h) hHeld (Or.inl ⟨by rfl, ?_⟩) rfl ?_
    rotate_left
    · intro wq hSw
      go_simp
      try with_reducible rfl
    simp only [List.set_cons_zero, List.set_cons_succ]
    refine take_at 2 12 rfl rfl (by kernel_rfl) (by kernel_rfl) (by kernel_rfl) (fun _ _ _ h => h) hHeld (yieldsIf_load_run (by rfl) 34 (.tmp 11) rfl _ _ (by rfl) (fun wq hSw => H1.out wq (hgW.1.trans (hSw.below.mono hgW.1.size)))) rfl ?_
    simp only [List.set_cons_zero, List.set_cons_succ]
    refine take_at (v := ?_) 3 13 rfl rfl (by kernel_rfl) (by kernel_rfl) (by kernel_rfl) (fun _ _ _ h => h) hHeld (Or.inl ⟨by rfl, ?_⟩) rfl ?_
    rotate_left
    · intro wq hSw
      go_simp
      try with_reducible rfl
    simp only [List.set_cons_zero, List.set_cons_succ]
    refine take_at (v := ?_) 4 14 rfl rfl (by kernel_rfl) (by kernel_rfl) (by kernel_rfl) (fun _ _ _ h => h) hHeld (Or.inl ⟨by rfl, ?_⟩) rfl ?_
    rotate_left
    · intro wq hSw
      go_simp
      try with_reducible rfl
    simp only [List.set_cons_zero, List.set_cons_succ]
    refine take_at (v := ?_) 5 15 rfl rfl (by kernel_rfl) (by kernel_rfl) (by kernel_rfl) (fun _ _ _ h => h) hHeld (Or.inl ⟨by rfl, ?_⟩) rfl ?_
    rotate_left
    · intro wq hSw
      go_simp
      try with_reducible rfl
    simp only [List.set_cons_zero, List.set_cons_succ]
    refine take_at (v := ?_) 6 16 rfl rfl (by kernel_rfl) (by kernel_rfl) (by kernel_rfl) (fun _ _ _ h => h) hHeld (Or.inl ⟨by rfl, ?_⟩) rfl ?_
    rotate_left
    · intro wq hSw
      go_simp
      try with_reducible rfl
    simp only [List.set_cons_zero, List.set_cons_succ]
    refine take_at (v := ?_) 7 17 rfl rfl (by kernel_rfl) (by kernel_rfl) (by kernel_rfl) (fun _ _ _ h => h) hHeld (Or.inl ⟨by rfl, ?_⟩) rfl ?_
    rotate_left
    · intro wq hSw
      go_simp
      try with_reducible rfl
    simp only [List.set_cons_zero, List.set_cons_succ]
    refine take_at 8 18 rfl rfl (by kernel_rfl) (by kernel_rfl) (by kernel_rfl) (fun _ _ _ h => h) hHeld (yieldsIf_load_run (by rfl) 34 (.tmp 17) rfl _ _ (by rfl) (fun wq hSw => H2.out wq (hgW.1.trans (hSw.below.mono hgW.1.size)))) rfl ?_
    simp only [List.set_cons_zero, List.set_cons_succ]
    have hCwd := hCd
    refine wpAnyH_ready (rs := [9, 10]) (by kernel_rfl) (by simp) ?_
    refine AllReadyH.cons rfl (fun K hK => ?_) (AllReadyH.cons rfl (fun K hK => ?_) AllReadyH.nil)
    · go_simp
      obtain ⟨wa, hwa⟩ : ∃ x, x = wd.alloc (.cells z32 34) := ⟨_, rfl⟩
      obtain ⟨g5, hg5⟩ : ∃ x, x = wd.heap.size := ⟨_, rfl⟩
      rw [← hwa, ← hg5]
      have hCwa : Below W.heap.size W wa := by rw [hwa]; exact hCwd.alloc hCwd.size _
      have hZg5 : Has wa g5 34 z32 := by rw [hwa, hg5]; exact Has.fresh _ _ _
      have hLg5 : W.heap.size ≤ g5 := by rw [hg5]; exact hCwd.size
      have HGg5 := Lib.hid hg5
      have HWwa := Lib.hid hwa
      clear hg5 hwa
      refine hK.out _ _ (Held.of hCwa) (fun _ => ?_)
      clear hK K
      try simp only [Act.put, List.setIfInBounds_toArray, List.set_cons_zero, List.set_cons_succ]
      replace hHeld := Held.of hCwa
      refine wpAnyH_ready (rs := [10]) (by kernel_rfl) (by simp) ?_
      refine AllReadyH.cons rfl (fun K hK => ?_) AllReadyH.nil
      have hlt1 := hZg5.lt
      go_simp
      obtain ⟨wb, hwb⟩ : ∃ x, x = wa.alloc (.cells z32 34) := ⟨_, rfl⟩
      obtain ⟨g6, hg6⟩ : ∃ x, x = wa.heap.size := ⟨_, rfl⟩
      rw [← hwb, ← hg6]
      have hCwb : Below W.heap.size W wb := by rw [hwb]; exact hCwa.alloc hCwa.size _
      have hZg6 : Has wb g6 34 z32 := by rw [hwb, hg6]; exact Has.fresh _ _ _
      have hLg6 : W.heap.size ≤ g6 := by rw [hg6]; exact hCwa.size
      have HGg6 := Lib.hid hg6
      have HWwb := Lib.hid hwb
      clear hg6 hwb
      refine hK.out _ _ (Held.of hCwb) (fun _ => ?_)
      clear hK K
      try simp only [Act.put, List.setIfInBounds_toArray, List.set_cons_zero, List.set_cons_succ]
      replace hHeld := Held.of hCwb
      have hne : g5 ≠ g6 := by
        have := hZg5.lt
        rw [HGg6.out]
        omega
      have hZZ : Has wb g5 34 z32 := by rw [HWwb.out]; exact hZg5.past _
      clear hlt1
      refine wpAnyH_ready (rs := [11]) (by kernel_rfl) (by simp) ?_
      refine AllReadyH.cons rfl (fun K hK => ?_) AllReadyH.nil
      refine step_store_mid (by rfl) 34 (.tmp 5) (.tmp 12) rfl g5 0 (blist l1).toArray (by simp [Act.eval]) (by simp [Act.eval]) (hZZ.there 0 _ (by rw [List.size_toArray, blist_length, HLL.out.1]; decide)) (size_hash' HLL.out.1) (one_hash l1) ?_
      obtain ⟨wc, hwc⟩ : ∃ x, x = wb.setCells g5 0 (blist l1).toArray.toList := ⟨_, rfl⟩
      rw [← hwc]
      have hCwc : Below W.heap.size W wc := by rw [hwc]; exact below_setAll hLg5 _ 0 hCwb
      have hVg5 : Has wc g5 34 (blist l1).toArray := by rw [hwc]; exact hZZ.whole_cs (by rw [List.size_toArray, blist_length, HLL.out.1]; rfl)
      refine hK.out _ _ (Held.of hCwc) (fun _ => ?_)
      clear hK K
      try simp only [Act.put]
      replace hHeld := Held.of hCwc
      have hY6 : Has wc g6 34 z32 := by rw [hwc]; exact hZg6.asideAll (fun e => hne e.symm) _ 0
      refine wpAnyH_ready (rs := [12]) (by kernel_rfl) (by simp) ?_
      refine AllReadyH.cons rfl (fun K hK => ?_) AllReadyH.nil
      refine step_store_mid (by rfl) 34 (.tmp 6) (.tmp 18) rfl g6 0 (blist l2).toArray (by simp [Act.eval]) (by simp [Act.eval]) (hY6.there 0 _ (by rw [List.size_toArray, blist_length, HLL.out.2]; decide)) (size_hash' HLL.out.2) (one_hash l2) ?_
      obtain ⟨w4, hw4⟩ : ∃ x, x = wc.setCells g6 0 (blist l2).toArray.toList := ⟨_, rfl⟩
      rw [← hw4]
      have hCw4 : Below W.heap.size W w4 := by rw [hw4]; exact below_setAll hLg6 _ 0 hCwc
      have hVg6 : Has w4 g6 34 (blist l2).toArray := by rw [hw4]; exact hY6.whole_cs (by rw [List.size_toArray, blist_length, HLL.out.2]; rfl)
      refine hK.out _ _ (Held.of hCw4) (fun _ => ?_)
      clear hK K
      try simp only [Act.put]
      replace hHeld := Held.of hCw4
      have hV5 : Has w4 g5 34 (blist l1).toArray := by rw [hw4]; exact hVg5.asideAll hne _ 0
      have hV6 := hVg6
      have HW4 := Lib.hid (And.intro hCw4 (And.intro hV5 hV6))
      clear hwc hw4 hCwa hCwb hCwc hCw4 hZg5 hZg6 hZZ hY6 hVg5 hVg6 hV5 hV6 hLg5 hLg6 hne hHeld hCd
      refine wpAnyH_done (by kernel_rfl) ?_ _
      gi_wp2
      refine wpIn_round_held (S := fun _ => True) hmix (by simp) (fun ⟨_, _, h⟩ => (h : False)) trivial (fun hHeld => ?_)
      obtain ⟨we, hwe⟩ : ∃ x, x = w4.drew := ⟨_, rfl⟩
      rw [← hwe]
      have hCe : Below W.heap.size W we := by rw [hwe]; exact HW4.out.1.drew
      have h5e : Has we g5 34 (blist l1).toArray := by rw [hwe]; exact HW4.out.2.1.draw
      have h6e : Has we g6 34 (blist l2).toArray := by rw [hwe]; exact HW4.out.2.2.draw
      clear hwe
      have hTe : Below w.heap.size w we := hgW.1.trans (hCe.mono hgW.1.size)
      have hNe := hNW.under hCe hNW.lt
      have hoe := hoW.below hCe
      refine take_at (v := ?_) 1 20 rfl rfl (by kernel_rfl) (by kernel_rfl) (by kernel_rfl) (fun _ _ _ h => h) hHeld (Or.inl ⟨by rfl, ?_⟩) rfl ?_
      rotate_left
      · intro wq hSw
        go_simp
        try with_reducible rfl
      simp only [List.set_cons_zero, List.set_cons_succ]
      refine take_at (v := ?_) 2 21 rfl rfl (by kernel_rfl) (by kernel_rfl) (by kernel_rfl) (fun _ _ _ h => h) hHeld (Or.inl ⟨by rfl, ?_⟩) rfl ?_
      rotate_left
      · intro wq hSw
        go_simp
        try with_reducible rfl
      simp only [List.set_cons_zero, List.set_cons_succ]
      obtain ⟨wf, hwf⟩ : ∃ x, x = we.alloc (.cells #[.slice (some ⟨g5, 0, none⟩) 32 32, .slice (some ⟨g6, 0, none⟩) 32 32] 163) := ⟨_, rfl⟩
      have hPf : Parts wf (some ⟨we.heap.size, 0, none⟩) 2 [l1, l2] := by rw [hwf]; exact parts_two 163 (bytes_has32 h5e HLL.out.1) (Nat.le_refl _) (fun e => by cases e) (bytes_has32 h6e HLL.out.2) (Nat.le_refl _) (fun e => by cases e)
      have hCf : Below W.heap.size W wf := by rw [hwf]; exact hCe.alloc hCe.size _
      have hTf := hgW.1.trans (hCf.mono hgW.1.size)
      have hNf := hNW.under hCf hNW.lt
      have hDf := ddouble_any _ 2 2 [l1, l2] wf (HK.out.1.below hTf) hPf (by omega) (by simp [HLL.out.1, HLL.out.2])
      rw [show [l1, l2].flatten = l1 ++ l2 by simp] at hDf
      obtain ⟨dd, hdd⟩ : ∃ x, x = Dg.double (l1 ++ l2) := ⟨_, rfl⟩
      rw [← hdd] at hDf HUP
      have HDD := Lib.hid (show dd.length = 32 by rw [hdd]; exact Dg.double_len _)
      have HDF := Lib.hid hDf
      have HWF := Lib.hid hwf
      clear hdd hDf hPf h5e h6e hwf
      refine wpAnyH_ready (rs := [0, 3]) (by kernel_rfl) (by simp) ?_
      refine AllReadyH.cons rfl (fun K hK => ?_) (AllReadyH.cons rfl (fun K hK => ?_) (AllReadyH.nil))
      · have cN : we.cell? ⟨w.heap.size, 0, none⟩ = some v := hNe.cell_at rfl
        go_simp
        refine hK.out _ _ trivial (fun _ => ?_)
        clear hK K cN
        try simp only [Act.put, List.setIfInBounds_toArray, List.set_cons_zero, List.set_cons_succ]
        refine wpAnyH_ready (rs := [3]) (by kernel_rfl) (by simp) ?_
        refine AllReadyH.cons rfl (fun K hK => ?_) (AllReadyH.nil)
        go_simp
        rw [← HWF.out]
        refine hK.out _ _ trivial (fun _ => ?_)
        clear hK K
        try simp only [Act.put, List.setIfInBounds_toArray, List.set_cons_zero, List.set_cons_succ]
        refine wpAnyH_ready (rs := [4]) (by kernel_rfl) (by simp) ?_
        refine AllReadyH.cons rfl (fun K hK => ?_) (AllReadyH.nil)
        go_simp
        go_at_call 96
        refine HDF.out.mono ?_
        rintro e wg ⟨rfl, hbg⟩
        have hCg : Below W.heap.size W wg := hCf.trans (hbg.mono hCf.size)
        have hNg := hNW.under hCg hNW.lt
        refine hK.out _ _ trivial (fun _ => ?_)
        clear hK K
        try simp only [Act.put, List.setIfInBounds_toArray, List.set_cons_zero, List.set_cons_succ]
        refine wpAnyH_ready (rs := [5]) (by kernel_rfl) (by simp) ?_
        refine AllReadyH.cons rfl (fun K hK => ?_) (AllReadyH.nil)
        refine step_build_hash (by rfl) (.tmp 23) 169 rfl 34 Tryz.underlying169 info_hash dd HDD.out (by simp [Act.eval]) ?_
        have hCh : Below W.heap.size W (wg.alloc (.cells (blist dd).toArray 34)) := hCg.alloc hCg.size _
        have hNh := hNW.under hCh hNW.lt
        refine hK.out _ _ trivial (fun _ => ?_)
        clear hK K
        try simp only [Act.put]
        try simp only [List.setIfInBounds_toArray]
        try simp only [List.set_cons_zero, List.set_cons_succ]
        refine wpAnyH_ready (rs := [6]) (by kernel_rfl) (by simp) ?_
        refine AllReadyH.cons rfl (fun K hK => ?_) AllReadyH.nil
        have hog := hoW.below hCg
        refine step_append_hash (by rfl) (.tmp 19) (.tmp 24) 169 rfl 34 Tryz.underlying169 info_hash wD.heap.size _ _ (by simp [Act.eval]) hog dd HDD.out _ rfl (by simp [Act.eval]) (by rw [List.length_take, Dg.up_len]; have := HK.out; have := HK.out.2.1.1; omega) (Nat.le_trans hsz hCg.size) ?_
        intro v8 w8 ho8 hg8
        rw [← HUP.out] at ho8
        obtain ⟨K8, hK8⟩ : ∃ K, (List.take (k + 1) (Dg.up LT)).length = K := ⟨_, rfl⟩
        have ho8' := ho8
        obtain ⟨a8, cp8, rfl, _, _, _⟩ := ho8.shape hK8
        clear hK8 ho8
        have hB8 : Below wD.heap.size (wg.alloc (.cells (blist dd).toArray 34)) w8 := (Below.refl _ _).grown hg8 (Nat.le_trans hsz hCh.size) hog.lt
        have hF8 : KeepsFrom wD.heap.size (wg.alloc (.cells (blist dd).toArray 34)) w8 := hog.keepsFrom ((Below.refl _ _).alloc (Nat.le_refl _) _) hg8
        have hk8 : KeepsFrom wD.heap.size W w8 := (KeepsFrom.of_below hCh).trans hF8
        have hN8 := hNh.under hB8 (by have := HS.out; omega)
        have hg8' : GdC w (w.heap.size + 1) (w.heap.size + 1 + 1) (some y) n c w8 := ⟨(hgW.1.trans (hCh.mono hgW.1.size)).trans (hB8.mono (by have := HS.out; omega)), (hgW.2.1.under hCh hgW.2.1.lt).under hB8 (by have := HS.out; omega), (hgW.2.2.under hCh hgW.2.2.lt).under hB8 (by have := HS.out; omega)⟩
        refine hK.out _ _ trivial (fun _ => ?_)
        clear hK K
        try simp only [Act.put]
        try simp only [List.setIfInBounds_toArray]
        try simp only [List.set_cons_zero, List.set_cons_succ]
        have c8 : w8.cell? ⟨w.heap.size, 0, none⟩ = some v := hN8.cell_at rfl
        have f8 := hN8.loose 0
        refine wpAnyH_ready (rs := [7]) (by kernel_rfl) (by simp) ?_
        refine AllReadyH.cons rfl (fun K hK => ?_) AllReadyH.nil
        go_simp
        refine hK.out _ _ trivial (fun _ => ?_)
        clear hK K
        try simp only [Act.put, List.setIfInBounds_toArray, List.set_cons_zero, List.set_cons_succ]
        refine wpAnyH_done (by kernel_rfl) ?_ _
        gi_wp2
        refine ⟨hk8.trans ((KeepsOthers.setCell _ _ _).from _), fun _ => ⟨hg8'.1.setCell (p := ⟨w.heap.size, 0, none⟩) (Nat.le_refl _) _, hg8'.2.1.aside (p := ⟨w.heap.size, 0, none⟩) (by simp) _, hg8'.2.2.aside (p := ⟨w.heap.size, 0, none⟩) (by simp; omega) _⟩, ⟨hg8'.1.setCell (p := ⟨w.heap.size, 0, none⟩) (Nat.le_refl _) _, hg8'.2.1.aside (p := ⟨w.heap.size, 0, none⟩) (by simp) _, hg8'.2.2.aside (p := ⟨w.heap.size, 0, none⟩) (by simp; omega) _⟩, _, hN8.put 0 _, ho8'.aside (p := ⟨w.heap.size, 0, none⟩) (by have := HS.out; show w.heap.size < wD.heap.size; omega) _⟩
      · go_simp
        rw [← HWF.out]
        refine hK.out _ _ trivial (fun _ => ?_)
        clear hK K
        try simp only [Act.put, List.setIfInBounds_toArray, List.set_cons_zero, List.set_cons_succ]
        refine wpAnyH_ready (rs := [0, 4]) (by kernel_rfl) (by simp) ?_
        refine AllReadyH.cons rfl (fun K hK => ?_) (AllReadyH.cons rfl (fun K hK => ?_) (AllReadyH.nil))
        · have cN : wf.cell? ⟨w.heap.size, 0, none⟩ = some v := hNf.cell_at rfl
          go_simp
          refine hK.out _ _ trivial (fun _ => ?_)
          clear hK K cN
          try simp only [Act.put, List.setIfInBounds_toArray, List.set_cons_zero, List.set_cons_succ]
          refine wpAnyH_ready (rs := [4]) (by kernel_rfl) (by simp) ?_
          refine AllReadyH.cons rfl (fun K hK => ?_) (AllReadyH.nil)
          go_simp
          go_at_call 96
          refine HDF.out.mono ?_
          rintro e wg ⟨rfl, hbg⟩
          have hCg : Below W.heap.size W wg := hCf.trans (hbg.mono hCf.size)
          have hNg := hNW.under hCg hNW.lt
          refine hK.out _ _ trivial (fun _ => ?_)
          clear hK K
          try simp only [Act.put, List.setIfInBounds_toArray, List.set_cons_zero, List.set_cons_succ]
          refine wpAnyH_ready (rs := [5]) (by kernel_rfl) (by simp) ?_
          refine AllReadyH.cons rfl (fun K hK => ?_) (AllReadyH.nil)
          refine step_build_hash (by rfl) (.tmp 23) 169 rfl 34 Tryz.underlying169 info_hash dd HDD.out (by simp [Act.eval]) ?_
          have hCh : Below W.heap.size W (wg.alloc (.cells (blist dd).toArray 34)) := hCg.alloc hCg.size _
          have hNh := hNW.under hCh hNW.lt
          refine hK.out _ _ trivial (fun _ => ?_)
          clear hK K
          try simp only [Act.put]
          try simp only [List.setIfInBounds_toArray]
          try simp only [List.set_cons_zero, List.set_cons_succ]
          refine wpAnyH_ready (rs := [6]) (by kernel_rfl) (by simp) ?_
          refine AllReadyH.cons rfl (fun K hK => ?_) AllReadyH.nil
          have hog := hoW.below hCg
          refine step_append_hash (by rfl) (.tmp 19) (.tmp 24) 169 rfl 34 Tryz.underlying169 info_hash wD.heap.size _ _ (by simp [Act.eval]) hog dd HDD.out _ rfl (by simp [Act.eval]) (by rw [List.length_take, Dg.up_len]; have := HK.out; have := HK.out.2.1.1; omega) (Nat.le_trans hsz hCg.size) ?_
          intro v8 w8 ho8 hg8
          rw [← HUP.out] at ho8
          obtain ⟨K8, hK8⟩ : ∃ K, (List.take (k + 1) (Dg.up LT)).length = K := ⟨_, rfl⟩
          have ho8' := ho8
          obtain ⟨a8, cp8, rfl, _, _, _⟩ := ho8.shape hK8
          clear hK8 ho8
          have hB8 : Below wD.heap.size (wg.alloc (.cells (blist dd).toArray 34)) w8 := (Below.refl _ _).grown hg8 (Nat.le_trans hsz hCh.size) hog.lt
          have hF8 : KeepsFrom wD.heap.size (wg.alloc (.cells (blist dd).toArray 34)) w8 := hog.keepsFrom ((Below.refl _ _).alloc (Nat.le_refl _) _) hg8
          have hk8 : KeepsFrom wD.heap.size W w8 := (KeepsFrom.of_below hCh).trans hF8
          have hN8 := hNh.under hB8 (by have := HS.out; omega)
          have hg8' : GdC w (w.heap.size + 1) (w.heap.size + 1 + 1) (some y) n c w8 := ⟨(hgW.1.trans (hCh.mono hgW.1.size)).trans (hB8.mono (by have := HS.out; omega)), (hgW.2.1.under hCh hgW.2.1.lt).under hB8 (by have := HS.out; omega), (hgW.2.2.under hCh hgW.2.2.lt).under hB8 (by have := HS.out; omega)⟩
          refine hK.out _ _ trivial (fun _ => ?_)
          clear hK K
          try simp only [Act.put]
          try simp only [List.setIfInBounds_toArray]
          try simp only [List.set_cons_zero, List.set_cons_succ]
          have c8 : w8.cell? ⟨w.heap.size, 0, none⟩ = some v := hN8.cell_at rfl
          have f8 := hN8.loose 0
          refine wpAnyH_ready (rs := [7]) (by kernel_rfl) (by simp) ?_
          refine AllReadyH.cons rfl (fun K hK => ?_) AllReadyH.nil
          go_simp
          refine hK.out _ _ trivial (fun _ => ?_)
          clear hK K
          try simp only [Act.put, List.setIfInBounds_toArray, List.set_cons_zero, List.set_cons_succ]
          refine wpAnyH_done (by kernel_rfl) ?_ _
          gi_wp2
          refine ⟨hk8.trans ((KeepsOthers.setCell _ _ _).from _), fun _ => ⟨hg8'.1.setCell (p := ⟨w.heap.size, 0, none⟩) (Nat.le_refl _) _, hg8'.2.1.aside (p := ⟨w.heap.size, 0, none⟩) (by simp) _, hg8'.2.2.aside (p := ⟨w.heap.size, 0, none⟩) (by simp; omega) _⟩, ⟨hg8'.1.setCell (p := ⟨w.heap.size, 0, none⟩) (Nat.le_refl _) _, hg8'.2.1.aside (p := ⟨w.heap.size, 0, none⟩) (by simp) _, hg8'.2.2.aside (p := ⟨w.heap.size, 0, none⟩) (by simp; omega) _⟩, _, hN8.put 0 _, ho8'.aside (p := ⟨w.heap.size, 0, none⟩) (by have := HS.out; show w.heap.size < wD.heap.size; omega) _⟩
        · go_simp
          go_at_call 96
          refine HDF.out.mono ?_
          rintro e wg ⟨rfl, hbg⟩
          have hCg : Below W.heap.size W wg := hCf.trans (hbg.mono hCf.size)
          have hNg := hNW.under hCg hNW.lt
          refine hK.out _ _ trivial (fun _ => ?_)
          clear hK K
          try simp only [Act.put, List.setIfInBounds_toArray, List.set_cons_zero, List.set_cons_succ]
          refine wpAnyH_ready (rs := [0, 5]) (by kernel_rfl) (by simp) ?_
          refine AllReadyH.cons rfl (fun K hK => ?_) (AllReadyH.cons rfl (fun K hK => ?_) (AllReadyH.nil))
          · have cN : wg.cell? ⟨w.heap.size, 0, none⟩ = some v := hNg.cell_at rfl
            go_simp
            refine hK.out _ _ trivial (fun _ => ?_)
            clear hK K cN
            try simp only [Act.put, List.setIfInBounds_toArray, List.set_cons_zero, List.set_cons_succ]
            refine wpAnyH_ready (rs := [5]) (by kernel_rfl) (by simp) ?_
            refine AllReadyH.cons rfl (fun K hK => ?_) (AllReadyH.nil)
            refine step_build_hash (by rfl) (.tmp 23) 169 rfl 34 Tryz.underlying169 info_hash dd HDD.out (by simp [Act.eval]) ?_
            have hCh : Below W.heap.size W (wg.alloc (.cells (blist dd).toArray 34)) := hCg.alloc hCg.size _
            have hNh := hNW.under hCh hNW.lt
            refine hK.out _ _ trivial (fun _ => ?_)
            clear hK K
            try simp only [Act.put]
            try simp only [List.setIfInBounds_toArray]
            try simp only [List.set_cons_zero, List.set_cons_succ]
            refine wpAnyH_ready (rs := [6]) (by kernel_rfl) (by simp) ?_
            refine AllReadyH.cons rfl (fun K hK => ?_) AllReadyH.nil
            have hog := hoW.below hCg
            refine step_append_hash (by rfl) (.tmp 19) (.tmp 24) 169 rfl 34 Tryz.underlying169 info_hash wD.heap.size _ _ (by simp [Act.eval]) hog dd HDD.out _ rfl (by simp [Act.eval]) (by rw [List.length_take, Dg.up_len]; have := HK.out; have := HK.out.2.1.1; omega) (Nat.le_trans hsz hCg.size) ?_
            intro v8 w8 ho8 hg8
            rw [← HUP.out] at ho8
            obtain ⟨K8, hK8⟩ : ∃ K, (List.take (k + 1) (Dg.up LT)).length = K := ⟨_, rfl⟩
            have ho8' := ho8
            obtain ⟨a8, cp8, rfl, _, _, _⟩ := ho8.shape hK8
            clear hK8 ho8
            have hB8 : Below wD.heap.size (wg.alloc (.cells (blist dd).toArray 34)) w8 := (Below.refl _ _).grown hg8 (Nat.le_trans hsz hCh.size) hog.lt
            have hF8 : KeepsFrom wD.heap.size (wg.alloc (.cells (blist dd).toArray 34)) w8 := hog.keepsFrom ((Below.refl _ _).alloc (Nat.le_refl _) _) hg8
            have hk8 : KeepsFrom wD.heap.size W w8 := (KeepsFrom.of_below hCh).trans hF8
            have hN8 := hNh.under hB8 (by have := HS.out; omega)
            have hg8' : GdC w (w.heap.size + 1) (w.heap.size + 1 + 1) (some y) n c w8 := ⟨(hgW.1.trans (hCh.mono hgW.1.size)).trans (hB8.mono (by have := HS.out; omega)), (hgW.2.1.under hCh hgW.2.1.lt).under hB8 (by have := HS.out; omega), (hgW.2.2.under hCh hgW.2.2.lt).under hB8 (by have := HS.out; omega)⟩
            refine hK.out _ _ trivial (fun _ => ?_)
            clear hK K
            try simp only [Act.put]
            try simp only [List.setIfInBounds_toArray]
            try simp only [List.set_cons_zero, List.set_cons_succ]
            have c8 : w8.cell? ⟨w.heap.size, 0, none⟩ = some v := hN8.cell_at rfl
            have f8 := hN8.loose 0
            refine wpAnyH_ready (rs := [7]) (by kernel_rfl) (by simp) ?_
            refine AllReadyH.cons rfl (fun K hK => ?_) AllReadyH.nil
            go_simp
            refine hK.out _ _ trivial (fun _ => ?_)
            clear hK K
            try simp only [Act.put, List.setIfInBounds_toArray, List.set_cons_zero, List.set_cons_succ]
            refine wpAnyH_done (by kernel_rfl) ?_ _
            gi_wp2
            refine ⟨hk8.trans ((KeepsOthers.setCell _ _ _).from _), fun _ => ⟨hg8'.1.setCell (p := ⟨w.heap.size, 0, none⟩) (Nat.le_refl _) _, hg8'.2.1.aside (p := ⟨w.heap.size, 0, none⟩) (by simp) _, hg8'.2.2.aside (p := ⟨w.heap.size, 0, none⟩) (by simp; omega) _⟩, ⟨hg8'.1.setCell (p := ⟨w.heap.size, 0, none⟩) (Nat.le_refl _) _, hg8'.2.1.aside (p := ⟨w.heap.size, 0, none⟩) (by simp) _, hg8'.2.2.aside (p := ⟨w.heap.size, 0, none⟩) (by simp; omega) _⟩, _, hN8.put 0 _, ho8'.aside (p := ⟨w.heap.size, 0, none⟩) (by have := HS.out; show w.heap.size < wD.heap.size; omega) _⟩
          · refine step_build_hash (by rfl) (.tmp 23) 169 rfl 34 Tryz.underlying169 info_hash dd HDD.out (by simp [Act.eval]) ?_
            have hCh : Below W.heap.size W (wg.alloc (.cells (blist dd).toArray 34)) := hCg.alloc hCg.size _
            have hNh := hNW.under hCh hNW.lt
            refine hK.out _ _ trivial (fun _ => ?_)
            clear hK K
            try simp only [Act.put]
            try simp only [List.setIfInBounds_toArray]
            try simp only [List.set_cons_zero, List.set_cons_succ]
            refine wpAnyH_ready (rs := [0]) (by kernel_rfl) (by simp) ?_
            refine AllReadyH.cons rfl (fun K hK => ?_) (AllReadyH.nil)
            have cN : (wg.alloc (.cells (blist dd).toArray 34)).cell? ⟨w.heap.size, 0, none⟩ = some v := hNh.cell_at rfl
            go_simp
            refine hK.out _ _ trivial (fun _ => ?_)
            clear hK K cN
            try simp only [Act.put, List.setIfInBounds_toArray, List.set_cons_zero, List.set_cons_succ]
            refine wpAnyH_ready (rs := [6]) (by kernel_rfl) (by simp) ?_
            refine AllReadyH.cons rfl (fun K hK => ?_) AllReadyH.nil
            have hog := hoW.below hCg
            refine step_append_hash (by rfl) (.tmp 19) (.tmp 24) 169 rfl 34 Tryz.underlying169 info_hash wD.heap.size _ _ (by simp [Act.eval]) hog dd HDD.out _ rfl (by simp [Act.eval]) (by rw [List.length_take, Dg.up_len]; have := HK.out; have := HK.out.2.1.1; omega) (Nat.le_trans hsz hCg.size) ?_
            intro v8 w8 ho8 hg8
            rw [← HUP.out] at ho8
            obtain ⟨K8, hK8⟩ : ∃ K, (List.take (k + 1) (Dg.up LT)).length = K := ⟨_, rfl⟩
            have ho8' := ho8
            obtain ⟨a8, cp8, rfl, _, _, _⟩ := ho8.shape hK8
            clear hK8 ho8
            have hB8 : Below wD.heap.size (wg.alloc (.cells (blist dd).toArray 34)) w8 := (Below.refl _ _).grown hg8 (Nat.le_trans hsz hCh.size) hog.lt
            have hF8 : KeepsFrom wD.heap.size (wg.alloc (.cells (blist dd).toArray 34)) w8 := hog.keepsFrom ((Below.refl _ _).alloc (Nat.le_refl _) _) hg8
            have hk8 : KeepsFrom wD.heap.size W w8 := (KeepsFrom.of_below hCh).trans hF8
            have hN8 := hNh.under hB8 (by have := HS.out; omega)
            have hg8' : GdC w (w.heap.size + 1) (w.heap.size + 1 + 1) (some y) n c w8 := ⟨(hgW.1.trans (hCh.mono hgW.1.size)).trans (hB8.mono (by have := HS.out; omega)), (hgW.2.1.under hCh hgW.2.1.lt).under hB8 (by have := HS.out; omega), (hgW.2.2.under hCh hgW.2.2.lt).under hB8 (by have := HS.out; omega)⟩
            refine hK.out _ _ trivial (fun _ => ?_)
            clear hK K
            try simp only [Act.put]
            try simp only [List.setIfInBounds_toArray]
            try simp only [List.set_cons_zero, List.set_cons_succ]
            have c8 : w8.cell? ⟨w.heap.size, 0, none⟩ = some v := hN8.cell_at rfl
            have f8 := hN8.loose 0
            refine wpAnyH_ready (rs := [7]) (by kernel_rfl) (by simp) ?_
            refine AllReadyH.cons rfl (fun K hK => ?_) AllReadyH.nil
            go_simp
            refine hK.out _ _ trivial (fun _ => ?_)
            clear hK K
            try simp only [Act.put, List.setIfInBounds_toArray, List.set_cons_zero, List.set_cons_succ]
            refine wpAnyH_done (by kernel_rfl) ?_ _
            gi_wp2
            refine ⟨hk8.trans ((KeepsOthers.setCell _ _ _).from _), fun _ => ⟨hg8'.1.setCell (p := ⟨w.heap.size, 0, none⟩) (Nat.le_refl _) _, hg8'.2.1.aside (p := ⟨w.heap.size, 0, none⟩) (by simp) _, hg8'.2.2.aside (p := ⟨w.heap.size, 0, none⟩) (by simp; omega) _⟩, ⟨hg8'.1.setCell (p := ⟨w.heap.size, 0, none⟩) (Nat.le_refl _) _, hg8'.2.1.aside (p := ⟨w.heap.size, 0, none⟩) (by simp) _, hg8'.2.2.aside (p := ⟨w.heap.size, 0, none⟩) (by simp; omega) _⟩, _, hN8.put 0 _, ho8'.aside (p := ⟨w.heap.size, 0, none⟩) (by have := HS.out; show w.heap.size < wD.heap.size; omega) _⟩
    · go_simp
      obtain ⟨wa, hwa⟩ : ∃ x, x = wd.alloc (.cells z32 34) := ⟨_, rfl⟩
      obtain ⟨g6, hg6⟩ : ∃ x, x = wd.heap.size := ⟨_, rfl⟩
      rw [← hwa, ← hg6]
      have hCwa : Below W.heap.size W wa := by rw [hwa]; exact hCwd.alloc hCwd.size _
      have hZg6 : Has wa g6 34 z32 := by rw [hwa, hg6]; exact Has.fresh _ _ _
      have hLg6 : W.heap.size ≤ g6 := by rw [hg6]; exact hCwd.size
      have HGg6 := Lib.hid hg6
      have HWwa := Lib.hid hwa
      clear hg6 hwa
      refine hK.out _ _ (Held.of hCwa) (fun _ => ?_)
      clear hK K
      try simp only [Act.put, List.setIfInBounds_toArray, List.set_cons_zero, List.set_cons_succ]
      replace hHeld := Held.of hCwa
      refine wpAnyH_ready (rs := [9]) (by kernel_rfl) (by simp) ?_
      refine AllReadyH.cons rfl (fun K hK => ?_) AllReadyH.nil
      have hlt1 := hZg6.lt
      go_simp
      obtain ⟨wb, hwb⟩ : ∃ x, x = wa.alloc (.cells z32 34) := ⟨_, rfl⟩
      obtain ⟨g5, hg5⟩ : ∃ x, x = wa.heap.size := ⟨_, rfl⟩
      rw [← hwb, ← hg5]
      have hCwb : Below W.heap.size W wb := by rw [hwb]; exact hCwa.alloc hCwa.size _
      have hZg5 : Has wb g5 34 z32 := by rw [hwb, hg5]; exact Has.fresh _ _ _
      have hLg5 : W.heap.size ≤ g5 := by rw [hg5]; exact hCwa.size
      have HGg5 := Lib.hid hg5
      have HWwb := Lib.hid hwb
      clear hg5 hwb
      refine hK.out _ _ (Held.of hCwb) (fun _ => ?_)
      clear hK K
      try simp only [Act.put, List.setIfInBounds_toArray, List.set_cons_zero, List.set_cons_succ]
      replace hHeld := Held.of hCwb
      have hne : g5 ≠ g6 := by
        have := hZg6.lt
        rw [HGg5.out]
        omega
      have hZZ : Has wb g6 34 z32 := by rw [HWwb.out]; exact hZg6.past _
      clear hlt1
      refine wpAnyH_ready (rs := [11]) (by kernel_rfl) (by simp) ?_
      refine AllReadyH.cons rfl (fun K hK => ?_) AllReadyH.nil
      refine step_store_mid (by rfl) 34 (.tmp 5) (.tmp 12) rfl g5 0 (blist l1).toArray (by simp [Act.eval]) (by simp [Act.eval]) (hZg5.there 0 _ (by rw [List.size_toArray, blist_length, HLL.out.1]; decide)) (size_hash' HLL.out.1) (one_hash l1) ?_
      obtain ⟨wc, hwc⟩ : ∃ x, x = wb.setCells g5 0 (blist l1).toArray.toList := ⟨_, rfl⟩
      rw [← hwc]
      have hCwc : Below W.heap.size W wc := by rw [hwc]; exact below_setAll hLg5 _ 0 hCwb
      have hVg5 : Has wc g5 34 (blist l1).toArray := by rw [hwc]; exact hZg5.whole_cs (by rw [List.size_toArray, blist_length, HLL.out.1]; rfl)
      refine hK.out _ _ (Held.of hCwc) (fun _ => ?_)
      clear hK K
      try simp only [Act.put]
      replace hHeld := Held.of hCwc
      have hY6 : Has wc g6 34 z32 := by rw [hwc]; exact hZZ.asideAll (fun e => hne e.symm) _ 0
      refine wpAnyH_ready (rs := [12]) (by kernel_rfl) (by simp) ?_
      refine AllReadyH.cons rfl (fun K hK => ?_) AllReadyH.nil
      refine step_store_mid (by rfl) 34 (.tmp 6) (.tmp 18) rfl g6 0 (blist l2).toArray (by simp [Act.eval]) (by simp [Act.eval]) (hY6.there 0 _ (by rw [List.size_toArray, blist_length, HLL.out.2]; decide)) (size_hash' HLL.out.2) (one_hash l2) ?_
      obtain ⟨w4, hw4⟩ : ∃ x, x = wc.setCells g6 0 (blist l2).toArray.toList := ⟨_, rfl⟩
      rw [← hw4]
      have hCw4 : Below W.heap.size W w4 := by rw [hw4]; exact below_setAll hLg6 _ 0 hCwc
      have hVg6 : Has w4 g6 34 (blist l2).toArray := by rw [hw4]; exact hY6.whole_cs (by rw [List.size_toArray, blist_length, HLL.out.2]; rfl)
      refine hK.out _ _ (Held.of hCw4) (fun _ => ?_)
      clear hK K
      try simp only [Act.put]
      replace hHeld := Held.of hCw4
      have hV5 : Has w4 g5 34 (blist l1).toArray := by rw [hw4]; exact hVg5.asideAll hne _ 0
      have hV6 := hVg6
      have HW4 := Lib.hid (And.intro hCw4 (And.intro hV5 hV6))
      clear hwc hw4 hCwa hCwb hCwc hCw4 hZg5 hZg6 hZZ hY6 hVg5 hVg6 hV5 hV6 hLg5 hLg6 hne hHeld hCd
      refine wpAnyH_done (by kernel_rfl) ?_ _
      gi_wp2
      refine wpIn_round_held (S := fun _ => True) hmix (by simp) (fun ⟨_, _, h⟩ => (h : False)) trivial (fun hHeld => ?_)
      obtain ⟨we, hwe⟩ : ∃ x, x = w4.drew := ⟨_, rfl⟩
      rw [← hwe]
      have hCe : Below W.heap.size W we := by rw [hwe]; exact HW4.out.1.drew
      have h5e : Has we g5 34 (blist l1).toArray := by rw [hwe]; exact HW4.out.2.1.draw
      have h6e : Has we g6 34 (blist l2).toArray := by rw [hwe]; exact HW4.out.2.2.draw
      clear hwe
      have hTe : Below w.heap.size w we := hgW.1.trans (hCe.mono hgW.1.size)
      have hNe := hNW.under hCe hNW.lt
      have hoe := hoW.below hCe
      refine take_at (v := ?_) 1 20 rfl rfl (by kernel_rfl) (by kernel_rfl) (by kernel_rfl) (fun _ _ _ h => h) hHeld (Or.inl ⟨by rfl, ?_⟩) rfl ?_
      rotate_left
      · intro wq hSw
        go_simp
        try with_reducible rfl
      simp only [List.set_cons_zero, List.set_cons_succ]
      refine take_at (v := ?_) 2 21 rfl rfl (by kernel_rfl) (by kernel_rfl) (by kernel_rfl) (fun _ _ _ h => h) hHeld (Or.inl ⟨by rfl, ?_⟩) rfl ?_
      rotate_left
      · intro wq hSw
        go_simp
        try with_reducible rfl
      simp only [List.set_cons_zero, List.set_cons_succ]
      obtain ⟨wf, hwf⟩ : ∃ x, x = we.alloc (.cells #[.slice (some ⟨g5, 0, none⟩) 32 32, .slice (some ⟨g6, 0, none⟩) 32 32] 163) := ⟨_, rfl⟩
      have hPf : Parts wf (some ⟨we.heap.size, 0, none⟩) 2 [l1, l2] := by rw [hwf]; exact parts_two 163 (bytes_has32 h5e HLL.out.1) (Nat.le_refl _) (fun e => by cases e) (bytes_has32 h6e HLL.out.2) (Nat.le_refl _) (fun e => by cases e)
      have hCf : Below W.heap.size W wf := by rw [hwf]; exact hCe.alloc hCe.size _
      have hTf := hgW.1.trans (hCf.mono hgW.1.size)
      have hNf := hNW.under hCf hNW.lt
      have hDf := ddouble_any _ 2 2 [l1, l2] wf (HK.out.1.below hTf) hPf (by omega) (by simp [HLL.out.1, HLL.out.2])
      rw [show [l1, l2].flatten = l1 ++ l2 by simp] at hDf
      obtain ⟨dd, hdd⟩ : ∃ x, x = Dg.double (l1 ++ l2) := ⟨_, rfl⟩
      rw [← hdd] at hDf HUP
      have HDD := Lib.hid (show dd.length = 32 by rw [hdd]; exact Dg.double_len _)
      have HDF := Lib.hid hDf
      have HWF := Lib.hid hwf
      clear hdd hDf hPf h5e h6e hwf
      refine wpAnyH_ready (rs := [0, 3]) (by kernel_rfl) (by simp) ?_
      refine AllReadyH.cons rfl (fun K hK => ?_) (AllReadyH.cons rfl (fun K hK => ?_) (AllReadyH.nil))
      · have cN : we.cell? ⟨w.heap.size, 0, none⟩ = some v := hNe.cell_at rfl
        go_simp
        refine hK.out _ _ trivial (fun _ => ?_)
        clear hK K cN
        try simp only [Act.put, List.setIfInBounds_toArray, List.set_cons_zero, List.set_cons_succ]
        refine wpAnyH_ready (rs := [3]) (by kernel_rfl) (by simp) ?_
        refine AllReadyH.cons rfl (fun K hK => ?_) (AllReadyH.nil)
        go_simp
        rw [← HWF.out]
        refine hK.out _ _ trivial (fun _ => ?_)
        clear hK K
        try simp only [Act.put, List.setIfInBounds_toArray, List.set_cons_zero, List.set_cons_succ]
        refine wpAnyH_ready (rs := [4]) (by kernel_rfl) (by simp) ?_
        refine AllReadyH.cons rfl (fun K hK => ?_) (AllReadyH.nil)
        go_simp
        go_at_call 96
        refine HDF.out.mono ?_
        rintro e wg ⟨rfl, hbg⟩
        have hCg : Below W.heap.size W wg := hCf.trans (hbg.mono hCf.size)
        have hNg := hNW.under hCg hNW.lt
        refine hK.out _ _ trivial (fun _ => ?_)
        clear hK K
        try simp only [Act.put, List.setIfInBounds_toArray, List.set_cons_zero, List.set_cons_succ]
        refine wpAnyH_ready (rs := [5]) (by kernel_rfl) (by simp) ?_
        refine AllReadyH.cons rfl (fun K hK => ?_) (AllReadyH.nil)
        refine step_build_hash (by rfl) (.tmp 23) 169 rfl 34 Tryz.underlying169 info_hash dd HDD.out (by simp [Act.eval]) ?_
        have hCh : Below W.heap.size W (wg.alloc (.cells (blist dd).toArray 34)) := hCg.alloc hCg.size _
        have hNh := hNW.under hCh hNW.lt
        refine hK.out _ _ trivial (fun _ => ?_)
        clear hK K
        try simp only [Act.put]
        try simp only [List.setIfInBounds_toArray]
        try simp only [List.set_cons_zero, List.set_cons_succ]
        refine wpAnyH_ready (rs := [6]) (by kernel_rfl) (by simp) ?_
        refine AllReadyH.cons rfl (fun K hK => ?_) AllReadyH.nil
        have hog := hoW.below hCg
        refine step_append_hash (by rfl) (.tmp 19) (.tmp 24) 169 rfl 34 Tryz.underlying169 info_hash wD.heap.size _ _ (by simp [Act.eval]) hog dd HDD.out _ rfl (by simp [Act.eval]) (by rw [List.length_take, Dg.up_len]; have := HK.out; have := HK.out.2.1.1; omega) (Nat.le_trans hsz hCg.size) ?_
        intro v8 w8 ho8 hg8
        rw [← HUP.out] at ho8
        obtain ⟨K8, hK8⟩ : ∃ K, (List.take (k + 1) (Dg.up LT)).length = K := ⟨_, rfl⟩
        have ho8' := ho8
        obtain ⟨a8, cp8, rfl, _, _, _⟩ := ho8.shape hK8
        clear hK8 ho8
        have hB8 : Below wD.heap.size (wg.alloc (.cells (blist dd).toArray 34)) w8 := (Below.refl _ _).grown hg8 (Nat.le_trans hsz hCh.size) hog.lt
        have hF8 : KeepsFrom wD.heap.size (wg.alloc (.cells (blist dd).toArray 34)) w8 := hog.keepsFrom ((Below.refl _ _).alloc (Nat.le_refl _) _) hg8
        have hk8 : KeepsFrom wD.heap.size W w8 := (KeepsFrom.of_below hCh).trans hF8
        have hN8 := hNh.under hB8 (by have := HS.out; omega)
        have hg8' : GdC w (w.heap.size + 1) (w.heap.size + 1 + 1) (some y) n c w8 := ⟨(hgW.1.trans (hCh.mono hgW.1.size)).trans (hB8.mono (by have := HS.out; omega)), (hgW.2.1.under hCh hgW.2.1.lt).under hB8 (by have := HS.out; omega), (hgW.2.2.under hCh hgW.2.2.lt).under hB8 (by have := HS.out; omega)⟩
        refine hK.out _ _ trivial (fun _ => ?_)
        clear hK K
        try simp only [Act.put]
        try simp only [List.setIfInBounds_toArray]
        try simp only [List.set_cons_zero, List.set_cons_succ]
        have c8 : w8.cell? ⟨w.heap.size, 0, none⟩ = some v := hN8.cell_at rfl
        have f8 := hN8.loose 0
        refine wpAnyH_ready (rs := [7]) (by kernel_rfl) (by simp) ?_
        refine AllReadyH.cons rfl (fun K hK => ?_) AllReadyH.nil
        go_simp
        refine hK.out _ _ trivial (fun _ => ?_)
        clear hK K
        try simp only [Act.put, List.setIfInBounds_toArray, List.set_cons_zero, List.set_cons_succ]
        refine wpAnyH_done (by kernel_rfl) ?_ _
        gi_wp2
        refine ⟨hk8.trans ((KeepsOthers.setCell _ _ _).from _), fun _ => ⟨hg8'.1.setCell (p := ⟨w.heap.size, 0, none⟩) (Nat.le_refl _) _, hg8'.2.1.aside (p := ⟨w.heap.size, 0, none⟩) (by simp) _, hg8'.2.2.aside (p := ⟨w.heap.size, 0, none⟩) (by simp; omega) _⟩, ⟨hg8'.1.setCell (p := ⟨w.heap.size, 0, none⟩) (Nat.le_refl _) _, hg8'.2.1.aside (p := ⟨w.heap.size, 0, none⟩) (by simp) _, hg8'.2.2.aside (p := ⟨w.heap.size, 0, none⟩) (by simp; omega) _⟩, _, hN8.put 0 _, ho8'.aside (p := ⟨w.heap.size, 0, none⟩) (by have := HS.out; show w.heap.size < wD.heap.size; omega) _⟩
      · go_simp
        rw [← HWF.out]
        refine hK.out _ _ trivial (fun _ => ?_)
        clear hK K
        try simp only [Act.put, List.setIfInBounds_toArray, List.set_cons_zero, List.set_cons_succ]
        refine wpAnyH_ready (rs := [0, 4]) (by kernel_rfl) (by simp) ?_
        refine AllReadyH.cons rfl (fun K hK => ?_) (AllReadyH.cons rfl (fun K hK => ?_) (AllReadyH.nil))
        · have cN : wf.cell? ⟨w.heap.size, 0, none⟩ = some v := hNf.cell_at rfl
          go_simp
          refine hK.out _ _ trivial (fun _ => ?_)
          clear hK K cN
          try simp only [Act.put, List.setIfInBounds_toArray, List.set_cons_zero, List.set_cons_succ]
          refine wpAnyH_ready (rs := [4]) (by kernel_rfl) (by simp) ?_
          refine AllReadyH.cons rfl (fun K hK => ?_) (AllReadyH.nil)
          go_simp
          go_at_call 96
          refine HDF.out.mono ?_
          rintro e wg ⟨rfl, hbg⟩
          have hCg : Below W.heap.size W wg := hCf.trans (hbg.mono hCf.size)
          have hNg := hNW.under hCg hNW.lt
          refine hK.out _ _ trivial (fun _ => ?_)
          clear hK K
          try simp only [Act.put, List.setIfInBounds_toArray, List.set_cons_zero, List.set_cons_succ]
          refine wpAnyH_ready (rs := [5]) (by kernel_rfl) (by simp) ?_
          refine AllReadyH.cons rfl (fun K hK => ?_) (AllReadyH.nil)
          refine step_build_hash (by rfl) (.tmp 23) 169 rfl 34 Tryz.underlying169 info_hash dd HDD.out (by simp [Act.eval]) ?_
          have hCh : Below W.heap.size W (wg.alloc (.cells (blist dd).toArray 34)) := hCg.alloc hCg.size _
          have hNh := hNW.under hCh hNW.lt
          refine hK.out _ _ trivial (fun _ => ?_)
          clear hK K
          try simp only [Act.put]
          try simp only [List.setIfInBounds_toArray]
          try simp only [List.set_cons_zero, List.set_cons_succ]
          refine wpAnyH_ready (rs := [6]) (by kernel_rfl) (by simp) ?_
          refine AllReadyH.cons rfl (fun K hK => ?_) AllReadyH.nil
          have hog := hoW.below hCg
          refine step_append_hash (by rfl) (.tmp 19) (.tmp 24) 169 rfl 34 Tryz.underlying169 info_hash wD.heap.size _ _ (by simp [Act.eval]) hog dd HDD.out _ rfl (by simp [Act.eval]) (by rw [List.length_take, Dg.up_len]; have := HK.out; have := HK.out.2.1.1; omega) (Nat.le_trans hsz hCg.size) ?_
          intro v8 w8 ho8 hg8
          rw [← HUP.out] at ho8
          obtain ⟨K8, hK8⟩ : ∃ K, (List.take (k + 1) (Dg.up LT)).length = K := ⟨_, rfl⟩
          have ho8' := ho8
          obtain ⟨a8, cp8, rfl, _, _, _⟩ := ho8.shape hK8
          clear hK8 ho8
          have hB8 : Below wD.heap.size (wg.alloc (.cells (blist dd).toArray 34)) w8 := (Below.refl _ _).grown hg8 (Nat.le_trans hsz hCh.size) hog.lt
          have hF8 : KeepsFrom wD.heap.size (wg.alloc (.cells (blist dd).toArray 34)) w8 := hog.keepsFrom ((Below.refl _ _).alloc (Nat.le_refl _) _) hg8
          have hk8 : KeepsFrom wD.heap.size W w8 := (KeepsFrom.of_below hCh).trans hF8
          have hN8 := hNh.under hB8 (by have := HS.out; omega)
          have hg8' : GdC w (w.heap.size + 1) (w.heap.size + 1 + 1) (some y) n c w8 := ⟨(hgW.1.trans (hCh.mono hgW.1.size)).trans (hB8.mono (by have := HS.out; omega)), (hgW.2.1.under hCh hgW.2.1.lt).under hB8 (by have := HS.out; omega), (hgW.2.2.under hCh hgW.2.2.lt).under hB8 (by have := HS.out; omega)⟩
          refine hK.out _ _ trivial (fun _ => ?_)
          clear hK K
          try simp only [Act.put]
          try simp only [List.setIfInBounds_toArray]
          try simp only [List.set_cons_zero, List.set_cons_succ]
          have c8 : w8.cell? ⟨w.heap.size, 0, none⟩ = some v := hN8.cell_at rfl
          have f8 := hN8.loose 0
          refine wpAnyH_ready (rs := [7]) (by kernel_rfl) (by simp) ?_
          refine AllReadyH.cons rfl (fun K hK => ?_) AllReadyH.nil
          go_simp
          refine hK.out _ _ trivial (fun _ => ?_)
          clear hK K
          try simp only [Act.put, List.setIfInBounds_toArray, List.set_cons_zero, List.set_cons_succ]
          refine wpAnyH_done (by kernel_rfl) ?_ _
          gi_wp2
          refine ⟨hk8.trans ((KeepsOthers.setCell _ _ _).from _), fun _ => ⟨hg8'.1.setCell (p := ⟨w.heap.size, 0, none⟩) (Nat.le_refl _) _, hg8'.2.1.aside (p := ⟨w.heap.size, 0, none⟩) (by simp) _, hg8'.2.2.aside (p := ⟨w.heap.size, 0, none⟩) (by simp; omega) _⟩, ⟨hg8'.1.setCell (p := ⟨w.heap.size, 0, none⟩) (Nat.le_refl _) _, hg8'.2.1.aside (p := ⟨w.heap.size, 0, none⟩) (by simp) _, hg8'.2.2.aside (p := ⟨w.heap.size, 0, none⟩) (by simp; omega) _⟩, _, hN8.put 0 _, ho8'.aside (p := ⟨w.heap.size, 0, none⟩) (by have := HS.out; show w.heap.size < wD.heap.size; omega) _⟩
        · go_simp
          go_at_call 96
          refine HDF.out.mono ?_
          rintro e wg ⟨rfl, hbg⟩
          have hCg : Below W.heap.size W wg := hCf.trans (hbg.mono hCf.size)
          have hNg := hNW.under hCg hNW.lt
          refine hK.out _ _ trivial (fun _ => ?_)
          clear hK K
          try simp only [Act.put, List.setIfInBounds_toArray, List.set_cons_zero, List.set_cons_succ]
          refine wpAnyH_ready (rs := [0, 5]) (by kernel_rfl) (by simp) ?_
          refine AllReadyH.cons rfl (fun K hK => ?_) (AllReadyH.cons rfl (fun K hK => ?_) (AllReadyH.nil))
          · have cN : wg.cell? ⟨w.heap.size, 0, none⟩ = some v := hNg.cell_at rfl
            go_simp
            refine hK.out _ _ trivial (fun _ => ?_)
            clear hK K cN
            try simp only [Act.put, List.setIfInBounds_toArray, List.set_cons_zero, List.set_cons_succ]
            refine wpAnyH_ready (rs := [5]) (by kernel_rfl) (by simp) ?_
            refine AllReadyH.cons rfl (fun K hK => ?_) (AllReadyH.nil)
            refine step_build_hash (by rfl) (.tmp 23) 169 rfl 34 Tryz.underlying169 info_hash dd HDD.out (by simp [Act.eval]) ?_
            have hCh : Below W.heap.size W (wg.alloc (.cells (blist dd).toArray 34)) := hCg.alloc hCg.size _
            have hNh := hNW.under hCh hNW.lt
            refine hK.out _ _ trivial (fun _ => ?_)
            clear hK K
            try simp only [Act.put]
            try simp only [List.setIfInBounds_toArray]
            try simp only [List.set_cons_zero, List.set_cons_succ]
            refine wpAnyH_ready (rs := [6]) (by kernel_rfl) (by simp) ?_
            refine AllReadyH.cons rfl (fun K hK => ?_) AllReadyH.nil
            have hog := hoW.below hCg
            refine step_append_hash (by rfl) (.tmp 19) (.tmp 24) 169 rfl 34 Tryz.underlying169 info_hash wD.heap.size _ _ (by simp [Act.eval]) hog dd HDD.out _ rfl (by simp [Act.eval]) (by rw [List.length_take, Dg.up_len]; have := HK.out; have := HK.out.2.1.1; omega) (Nat.le_trans hsz hCg.size) ?_
            intro v8 w8 ho8 hg8
            rw [← HUP.out] at ho8
            obtain ⟨K8, hK8⟩ : ∃ K, (List.take (k + 1) (Dg.up LT)).length = K := ⟨_, rfl⟩
            have ho8' := ho8
            obtain ⟨a8, cp8, rfl, _, _, _⟩ := ho8.shape hK8
            clear hK8 ho8
            have hB8 : Below wD.heap.size (wg.alloc (.cells (blist dd).toArray 34)) w8 := (Below.refl _ _).grown hg8 (Nat.le_trans hsz hCh.size) hog.lt
            have hF8 : KeepsFrom wD.heap.size (wg.alloc (.cells (blist dd).toArray 34)) w8 := hog.keepsFrom ((Below.refl _ _).alloc (Nat.le_refl _) _) hg8
            have hk8 : KeepsFrom wD.heap.size W w8 := (KeepsFrom.of_below hCh).trans hF8
            have hN8 := hNh.under hB8 (by have := HS.out; omega)
            have hg8' : GdC w (w.heap.size + 1) (w.heap.size + 1 + 1) (some y) n c w8 := ⟨(hgW.1.trans (hCh.mono hgW.1.size)).trans (hB8.mono (by have := HS.out; omega)), (hgW.2.1.under hCh hgW.2.1.lt).under hB8 (by have := HS.out; omega), (hgW.2.2.under hCh hgW.2.2.lt).under hB8 (by have := HS.out; omega)⟩
            refine hK.out _ _ trivial (fun _ => ?_)
            clear hK K
            try simp only [Act.put]
            try simp only [List.setIfInBounds_toArray]
            try simp only [List.set_cons_zero, List.set_cons_succ]
            have c8 : w8.cell? ⟨w.heap.size, 0, none⟩ = some v := hN8.cell_at rfl
            have f8 := hN8.loose 0
            refine wpAnyH_ready (rs := [7]) (by kernel_rfl) (by simp) ?_
            refine AllReadyH.cons rfl (fun K hK => ?_) AllReadyH.nil
            go_simp
            refine hK.out _ _ trivial (fun _ => ?_)
            clear hK K
            try simp only [Act.put, List.setIfInBounds_toArray, List.set_cons_zero, List.set_cons_succ]
            refine wpAnyH_done (by kernel_rfl) ?_ _
            gi_wp2
            refine ⟨hk8.trans ((KeepsOthers.setCell _ _ _).from _), fun _ => ⟨hg8'.1.setCell (p := ⟨w.heap.size, 0, none⟩) (Nat.le_refl _) _, hg8'.2.1.aside (p := ⟨w.heap.size, 0, none⟩) (by simp) _, hg8'.2.2.aside (p := ⟨w.heap.size, 0, none⟩) (by simp; omega) _⟩, ⟨hg8'.1.setCell (p := ⟨w.heap.size, 0, none⟩) (Nat.le_refl _) _, hg8'.2.1.aside (p := ⟨w.heap.size, 0, none⟩) (by simp) _, hg8'.2.2.aside (p := ⟨w.heap.size, 0, none⟩) (by simp; omega) _⟩, _, hN8.put 0 _, ho8'.aside (p := ⟨w.heap.size, 0, none⟩) (by have := HS.out; show w.heap.size < wD.heap.size; omega) _⟩
          · refine step_build_hash (by rfl) (.tmp 23) 169 rfl 34 Tryz.underlying169 info_hash dd HDD.out (by simp [Act.eval]) ?_
            have hCh : Below W.heap.size W (wg.alloc (.cells (blist dd).toArray 34)) := hCg.alloc hCg.size _
            have hNh := hNW.under hCh hNW.lt
            refine hK.out _ _ trivial (fun _ => ?_)
            clear hK K
            try simp only [Act.put]
            try simp only [List.setIfInBounds_toArray]
            try simp only [List.set_cons_zero, List.set_cons_succ]
            refine wpAnyH_ready (rs := [0]) (by kernel_rfl) (by simp) ?_
            refine AllReadyH.cons rfl (fun K hK => ?_) (AllReadyH.nil)
            have cN : (wg.alloc (.cells (blist dd).toArray 34)).cell? ⟨w.heap.size, 0, none⟩ = some v := hNh.cell_at rfl
            go_simp
            refine hK.out _ _ trivial (fun _ => ?_)
            clear hK K cN
            try simp only [Act.put, List.setIfInBounds_toArray, List.set_cons_zero, List.set_cons_succ]
            refine wpAnyH_ready (rs := [6]) (by kernel_rfl) (by simp) ?_
            refine AllReadyH.cons rfl (fun K hK => ?_) AllReadyH.nil
            have hog := hoW.below hCg
            refine step_append_hash (by rfl) (.tmp 19) (.tmp 24) 169 rfl 34 Tryz.underlying169 info_hash wD.heap.size _ _ (by simp [Act.eval]) hog dd HDD.out _ rfl (by simp [Act.eval]) (by rw [List.length_take, Dg.up_len]; have := HK.out; have := HK.out.2.1.1; omega) (Nat.le_trans hsz hCg.size) ?_
            intro v8 w8 ho8 hg8
            rw [← HUP.out] at ho8
            obtain ⟨K8, hK8⟩ : ∃ K, (List.take (k + 1) (Dg.up LT)).length = K := ⟨_, rfl⟩
            have ho8' := ho8
            obtain ⟨a8, cp8, rfl, _, _, _⟩ := ho8.shape hK8
            clear hK8 ho8
            have hB8 : Below wD.heap.size (wg.alloc (.cells (blist dd).toArray 34)) w8 := (Below.refl _ _).grown hg8 (Nat.le_trans hsz hCh.size) hog.lt
            have hF8 : KeepsFrom wD.heap.size (wg.alloc (.cells (blist dd).toArray 34)) w8 := hog.keepsFrom ((Below.refl _ _).alloc (Nat.le_refl _) _) hg8
            have hk8 : KeepsFrom wD.heap.size W w8 := (KeepsFrom.of_below hCh).trans hF8
            have hN8 := hNh.under hB8 (by have := HS.out; omega)
            have hg8' : GdC w (w.heap.size + 1) (w.heap.size + 1 + 1) (some y) n c w8 := ⟨(hgW.1.trans (hCh.mono hgW.1.size)).trans (hB8.mono (by have := HS.out; omega)), (hgW.2.1.under hCh hgW.2.1.lt).under hB8 (by have := HS.out; omega), (hgW.2.2.under hCh hgW.2.2.lt).under hB8 (by have := HS.out; omega)⟩
            refine hK.out _ _ trivial (fun _ => ?_)
            clear hK K
            try simp only [Act.put]
            try simp only [List.setIfInBounds_toArray]
            try simp only [List.set_cons_zero, List.set_cons_succ]
            have c8 : w8.cell? ⟨w.heap.size, 0, none⟩ = some v := hN8.cell_at rfl
            have f8 := hN8.loose 0
            refine wpAnyH_ready (rs := [7]) (by kernel_rfl) (by simp) ?_
            refine AllReadyH.cons rfl (fun K hK => ?_) AllReadyH.nil
            go_simp
            refine hK.out _ _ trivial (fun _ => ?_)
            clear hK K
            try simp only [Act.put, List.setIfInBounds_toArray, List.set_cons_zero, List.set_cons_succ]
            refine wpAnyH_done (by kernel_rfl) ?_ _
            gi_wp2
            refine ⟨hk8.trans ((KeepsOthers.setCell _ _ _).from _), fun _ => ⟨hg8'.1.setCell (p := ⟨w.heap.size, 0, none⟩) (Nat.le_refl _) _, hg8'.2.1.aside (p := ⟨w.heap.size, 0, none⟩) (by simp) _, hg8'.2.2.aside (p := ⟨w.heap.size, 0, none⟩) (by simp; omega) _⟩, ⟨hg8'.1.setCell (p := ⟨w.heap.size, 0, none⟩) (Nat.le_refl _) _, hg8'.2.1.aside (p := ⟨w.heap.size, 0, none⟩) (by simp) _, hg8'.2.2.aside (p := ⟨w.heap.size, 0, none⟩) (by simp; omega) _⟩, _, hN8.put 0 _, ho8'.aside (p := ⟨w.heap.size, 0, none⟩) (by have := HS.out; show w.heap.size < wD.heap.size; omega) _⟩
end Go.Proofs.YtdfplenniamnoaaGreatDoor
