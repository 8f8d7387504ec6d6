/- poly's iterator over coefficients from the last one on. -/
import Derived.Test.YtlackhjlnoefcaaGfPw
import Derived.Test.YtlackhjlnoefcaaPoM
import Derived.Test.YtlackhjlnoefcaaRf
import Derived.Test.YtlackhjlnoefcaaRow
import Derived.Shelf.Abstract
import Derived.Shelf.RegionOpen
import Derived.WalkKit
import Derived.OwnWalkIn
import Derived.TacticsInMore
import Derived.LoopNIn
import Derived.LoopIn
namespace Go.Proofs.Ytlackhjlnoefcaa
open Go Go.RowKit Go.Shelf
attribute [local go_sem] Oper.semAt_some

/-- the box that the iterator has captured, and the cells that it reads -/
def Good (Bx : Nat) (a : Option Addr) (n c : Nat) (W : World) : Prop :=
  W.cell? ⟨Bx, 0, none⟩ = some (.slice a n c) ∧ ∀ i, i < n → ∃ ad x, a = some ad ∧ W.cell? (ad.add i) = some (.int .u32 (nb32 x))
theorem Good.keep {Bx : Nat} {a : Option Addr} {n c : Nat} {W W' : World} (h : Good Bx a n c W) (hk : ∀ p v, W.cell? p = some v → W'.cell? p = some v) : Good Bx a n c W' := by
  refine ⟨hk _ _ h.1, fun i hi => ?_⟩
  obtain ⟨ad, x, e, hx⟩ := h.2 i hi
  exact ⟨ad, x, e, hk _ _ hx⟩
/-- what the iterator reads at place k -/
def Reading (a : Option Addr) (k : Nat) (W : World) (x : Nat × BitVec 32) (k' : Nat) : Prop :=
  k = k' + 1 ∧ x.1 = k' ∧ ∃ ad, a = some ad ∧ W.cell? (ad.add k') = some (.int .u32 (nb32 x.2))
def encR (x : Nat × BitVec 32) : Array Value := #[.int .i64 (x.1 : Int), .int .u32 (nb32 x.2)]

theorem Good.put {Bx : Nat} {a : Option Addr} {n c : Nat} {W : World} {l : Nat} {o : Obj} (o' : Obj) (ho : W.heap[l]? = some o) (hc : o.isCells = false) (h : Good Bx a n c W) : Good Bx a n c (W.putObj l o') :=
  h.keep fun _ _ hp => cell_kept hp (grownBy_putObj' W l o') (fun r e => by cases e; exact ⟨o, ho, hc⟩)
theorem reading_own (B : Nat) (a : Option Addr) (x : Nat × BitVec 32) (s' : Nat) : OwnFrom B (fun s W => Reading a s W x s') := fun s W W' row h hg hr => by
  obtain ⟨h1, h2, ad, h3, h4⟩ := h
  exact ⟨h1, h2, ad, h3, cell_kept h4 hg (fun r e => (hr r e).2)⟩
theorem below_own {B : Nat} {w W W' : World} {row : Option Nat} (h : Below w.heap.size w W) (hB : w.heap.size ≤ B) (hg : W.grownBy W' row) (hr : ∀ r, row = some r → B ≤ r ∧ ∃ o : Obj, W.heap[r]? = some o ∧ o.isCells = false) : Below w.heap.size w W' :=
  h.grown hg h.size (fun k e => by have := (hr k e).1; omega)
theorem Has.own {B : Nat} {W W' : World} {row : Option Nat} {g : Nat} {t : TypeId} {cs : Array Value} (h : Has W g t cs) (hg : W.grownBy W' row) (hr : ∀ r, row = some r → B ≤ r ∧ ∃ o : Obj, W.heap[r]? = some o ∧ o.isCells = false) : Has W' g t cs :=
  h.kept hg (fun r e => (hr r e).2)
theorem fromLast_any (a : Option Addr) (n c : Nat) (w : World) :
    Calls Try.prog 43 #[.slice a n c] w fun e w' =>
      e = .returned (.func (.func 62) #[] #[.pointer (some ⟨w.heap.size, 0, none⟩)]) ∧ w' = w.alloc (.cells #[.slice a n c] 22) := by
  go_enter Try.func43, Try.ntmps43
  go_wp2
  go_ret
  exact ⟨rfl, rfl⟩

set_option maxHeartbeats 1000000 in
theorem fromLast_iter (m : Nat) (hm : 1 ≤ m) (Bx : Nat) (a : Option Addr) (n c : Nat) (hn : n ≤ maxLen) (w : World) (hg : Good Bx a n c w) :
    Iterates Fence.wide m Try.prog 62 #[.pointer (some ⟨Bx, 0, none⟩)] encR (fun W W' => Good Bx a n c W → Good Bx a n c W') n (Reading a) (fun k => k = 0) w := by
  intro l J Jx W hW hJ hJx hY h0
  have hgW : Good Bx a n c W := hg.keep fun p v hp => (hW.cell (isSome_lt (by rw [hp]; rfl))).trans hp
  have hb := hgW.1
  unfold maxLen at hn
  refine callsIn_of_wp Try.func62 rfl trivial ?_ rfl
  simp only [Try.ntmps62, List.size_toArray, List.length_cons, List.length_nil, Nat.reduceAdd, Nat.reduceSub, Array.replicate_succ, Array.replicate_zero, List.push_toArray, List.append_toArray, List.nil_append, List.cons_append]
  gi_wp2
  gi_loopw [3] (fun i wr => ∃ k : Nat, k ≤ n ∧ i = .int .i64 ((k : Int) - 1) ∧ J k wr ∧ Good Bx a n c wr) (fun i _ => (intOf i + 1).toNat)
  case atStart => exact ⟨n, Nat.le_refl _, rfl, h0, hgW⟩
  case round =>
    obtain ⟨k, hk, rfl, hJs, hgr⟩ := hrel
    cases k with
    | zero =>
      gi_wp2
      go_end0
      exact ⟨⟨_, rfl⟩, .inl ⟨0, rfl, hJs⟩⟩
    | succ k =>
      obtain ⟨ad, x, rfl, hx⟩ := hgr.2 k (by omega)
      have hbr := hgr.1
      obtain ⟨fn, tmps, assign, body, hy, hR⟩ := hY (k + 1) (k, x) k wr hJs ⟨rfl, rfl, ad, rfl, hx⟩
      dsimp only [encR] at hy
      have e1 : ((k + 1 : Nat) : Int) - 1 = (k : Int) := by omega
      rw [e1]
      gi_wp2
      refine hR.mono ?_
      rintro e W3 (⟨rfl, hJ3, hk3⟩ | ⟨rfl, hJx3⟩)
      · gi_wp2
        go_roundw
        case rel => exact ⟨k, by omega, rfl, hJ3, hk3 hgr⟩
        case measure => simp [intOf]
      · gi_wp2
        refine bodyPost_ret (results_none rfl _ _ _) rfl ?_
        exact ⟨⟨_, rfl⟩, .inr ⟨_, hJx3⟩⟩

/-- a walk at the wide fence is a contract -/
theorem calls_of_wide {P : Program} {f : FuncId} {args : Array Value} {w : World} {R : Ending → World → Prop} (h : CallsIn Fence.wide 5 P f args w R) : Calls P f args w R := callsIn_wide.1 h

theorem cell_fresh (w : World) (v : Value) (t : TypeId) : (w.alloc (.cells #[v] t)).cell? ⟨w.heap.size, 0, none⟩ = some v := (Has.fresh w t #[v]).cell 0
theorem Good.fresh {w : World} {a : Option Addr} {n c : Nat} {l : List (BitVec 32)} (h : Words32 w a n l) (t : TypeId) : Good w.heap.size a n c (w.alloc (.cells #[.slice a n c] t)) := by
  refine ⟨cell_fresh _ _ _, fun i hi => ?_⟩
  obtain ⟨ad, e, hx⟩ := h.2.2 i hi
  exact ⟨ad, _, e, (World.cell?_alloc_lt w _ _ (isSome_lt (by rw [hx]; rfl))).trans hx⟩

set_option maxHeartbeats 1000000 in
theorem pdegree_any (a : Option Addr) (n c : Nat) (l : List (BitVec 32)) (w : World) (h : Words32 w a n l) :
    Calls Try.prog 26 #[.slice a n c] w fun e w' => e = .returned (.int .i64 ((Po.len1 l : Int) - 1)) ∧ Below w.heap.size w w' := by
  apply calls_of_wide
  refine callsIn_of_wp_marks Try.func26 rfl trivial ?_ rfl
  simp only [Try.ntmps26, List.size_toArray, List.length_cons, List.length_nil, Nat.reduceAdd, Nat.reduceSub, Array.replicate_succ, Array.replicate_zero, List.push_toArray, List.append_toArray, List.nil_append, List.cons_append]
  gi_wp2_with (refine ⟨trivial, ?_⟩; gi_at_call 43; refine (callsIn_wide.2 (fromLast_any _ _ _ _)).mono ?_; rintro e w' ⟨rfl, rfl⟩)
  have hH := Has.fresh w 3 #[.int .i64 0]
  have hgd := Good.fresh (c := c) (h.keep (w' := w.alloc (.cells #[.int .i64 0] 3)) fun p hp => World.cell?_alloc_lt w _ _ (isSome_lt hp)) 22
  rw [World.size_alloc] at hgd
  obtain ⟨W2, hW2⟩ : ∃ W2, (w.alloc (.cells #[.int .i64 0] 3)).alloc (.cells #[.slice a n c] 22) = W2 := ⟨_, rfl⟩
  have hH2 : Has W2 w.heap.size 3 #[.int .i64 0] := by rw [← hW2]; exact hH.past _
  have hb2 : Below w.heap.size w W2 := by rw [← hW2]; exact ((Below.refl _ w).alloc (Nat.le_refl _) _).alloc (by simp) _
  have hs2 : W2.heap.size = w.heap.size + 1 + 1 := by rw [← hW2]; simp
  rw [hW2] at hgd ⊢
  obtain ⟨hl, hm, hc⟩ := h
  refine wpIn_range_told (F := Fence.wide) rfl (by omega) (gf := 62) (lb := #[.pointer (some ⟨w.heap.size + 1, 0, none⟩)]) rfl trivial (enters_of Try.func62 (by kernel_rfl) rfl)
    (fromLast_iter 4 (by omega) (w.heap.size + 1) a n c hm W2 hgd) (Below.refl _ _) (fun _ => rfl)
    (fun h1 h2 h => h2 (h1 h)) ?kb ?rd
    (fun k W => k ≤ n ∧ (∀ i, k ≤ i → Po.cf l i = 0) ∧ Has W w.heap.size 3 #[.int .i64 0] ∧ Below w.heap.size w W)
    (fun c k W => c = .ret ∧ Po.len1 l = k + 1 ∧ Has W w.heap.size 3 #[.int .i64 (k : Int)] ∧ Below w.heap.size w W)
    ?hI ?hIx ?h0
    (fun x => { tmps := #[Value.slice a n c, undef, Value.pointer (some { block := w.heap.size, off := 0 }), .int .i64 (x.1 : Int), .int .u32 (nb32 x.2),
          Value.slice a n c, Value.func (Fn.func 62) #[] #[Value.pointer (some { block := w.heap.size + 1, off := 0 })],
          .int .i64 (x.1 : Int), .int .u32 (nb32 x.2), undef, undef, undef], defers := [] })
    ?assign ?body ?done ?stop
  case assign =>
    intro l x W K hK
    dsimp only [encR]
    gi_wp2
    exact hK
  case kb => exact fun W l o o' _ ho hc hg => hg.put o' ho hc
  case rd => exact fun x s' => reading_own _ a x s'
  case hI => exact fun k W W' row h hg hr => ⟨h.1, h.2.1, h.2.2.1.own hg hr, below_own h.2.2.2 (by omega) hg hr⟩
  case hIx => exact fun cd k W W' row h hg hr => ⟨h.1, h.2.1, h.2.2.1.own hg hr, below_own h.2.2.2 (by omega) hg hr⟩
  case h0 => exact ⟨Nat.le_refl _, fun i hi => Po.cf_ge (by omega), hH2, hb2⟩
  case body =>
    rintro lp k ⟨i, x⟩ k' W ⟨hk, h0, hHW, hb⟩ ⟨rfl, rfl, ad, rfl, hx⟩ hsz
    obtain ⟨ad', e', hx'⟩ := hc i (by omega)
    obtain rfl : ad = ad' := by injection e'
    rw [← hb.cell (isSome_lt (by rw [hx']; rfl))] at hx'
    have hxv : x = Po.cf l i := by
      rw [show (i, x).1 = i from rfl, show (i, x).2 = x from rfl] at hx
      rw [hx] at hx'
      exact u32_inj.1 (by injection hx' with h; injection h)
    subst hxv
    have hcell := hHW.cell_at (i := 0) (v := .int .i64 0) rfl
    have hfree := hHW.loose 0
    by_cases hz : Po.cf l i = 0#32
    · have hz' : (Po.cf l i != 0#32) = false := by rw [hz]; rfl
      gi_wp2
      exact ⟨KeepsFrom.refl _ _, id, by omega, fun j hj => by
        rcases Nat.lt_or_ge i j with h | h
        · exact h0 j h
        · obtain rfl : j = i := by omega
          exact hz, hHW, hb⟩
    · have hz' : (Po.cf l i != 0#32) = true := by simpa using hz
      gi_wp2
      refine ⟨(KeepsOthers.setCell _ _ _).from _, rfl, Po.len1_eq h0 (fun _ => by simpa using hz), hHW.put 0 _, hb.setCell (p := ⟨w.heap.size, 0, none⟩) (Nat.le_refl _) _⟩
  case done =>
    rintro D k W hD rfl ⟨_, h0, hHW, hb⟩ hK
    have hcell := hHW.cell_at (i := 0) (v := .int .i64 0) rfl
    have hfree := hHW.loose 0
    gi_wp2
    have hK' := (KeepsOthers.setCell W ⟨w.heap.size, 0, none⟩ (.int .i64 (-1))).same D _ hK rfl
    have hv := (hHW.put 0 (.int .i64 (-1))).cell_at (i := 0) (v := .int .i64 (-1)) rfl
    refine leaves_cell rfl ⟨_, Try.underlying3, rfl⟩ rfl hK' hv ⟨?_, ?_⟩
    · rw [Po.len1_eq (n := 0) (fun i hi => h0 i hi) (fun hn => absurd rfl hn)]; rfl
    · exact below_putObj (hb.setCell (p := ⟨w.heap.size, 0, none⟩) (Nat.le_refl _) _) (by rw [World.size_setCell]; exact hb.size) (by omega) _
  case stop =>
    rintro D cd k W hD ⟨rfl, hl1, hHW, hb⟩ hK
    gi_wp2
    refine leaves_cell rfl ⟨_, Try.underlying3, rfl⟩ rfl hK (hHW.cell_at (i := 0) rfl) ⟨?_, below_putObj hb hb.size (by omega) _⟩
    exact congrArg (fun z => Ending.returned (.int .i64 z)) (show (k : Int) = (Po.len1 l : Int) - 1 by omega)
end Go.Proofs.Ytlackhjlnoefcaa
