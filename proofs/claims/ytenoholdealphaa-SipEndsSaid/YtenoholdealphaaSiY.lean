/- package sip: the chunks of a text -/
import Derived.Test.YtenoholdealphaaSiX
import Derived.Test.YtenoholdealphaaRf
import Derived.Shelf.Abstract
import Derived.Shelf.RegionOpen
import Derived.OwnWalkIn
import Derived.TacticsInMore
import Derived.LoopNIn
import Derived.LoopIn
namespace Go.Proofs.Ytenoholdealphaa
open Go Go.RowKit Go.Shelf
attribute [local go_sem] Oper.semAt_some
/-- the box that the iterator has captured, and the bytes that it cuts -/
def Good8 (Bx : Nat) (a : Option Addr) (n c : Nat) (l : List (BitVec 8)) (W : World) : Prop := W.cell? ⟨Bx, 0, none⟩ = some (.slice a n c) ∧ Bytes8 W a n l
theorem Good8.keep {Bx : Nat} {a : Option Addr} {n c : Nat} {l : List (BitVec 8)} {W W' : World} (h : Good8 Bx a n c l W) (hk : ∀ p : Addr, (W.cell? p).isSome = true → W'.cell? p = W.cell? p) : Good8 Bx a n c l W' :=
  ⟨(hk _ (by rw [h.1]; rfl)).trans h.1, h.2.keep hk⟩
/-- a chunk: where it lies, its length, its capacity -/
abbrev Chunk := Option Addr × Nat × Nat
/-- what the iterator yields at place k -/
def Cuts (l : List (BitVec 8)) (n k : Nat) (W : World) (x : Chunk) (k' : Nat) : Prop :=
  k' = k + 1 ∧ 8 * k ≤ n ∧ x.2.1 = (if n < 8 * k + 8 then n - 8 * k else 8) ∧ ∀ j, j < x.2.1 → ∃ y, x.1 = some y ∧ W.cell? (y.add j) = some (.int .u8 (nb8 (cb l (8 * k + j))))
def encC (x : Chunk) : Array Value := #[.slice x.1 x.2.1 x.2.2]
theorem Good8.put {Bx : Nat} {a : Option Addr} {n c : Nat} {l : List (BitVec 8)} {W : World} {r : Nat} {o : Obj} (o' : Obj) (ho : W.heap[r]? = some o) (hc : o.isCells = false) (h : Good8 Bx a n c l W) : Good8 Bx a n c l (W.putObj r o') :=
  h.keep fun p hp => by
    obtain ⟨v, hv⟩ := Option.isSome_iff_exists.1 hp
    rw [hv]
    exact cell_kept hv (grownBy_putObj' W r o') (fun r e => by cases e; exact ⟨o, ho, hc⟩)
theorem cuts_own (B : Nat) (l : List (BitVec 8)) (n : Nat) (x : Chunk) (s' : Nat) : OwnFrom B (fun s W => Cuts l n s W x s') := fun s W W' row h hg hr => by
  obtain ⟨h1, h2, h3, h4⟩ := h
  refine ⟨h1, h2, h3, fun j hj => ?_⟩
  obtain ⟨y, e, hy⟩ := h4 j hj
  exact ⟨y, e, cell_kept hy hg (fun r e => (hr r e).2)⟩
theorem below_own8 {B : Nat} {w W W' : World} {row : Option Nat} (h : Below w.heap.size w W) (hB : w.heap.size ≤ B) (hg : W.grownBy W' row) (hr : ∀ r, row = some r → B ≤ r ∧ ∃ o : Obj, W.heap[r]? = some o ∧ o.isCells = false) : Below w.heap.size w W' :=
  h.grown hg h.size (fun k e => by have := (hr k e).1; omega)
theorem Has.own8 {B : Nat} {W W' : World} {row : Option Nat} {g : Nat} {t : TypeId} {cs : Array Value} (h : Has W g t cs) (hg : W.grownBy W' row) (hr : ∀ r, row = some r → B ≤ r ∧ ∃ o : Obj, W.heap[r]? = some o ∧ o.isCells = false) : Has W' g t cs :=
  h.kept hg (fun r e => (hr r e).2)
theorem calls_wide {P : Program} {f : FuncId} {args : Array Value} {w : World} {R : Ending → World → Prop} (h : CallsIn Fence.wide 5 P f args w R) : Calls P f args w R := callsIn_wide.1 h
theorem schunks_any (a : Option Addr) (n c : Nat) (w : World) :
    Calls Try.prog 18 #[.slice a n c] w fun e w' =>
      e = .returned (.func (.func 23) #[] #[.pointer (some ⟨w.heap.size, 0, none⟩)]) ∧ w' = w.alloc (.cells #[.slice a n c] 23) := by
  go_enter Try.func18, Try.ntmps18
  go_wp2
  go_ret
  exact ⟨rfl, rfl⟩
set_option maxRecDepth 100000 in
set_option maxHeartbeats 4000000 in
theorem schunks_iter (m : Nat) (hm : 1 ≤ m) (Bx : Nat) (a : Option Addr) (n c : Nat) (l : List (BitVec 8)) (hnc : n ≤ c) (w : World) (hg : Good8 Bx a n c l w) :
    Iterates Fence.wide m Try.prog 23 #[.pointer (some ⟨Bx, 0, none⟩)] encC (fun W W' => Good8 Bx a n c l W → Good8 Bx a n c l W') 0 (Cuts l n) (fun k => k = n / 8 + 1) w := by
  intro lp J Jx W hW hJ hJx hY h0
  have hgW : Good8 Bx a n c l W := hg.keep fun p hp => hW.cell (isSome_lt hp)
  have hb := hgW.1
  have hcm := hgW.2.2.1
  unfold maxLen at hcm
  obtain ⟨r, hr⟩ : ∃ r, r = n % 8 := ⟨_, rfl⟩
  obtain ⟨q, hq⟩ : ∃ q, q = n / 8 := ⟨_, rfl⟩
  obtain ⟨wh, hwh⟩ : ∃ wh, wh = 8 * q := ⟨_, rfl⟩
  have hmod : (n : Int).tmod 8 = (r : Int) := by rw [hr]; rfl
  have hmod2 : (n : Int) % 8 = (r : Int) := by omega
  have hsub : (n : Int) - (r : Int) = (wh : Int) := by omega
  have hwb : (wh : Int) ≤ (n : Int) := by omega
  have hnb : (n : Int) ≤ 9223372036854775807 := by omega
  have HQ := Lib.hid (And.intro hr (And.intro hq hwh))
  have HC := Lib.hid hcm
  have HN := Lib.hid hnc
  clear hr hq hwh
  refine callsIn_of_wp Try.func23 rfl trivial ?_ rfl
  simp only [Try.ntmps23, List.size_toArray, List.length_cons, List.length_nil, Nat.reduceAdd, Nat.reduceSub, Array.replicate_succ, Array.replicate_zero, List.push_toArray, List.append_toArray, List.nil_append, List.cons_append]
  gi_wp2
  gi_loopw [4] (fun i wr => ∃ k : Nat, k ≤ q ∧ i = .int .i64 ((8 * k : Nat) : Int) ∧ J k wr ∧ Good8 Bx a n c l wr) (fun i _ => (n + 8 - (intOf i).toNat))
  case atStart => exact ⟨0, Nat.zero_le _, rfl, h0, hgW⟩
  case round =>
    obtain ⟨k, hk, rfl, hJs, hgr⟩ := hrel
    have hbr := hgr.1
    obtain ⟨p, hp⟩ : ∃ p, p = 8 * k := ⟨_, rfl⟩
    rw [← hp]
    have HP := Lib.hid hp
    by_cases hlt : k < q
    · have hpw : (p : Int) < (wh : Int) := by have := HQ.out; omega
      have hp8 : p + 8 ≤ n := by have := HQ.out; omega
      have hby : ∀ j, j < 8 → ∃ y, Option.map (fun x => x.add p) a = some y ∧ wr.cell? (y.add j) = some (.int .u8 (nb8 (cb l (8 * k + j)))) := fun j hj => by
        obtain ⟨x, rfl, hx⟩ := hgr.2.2.2 (p + j) (by omega)
        exact ⟨x.add p, rfl, by rw [Addr.add_add, ← hp]; exact hx⟩
      obtain ⟨fn, tmps, assign, body, hy, hR⟩ := hY k (Option.map (fun x => x.add p) a, 8, c - p) (k + 1) wr hJs ⟨rfl, by omega, by rw [if_neg (by omega)], hby⟩
      dsimp only [encC] at hy
      clear hp
      gi_wp2
      refine hR.mono ?_
      rintro e W3 (⟨rfl, hJ3, hk3⟩ | ⟨rfl, hJx3⟩)
      · gi_wp2
        go_roundw
        case rel => exact ⟨k + 1, by omega, by have := HP.out; go_num, hJ3, hk3 hgr⟩
        case measure => have := HP.out; (simp [intOf]; try omega)
      · gi_wp2
        refine bodyPost_ret (results_none rfl _ _ _) rfl ?_
        exact ⟨⟨_, rfl⟩, .inr ⟨_, hJx3⟩⟩
    · have hkq : k = q := by omega
      have hpw : ¬ (p : Int) < (wh : Int) := by have := HQ.out; omega
      have hwn : wh ≤ n := by omega
      by_cases hcw : c = wh
      · subst hcw
        obtain ⟨fn, tmps, assign, body, hy, hR⟩ := hY k (a, 0, 0) (k + 1) wr hJs ⟨rfl, by have := HQ.out; omega, by have := HQ.out; rw [if_pos (by omega)]; show 0 = n - 8 * k; omega, fun j hj => absurd hj (Nat.not_lt_zero _)⟩
        dsimp only [encC] at hy
        have HK := Lib.hid hkq
        clear hp hkq
        gi_wp2
        refine hR.mono ?_
        rintro e W3 (⟨rfl, hJ3, hk3⟩ | ⟨rfl, hJx3⟩)
        · gi_wp2
          go_end0
          exact ⟨⟨_, rfl⟩, .inl ⟨_, by have := HK.out; have := HQ.out; omega, hJ3⟩⟩
        · gi_wp2
          go_end0
          exact ⟨⟨_, rfl⟩, .inr ⟨_, hJx3⟩⟩
      · have hby : ∀ j, j < n - wh → ∃ y, Option.map (fun x => x.add wh) a = some y ∧ wr.cell? (y.add j) = some (.int .u8 (nb8 (cb l (8 * k + j)))) := fun j hj => by
          obtain ⟨x, rfl, hx⟩ := hgr.2.2.2 (wh + j) (by omega)
          exact ⟨x.add wh, rfl, by rw [Addr.add_add, show 8 * k = wh by have := HQ.out; omega]; exact hx⟩
        obtain ⟨fn, tmps, assign, body, hy, hR⟩ := hY k (Option.map (fun x => x.add wh) a, n - wh, c - wh) (k + 1) wr hJs ⟨rfl, by have := HQ.out; omega, by have := HQ.out; rw [if_pos (by omega)]; show n - wh = n - 8 * k; omega, hby⟩
        dsimp only [encC] at hy
        have HK := Lib.hid hkq
        clear hp hkq hby
        gi_wp2
        refine hR.mono ?_
        rintro e W3 (⟨rfl, hJ3, hk3⟩ | ⟨rfl, hJx3⟩)
        · gi_wp2
          go_end0
          exact ⟨⟨_, rfl⟩, .inl ⟨_, by have := HK.out; have := HQ.out; omega, hJ3⟩⟩
        · gi_wp2
          go_end0
          exact ⟨⟨_, rfl⟩, .inr ⟨_, hJx3⟩⟩
end Go.Proofs.Ytenoholdealphaa
