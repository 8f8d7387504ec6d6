/- package digest: the pairs of a row (slices.Chunk at 2) -/
import Derived.Test.YtdfplenniamnoaaGreatDoorJ14
/-! package digest: the pairs of a row (slices.Chunk at 2) -/
namespace Go.Proofs.YtdfplenniamnoaaGreatDoor
open Go Go.RowKit Go.Shelf Go.ChangeShapes Go.WideShapes
attribute [local go_sem] Oper.semAt_some
/-- the two boxes, and all that lay in w0 -/
def GdC (w0 : World) (B1 B2 : Nat) (a : Option Addr) (n c : Nat) (W : World) : Prop := Below w0.heap.size w0 W ∧ Has W B1 169 #[.slice a n c] ∧ Has W B2 3 #[.int .i64 2]
/-- the pair at place k -/
def RdC (y : Addr) (n k : Nat) (_ : World) (x : Sl3) (k' : Nat) : Prop := k' = k + 1 ∧ 2 * k < n ∧ x = (some (y.add (2 * k * 32)), min 2 (n - 2 * k), min 2 (n - 2 * k))
theorem chunk_any (a : Option Addr) (n c : Nat) (w : World) :
    Calls Tryz.prog 159 #[.slice a n c, .int .i64 2] w fun e w' =>
      e = .returned (.func (.func 184) #[] #[.pointer (some ⟨w.heap.size, 0, none⟩), .pointer (some ⟨w.heap.size + 1, 0, none⟩)]) ∧ w' = (w.alloc (.cells #[.slice a n c] 169)).alloc (.cells #[.int .i64 2] 3) := by
  go_enter Tryz.func159, Tryz.ntmps159
  go_wp2
  go_ret
  exact ⟨rfl, rfl⟩
theorem GdC.put {w0 : World} {B1 B2 : Nat} {a : Option Addr} {n c : Nat} {W : World} {l : Nat} {o : Obj} (o' : Obj) (hB : w0.heap.size ≤ l) (ho : W.heap[l]? = some o) (hc : o.isCells = false) (h : GdC w0 B1 B2 a n c W) : GdC w0 B1 B2 a n c (W.putObj l o') :=
  ⟨below_putObj h.1 h.1.size hB o', h.2.1.putObj o' ho hc, h.2.2.putObj o' ho hc⟩
set_option maxRecDepth 100000 in
set_option maxHeartbeats 4000000 in
theorem chunk_iter (m : Nat) (hm : 1 ≤ m) (B1 B2 : Nat) (y : Addr) (n c : Nat) (hn : n ≤ 1000) (hnc : n ≤ c) (w0 w : World) (hg : GdC w0 B1 B2 (some y) n c w) :
    Iterates Fence.wide m Tryz.prog 184 #[.pointer (some ⟨B1, 0, none⟩), .pointer (some ⟨B2, 0, none⟩)] encS (fun W W' => GdC w0 B1 B2 (some y) n c W → GdC w0 B1 B2 (some y) n c W') 0 (RdC y n) (fun k => k = (n + 1) / 2) w := by
  intro lp J Jx W hW hJ hJx hY h0
  have hgW : GdC w0 B1 B2 (some y) n c W := ⟨hg.1.trans (hW.mono hg.1.size), hg.2.1.under hW hg.2.1.lt, hg.2.2.under hW hg.2.2.lt⟩
  refine callsIn_of_wp Tryz.func184 rfl trivial ?_ rfl
  simp only [Tryz.ntmps184, List.size_toArray, List.length_cons, List.length_nil, Nat.reduceAdd, Nat.reduceSub, Array.replicate_succ, Array.replicate_zero, List.push_toArray, List.append_toArray, List.nil_append, List.cons_append]
  gi_wp2
  gi_loopw [4] (fun i wr => ∃ k : Nat, 2 * k ≤ n + 1 ∧ i = .int .i64 ((2 * k : Nat) : Int) ∧ J k wr ∧ GdC w0 B1 B2 (some y) n c wr) (fun i _ => n + 2 - (intOf i).toNat)
  case atStart => exact ⟨0, by omega, rfl, h0, hgW⟩
  case round =>
    clear hgW h0
    obtain ⟨k, hk, rfl, hJs, hgr⟩ := hrel
    have c1 : wr.cell? ⟨B1, 0, none⟩ = some (.slice (some y) n c) := hgr.2.1.cell_at rfl
    have c2 : wr.cell? ⟨B2, 0, none⟩ = some (.int .i64 2) := hgr.2.2.cell_at rfl
    obtain ⟨p, hp⟩ : ∃ p, p = 2 * k := ⟨_, rfl⟩
    rw [← hp]
    by_cases hlt : p < n
    · have hpi : (p : Int) < (n : Int) := by omega
      have hpl : (p : Int) ≤ (n : Int) := by omega
      have hp0 : (0 : Int) ≤ (p : Int) := by omega
      obtain ⟨e, he⟩ : ∃ e, e = min 2 (n - p) := ⟨_, rfl⟩
      have hmn : ∀ w, (Builtin.min_ #[3, 3] 3 #[.int .i64 2, .int .i64 ((n - p : Nat) : Int)]).run Tryz.prog w = .ok (.int .i64 (e : Int)) w := fun w => by
        rw [run_min_int2]
        congr 2
        split <;> omega
      obtain ⟨q, hq⟩ : ∃ q, q = p + e := ⟨_, rfl⟩
      have hqi : (p : Int) + (e : Int) = (q : Int) := by omega
      have hqw : IntKind.i64.wrap (q : Int) = (q : Int) := IntWalk.i64_in _ (by omega)
      have hqp : (p : Int) ≤ (q : Int) := by omega
      have hqc : (q : Int) ≤ (c : Int) := by omega
      have hqe : q - p = e := by omega
      have hqn : ¬ (q = p) := by omega
      have hcn : ¬ (c = p) := by omega
      have HP := Lib.hid (And.intro hp (And.intro he hlt))
      clear hp he hq hlt
      gi_wp2
      refine wpIn_wide.2 ?_
      refine still_tail_drew7 5 rfl (by kernel_rfl) ?_
      simp only [List.take_succ_cons, List.take_zero, List.drop_succ_cons, List.drop_zero]
      obtain ⟨wn, hwn⟩ : ∃ x, x = wr.drew := ⟨_, rfl⟩
      rw [← hwn]
      have c1n : wn.cell? ⟨B1, 0, none⟩ = some (.slice (some y) n c) := by rw [hwn]; exact c1
      have c2n : wn.cell? ⟨B2, 0, none⟩ = some (.int .i64 2) := by rw [hwn]; exact c2
      have hgn : GdC w0 B1 B2 (some y) n c wn := by rw [hwn]; exact ⟨hgr.1.drew, hgr.2.1.draw, hgr.2.2.draw⟩
      have hJn : J k wn := by rw [hwn]; exact hJ k wr wr.drew none hJs (grown_drew7 (grown_refl7 _ _)) (fun r e => by cases e)
      obtain ⟨fn, tmps, assign, body, hy2, hR⟩ := hY k (some (y.add (p * 32)), e, e) (k + 1) wn hJn ⟨rfl, by have := HP.out; omega, by rw [← HP.out.1, ← HP.out.2.1]⟩
      dsimp only [encS] at hy2
      clear hwn c1 c2 hgr hJs
      repeat still_step
      refine wpStill_nil ?_
      go_wp2
      gi_wp2
      refine hR.mono ?_
      rintro e3 W3 (⟨rfl, hJ3, hk3⟩ | ⟨rfl, hJx3⟩)
      · have hg3 := hk3 hgn
        have c23 : W3.cell? ⟨B2, 0, none⟩ = some (.int .i64 2) := hg3.2.2.cell_at rfl
        gi_wp2
        go_roundw
        case rel => exact ⟨k + 1, by have := HP.out; omega, by have := HP.out.1; go_num, hJ3, hg3⟩
        case measure => have := HP.out; (simp [intOf]; try omega)
      · gi_wp2
        refine bodyPost_ret (results_none rfl _ _ _) rfl ?_
        exact ⟨⟨_, rfl⟩, .inr ⟨_, hJx3⟩⟩
    · have hpi : ¬ ((p : Int) < (n : Int)) := by omega
      have HP := Lib.hid (And.intro hp hlt)
      clear hp hlt
      gi_wp2
      go_end0
      rw [show (n + 1) / 2 = k by have := HP.out; omega]
      exact ⟨⟨_, rfl⟩, .inl hJs⟩
end Go.Proofs.YtdfplenniamnoaaGreatDoor
