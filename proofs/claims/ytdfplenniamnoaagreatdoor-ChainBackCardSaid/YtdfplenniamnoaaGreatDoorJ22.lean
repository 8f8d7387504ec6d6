/- A range over a function whose assignment may make memory; the iterator may make memory too. Nothing of the program. · package coins: what a range over a map's keys or values, or over a slice's elements, hands over · package coins: a range over a slice of coins, over the map that isn't there; worth, Worth · package coins: worth, Worth · package coins: Worth, Fee -/
import Derived.Test.YtdfplenniamnoaaGreatDoorJ11
import Derived.Test.YtdfplenniamnoaaGreatDoorJ18
import Derived.Sort.MapsRangeIn
import Derived.Maps.Range
import Derived.OwnWalkIn
import Derived.TacticsInMore
import Derived.RegionIn
import Derived.LoopNIn
import Derived.LoopIn
import Derived.WalkKit
import Derived.Test.YtdfplenniamnoaaGreatDoorJ14
import Derived.Test.YtdfplenniamnoaaGreatDoorJ16
import Derived.Test.YtdfplenniamnoaaGreatDoorJ07
/-! A range over a function whose assignment may make memory; the iterator may make memory too. Nothing of the program. -/
namespace Go.Proofs.YtdfplenniamnoaaGreatDoor
open Go Go.RowKit
section
variable {F : Fence} {n : Nat} {P : Program}
theorem wpIn_range_made {σ α : Type} {g : Operand} {ps : Array Tmp} {assign body : Code} {Q : Exit → Act → World → Prop} {a : Act} {w : World}
    (hro : F.round = none) (h1 : 1 ≤ n) {gf : Nat} {lb : Array Value} (hg : a.eval g = .func (.func gf) #[] lb) (hFg : F.fn gf) (eg : ∀ args w, (callFunc gf args).run P w = .ok (.enter gf args) w)
    {encs : α → Array Value} {Kp : World → World → Prop} {s0 : σ} {Rd : σ → World → α → σ → Prop} {fin : σ → Prop} {w0 : World}
    (hseq : Iterates F (n - 1) P gf lb encs Kp s0 Rd fin w0) (hb0 : Below w0.heap.size w0 w) (hps : ∀ x, (encs x).size = ps.size)
    (hKt : ∀ {A B C : World}, Kp A B → Kp B C → Kp A C)
    (hKb : ∀ (W : World) (l : Nat) (o o' : Obj), w.heap.size ≤ l → W.heap[l]? = some o → o.isCells = false → o.isWalk = false → Kp W (W.putObj l o')) (hKa : ∀ W W' : World, w.heap.size ≤ W.heap.size → Below W.heap.size W W' → Kp W W')
    (hRd : ∀ x s', OwnFrom w.heap.size (fun s W => Rd s W x s'))
    (I : σ → World → Prop) (Ix : Code → σ → World → Prop) (hI : OwnFrom w.heap.size I) (hIx : ∀ c, OwnFrom w.heap.size (Ix c)) (h0 : I s0 w) (Ax : α → Act → World → Prop) (hAx : ∀ x a', OwnFrom w.heap.size (fun (_ : Unit) W => Ax x a' W))
    (hassign : ∀ (l : Nat) (x : α) (W : World) (K : Act → World → Prop), w.heap.size ≤ W.heap.size → (∃ s s', Rd s W x s') → (∀ a' W', Below W.heap.size W W' → Ax x a' W' → K a' W') →
      assign.wpIn (F.inRound l) (n - 1 - 1) P (Exit.then K (fun _ _ _ => False)) { tmps := (ps.zip (encs x)).foldl (fun t (p, v) => t.setIfInBounds p v) a.tmps, defers := [] } W)
    (hbody : ∀ (l : Nat) (s : σ) (x : α) (s' : σ) (a' : Act) (W : World), I s W → Rd s W x s' → w.heap.size ≤ W.heap.size → Ax x a' W → body.wpIn (F.inRound l) (n - 1 - 1) P (toldPost w.heap.size Kp I Ix s' W) a' W)
    (hdone : ∀ (D : Nat) (s : σ) (W : World), w.heap.size ≤ D → fin s → I s W → W.heap[D]? = some (.deferred (some [])) → Q .normal { a with defers := { target := .collected D, args := #[] } :: a.defers } W)
    (hstop : ∀ (D : Nat) (c : Code) (s : σ) (W : World), w.heap.size ≤ D → Ix c s W → W.heap[D]? = some (.deferred (some [])) → c.wpIn F n P Q { a with defers := { target := .collected D, args := #[] } :: a.defers } W) :
    (Code.rangeFunc g ps assign body).wpIn F n P Q a w := by
  refine wpIn_rangeFunc fun fn hfn => ?_
  rw [hro]
  generalize hD : w.heap.size = D at *
  -- the loop's record, by its state and its pending jump
  let rec_ : LoopState → Option Code → Loop := fun st pe => { state := st, pending := pe, fn, tmps := a.tmps, params := ps, assign, body, defers := D }
  have hout := run_enterLoop_outer (P := P) (w := w) fn a.tmps ps assign body
  rw [hD] at hout
  generalize hW1 : (w.alloc (.deferred (some []))).alloc (.loop (rec_ .ready none)) = W1
  have hs1 : W1.heap.size = D + 2 := by rw [← hW1]; simp [hD]
  have hm1 : W1.heap[D]? = some (.deferred (some [])) := by
    rw [← hW1, Below.heap_alloc _ _ _ (by simp [hD])]
    have := World.alloc_heap_new w (.deferred (some []))
    rwa [hD] at this
  have hl1 : W1.heap[D + 1]? = some (.loop (rec_ .ready none)) := by
    rw [← hW1]
    have := World.alloc_heap_new (w.alloc (.deferred (some []))) (.loop (rec_ .ready none))
    rwa [World.size_alloc, hD] at this
  have hI1 : I s0 W1 := by rw [← hW1]; exact hI.alloc _ (hI.alloc _ h0)
  have hbw : Below w0.heap.size w0 W1 := by
    rw [← hW1]
    exact (hb0.alloc hb0.size _).alloc (by rw [World.size_alloc]; have := hb0.size; omega) _
  refine ⟨D + 1, [{ target := .collected D, args := #[] }], W1, { target := .fn (.func gf) lb, args := #[.func (.yield (D + 1)) #[] #[]] }, W1, gf,
    #[.func (.yield (D + 1)) #[] #[]] ++ lb, W1, by rw [← hW1]; exact hout, ?_, ?_, ?_, fun _ => h1, ?_⟩
  · simp only [resolve, hg]
    simp [go_sem]
  · intro f' hf'
    simp [Target.leads] at hf'
    subst hf'
    exact hFg
  · simp [invoke, go_sem, eg]
  -- what the iterator keeps of the two blocks
  have hkeep : ∀ {A B : World} {row : Option Nat} {k : Nat} {o : Obj}, A.grownBy B row → (∀ r, row = some r → W1.heap.size ≤ r ∧ ∃ o : Obj, A.heap[r]? = some o ∧ o.isWalk = true) → A.heap[k]? = some o → o.isWalk = false → B.heap[k]? = some o :=
    fun hgr hr hk ho => (grownBy_keeps hgr (fun r e => (hr r e).2) hk ho).trans hk
  have hrow : ∀ {A : World} {row : Option Nat}, (∀ r, row = some r → W1.heap.size ≤ r ∧ ∃ o : Obj, A.heap[r]? = some o ∧ o.isWalk = true) → (∀ r, row = some r → D ≤ r ∧ ∃ o : Obj, A.heap[r]? = some o ∧ o.isCells = false) :=
    fun hr r e => by
      obtain ⟨h1, o, ho, hw⟩ := hr r e
      exact ⟨by omega, o, ho, Obj.not_cells_of_walk hw⟩
  refine (hseq (D + 1) (fun s W => I s W ∧ W.heap[D + 1]? = some (.loop (rec_ .ready none)) ∧ W.heap[D]? = some (.deferred (some [])))
    (fun s W => ∃ c, Ix c s W ∧ W.heap[D + 1]? = some (.loop (rec_ .done (some c))) ∧ W.heap[D]? = some (.deferred (some []))) W1 hbw
    (fun s A B row hs hgr hr => ⟨hI s A B row hs.1 hgr (hrow hr), hkeep hgr hr hs.2.1 rfl, hkeep hgr hr hs.2.2 rfl⟩)
    (fun s A B row ⟨c, hc, hl, hm⟩ hgr hr => ⟨c, hIx c s A B row hc hgr (hrow hr), hkeep hgr hr hl rfl, hkeep hgr hr hm rfl⟩)
    ?_ ⟨hI1, hl1, hm1⟩).mono ?_
  · rintro s x s' W ⟨hi, hl, hm⟩ hrd
    have hlt : D + 1 < W.heap.size := (Array.getElem?_eq_some_iff.1 hl).1
    refine ⟨fn, _, assign, body, run_yield (P := P) hl (hps x), roundIn_of_wpIn hfn (hassign _ x W _ (by omega) ⟨s, s', hrd⟩ (fun a1 WA hbA hax => ⟨_, run_beginRound ((hbA.block _ hlt).trans hl) rfl, ?_⟩))⟩
    have hgA : W.grownBy WA none := ⟨hbA.os, hbA.tape, hbA.output, hbA.size, fun k hk _ => hbA.block k hk⟩
    replace hi := hI s W WA none hi hgA (fun r e => by cases e)
    replace hrd := (hRd x s') s W WA none hrd hgA (fun r e => by cases e)
    have hkA := hKa W WA (by omega) hbA
    replace hl := (hbA.block _ hlt).trans hl
    replace hm := (hbA.block _ (by omega)).trans hm
    replace hlt : D + 1 < WA.heap.size := Nat.lt_of_lt_of_le hlt hbA.size
    have hlb := World.putObj_heap_same (w := WA) (o := .loop { rec_ .ready none with state := .busy }) hlt
    have hmb := (World.putObj_heap_other (w := WA) (r := D + 1) (o := .loop { rec_ .ready none with state := .busy }) (show D ≠ D + 1 by omega)).trans hm
    have hkb := hKt hkA (hKb WA (D + 1) _ (.loop { rec_ .ready none with state := .busy }) (by omega) hl rfl rfl)
    have hib := hI.putObj (.loop { rec_ .ready none with state := .busy }) hi (by omega) hl rfl
    have hrb := (hRd x s').putObj (.loop { rec_ .ready none with state := .busy }) hrd (by omega) hl rfl
    have hxb := (hAx x a1).putObj (s := ()) (.loop { rec_ .ready none with state := .busy }) hax (by omega) hl rfl
    refine wpIn_mono (hbody _ s x s' a1 _ hib hrb (by rw [World.putObj_size]; omega) hxb) ?_
    -- what 'endRound' leaves
    have fin_ : ∀ (jump : Option Code) (W3 : World), KeepsFrom D (WA.putObj (D + 1) (.loop { rec_ .ready none with state := .busy })) W3 →
        ∃ W4, W4 = W3.putObj (D + 1) (.loop (rec_ (if jump.isNone then .ready else .done) jump)) ∧ (Instr.endRound (D + 1) jump).run P W3 = .ok (.bool jump.isNone) W4 ∧
          W3.heap[D + 1]? = some (.loop { rec_ .ready none with state := .busy }) ∧ W4.heap[D + 1]? = some (.loop (rec_ (if jump.isNone then .ready else .done) jump)) ∧ W4.heap[D]? = some (.deferred (some [])) := fun jump W3 hk3 => by
      have hl3 := hk3.same _ _ (by omega) hlb rfl
      exact ⟨_, rfl, run_endRound (P := P) jump hl3, hl3, World.putObj_heap_same (Array.getElem?_eq_some_iff.1 hl3).1, (World.putObj_heap_other (by omega)).trans (hk3.same _ _ (Nat.le_refl _) hmb rfl)⟩
    rintro e a3 W3 hp
    rcases e with _ | id | t | _ | _ | _
    · obtain ⟨hk3, hkp, hi3⟩ := hp
      obtain ⟨W4, rfl, hr, hl3, hl4, hm4⟩ := fin_ none W3 hk3
      exact ⟨_, _, hr, .inl ⟨rfl, ⟨hI.putObj _ hi3 (by omega) hl3 rfl, hl4, hm4⟩, hKt hkb (hKt hkp (hKb _ _ _ _ (by omega) hl3 rfl rfl))⟩⟩
    all_goals first
      | exact hp.elim
      | (obtain ⟨hk3, hi3⟩ := hp
         obtain ⟨W4, rfl, hr, hl3, hl4, hm4⟩ := fin_ (some _) W3 hk3
         exact ⟨_, _, hr, .inr ⟨rfl, _, (hIx _).putObj _ hi3 (by omega) hl3 rfl, hl4, hm4⟩⟩)
  · rintro e W2 ⟨⟨v, rfl⟩, ⟨s, hf, hi, hl, hm⟩ | ⟨s, c, hi, hl, hm⟩⟩
    · exact ⟨none, _, run_endLoop (P := P) hl (by simp [rec_]), hdone D s _ (Nat.le_refl _) hf (hI.putObj _ hi (by omega) hl rfl) ((World.putObj_heap_other (by omega)).trans hm)⟩
    · exact ⟨some c, _, run_endLoop (P := P) hl (by simp [rec_]), hstop D c s _ (Nat.le_refl _) ((hIx c).putObj _ hi (by omega) hl rfl) ((World.putObj_heap_other (by omega)).trans hm)⟩
end
end Go.Proofs.YtdfplenniamnoaaGreatDoor

/-! package coins: what a range over a map's keys or values, or over a slice's elements, hands over -/
namespace Go.Proofs.YtdfplenniamnoaaGreatDoor
open Go Go.RowKit Go.ChangeShapes Go.WideShapes
section
variable {F : Fence} {n : Nat} {P : Program} {w : World} {ops : Array Oper} {rest : List Oper} {o : Oper} {a : Act} {Q : Exit → Act → World → Prop}
theorem wpListIn_load_run (hgd : o.guard = none) (ty : TypeId) (x : Operand) (ho : o.op = .load ty x) (p v : Value) (hx : a.eval x = p) (hr : (Instr.loadAt ty p).run P w = .ok v w) (h : wpListIn F n P ops Q rest (a.put o.dst v) w) : wpListIn F n P ops Q (o :: rest) a w := by
  refine wpListIn_plain hgd fun K' hK' => ?_
  unfold Oper.wpIn
  refine ⟨by simp [Oper.about, ho], ?_⟩
  rw [Oper.semAt_plain F _ _ (by rw [ho]; intro c hc; cases hc)]
  simp only [execOp, ho, hx, Sem.run_bind, Sem.run_pure, Result.andThen_ok, hr]
  exact hK' _ _ h
theorem wpListIn_store_mid (hgd : o.guard = none) (ty : TypeId) (x y : Operand) (ho : o.op = .store ty x y)
    (b off : Nat) (cells : Array Value) (hx : a.eval x = .pointer (some ⟨b, off, none⟩)) (hy : a.eval y = .agg cells)
    (ht : w.there b off cells.size) (hi : (P.info? ty).map (·.size) = some cells.size) (h1 : cells.all (·.oneCell') = true)
    (h : wpListIn F n P ops Q rest (a.put o.dst undef) (w.setCells b off cells.toList)) : wpListIn F n P ops Q (o :: rest) a w := by
  refine wpListIn_plain hgd fun K' hK' => ?_
  unfold Oper.wpIn
  refine ⟨by simp [Oper.about, ho], ?_⟩
  rw [Oper.semAt_plain F _ _ (by rw [ho]; intro c hc; cases hc)]
  simp only [execOp, ho, hx, hy, Instr.storeAt, Instr.sureAddr, Sem.run_bind, Sem.run_pure, Result.andThen_ok, run_storeVar_mid w b off ty cells ht hi h1]
  exact hK' _ _ h
end
structure Cs.En where
  x : Cs.Pt × Tx.Co
section
variable {F : Fence} {n : Nat} {w : World} {ops : Array Oper} {rest : List Oper} {o : Oper} {a : Act} {Q : Exit → Act → World → Prop} {M left : List (Cs.Pt × Tx.Co)} {b r : Nat}
theorem wpListIn_range_pt (hg : o.guard = none) (m : Operand) (hop : o.op = Op.range 111 m) (hm : a.eval m = .map (some b)) (h : MapAt w b M)
    (hK : ∀ w', RangeAt w' b w.heap.size M M → Below w.heap.size w w' → wpListIn F n Tryz.prog ops Q rest (a.put o.dst (.pointer (some ⟨w.heap.size, 0, none⟩))) w') : wpListIn F n Tryz.prog ops Q (o :: rest) a w := by
  refine wpListIn_plain hg fun K' hK' => ?_
  obtain ⟨w', hrun, r1, r2⟩ := h.ranges
  unfold Oper.wpIn
  refine ⟨by simp [Oper.about, hop], ?_⟩
  rw [Oper.semAt_plain F _ _ (by rw [hop]; intro c hc'; cases hc')]
  simp [execOp, hop, hm, hrun, Result.andThen]
  exact hK' _ _ (hK w' r1 r2)
theorem wpListIn_next_pt (hg : o.guard = none) (it : Operand) (hop : o.op = Op.next it false) (hit : a.eval it = .pointer (some ⟨r, 0, none⟩)) (h : RangeAt w b r M left)
    (hDone : left = [] → wpListIn F n Tryz.prog ops Q rest (a.put o.dst (.tuple #[.bool false])) w)
    (hMore : ∀ (l1 l2 : List (Cs.Pt × Tx.Co)) (y : Cs.En) (w' : World), left = l1 ++ y.x :: l2 → RangeAt w' b r M (l1 ++ l2) → Moved (fun j => j = r) w w' → (Instr.entry (.pointer (some ⟨r, 0, none⟩))).run Tryz.prog w' = .ok (.tuple #[.agg (ptCells y.x.1.1 y.x.1.2).toArray, .agg (coCells y.x.2).toArray]) w' →
      wpListIn F n Tryz.prog ops Q rest (a.put o.dst (.tuple #[.bool true, .agg (ptCells y.x.1.1 y.x.1.2).toArray, .agg (coCells y.x.2).toArray])) w') : wpListIn F n Tryz.prog ops Q (o :: rest) a w := by
  refine wpListIn_plain hg fun K' hK' => ?_
  unfold Oper.wpIn
  refine ⟨by simp [Oper.about, hop], ?_⟩
  rw [Oper.semAt_plain F _ _ (by rw [hop]; intro c hc'; cases hc')]
  rcases h.next o.type with ⟨h0, hrun⟩ | ⟨l1, l2, x, w', hl, hrun, h1, h2, h3⟩
  · simp [execOp, hop, hit, hrun, Result.andThen]
    exact hK' _ _ (hDone h0)
  · simp [execOp, hop, hit, hrun, Result.andThen]
    exact hK' _ _ (hMore l1 l2 ⟨x⟩ w' hl h1 h2 h3)
end
theorem RangeAt.left_eq {w : World} {b r : Nat} {M left : List (Cs.Pt × Tx.Co)} (h : RangeAt w b r M left) : w.rangeLeft b r = left.length := by
  obtain ⟨es, clock, since, c0, seen, h1, h2, h3, h4, h5, h6, h7, h8, h9, h10, h11⟩ := h
  unfold World.rangeLeft
  rw [h1, h7]
  have e := congrArg List.length h11
  simpa using e
theorem RangeAt.walks {w w' : World} {b r : Nat} {M left : List (Cs.Pt × Tx.Co)} (h : RangeAt w b r M left) (hk : KeepsWalks w w') : RangeAt w' b r M left := by
  obtain ⟨es, clock, since, c0, seen, h1, h2, h3, h4, h5, h6, h7, h8⟩ := h
  exact ⟨es, clock, since, c0, seen, hk.same _ _ h1 rfl, h2, h3, h4, h5, h6, hk.same _ _ h7 rfl, h8⟩
theorem RangeAt.iter {w : World} {b r : Nat} {M left : List (Cs.Pt × Tx.Co)} (h : RangeAt w b r M left) : ∃ o : Obj, w.heap[r]? = some o ∧ o.isWalk = true := by
  obtain ⟨es, clock, since, c0, seen, h1, h2, h3, h4, h5, h6, h7, h8⟩ := h
  exact ⟨_, h7, rfl⟩
def encCo (c : Tx.Co) : Array Value := #[.agg (coCells c).toArray]
def encPt (p : Cs.Pt) : Array Value := #[.agg (ptCells p.1 p.2).toArray]
/-- what comes next -/
def RdCo (N : Nat) (s : List Tx.Co) (_ : World) (c : Tx.Co) (s' : List Tx.Co) : Prop := s' = s ++ [c] ∧ Tx.CoOk c ∧ s.length < N
def RdPt (N : Nat) (s : List Cs.Pt) (_ : World) (p : Cs.Pt) (s' : List Cs.Pt) : Prop := s' = s ++ [p] ∧ Cs.ptOk p ∧ s.length < N
theorem perm_next {A l1 l2 M : List (Cs.Pt × Tx.Co)} {x : Cs.Pt × Tx.Co} (h : (A ++ (l1 ++ x :: l2)).Perm M) : ((A ++ [x]) ++ (l1 ++ l2)).Perm M := by
  refine List.Perm.trans ?_ h
  rw [List.append_assoc]
  exact (List.Perm.refl A).append (List.perm_middle (a := x) (l₁ := l1) (l₂ := l2)).symm
set_option maxRecDepth 100000 in
set_option maxHeartbeats 4000000 in
theorem mvals_iter (m : Nat) (hm : 1 ≤ m) (Bm b : Nat) (M : Cs.Mp) (w : World) (hB : Has w Bm 111 #[.map (some b)]) (h : MapAt w b M) :
    Iterates Fence.wide m Tryz.prog 126 #[.pointer (some ⟨Bm, 0, none⟩)] encCo KeepsWalks [] (RdCo M.length) (fun s => s.Perm (M.map (·.2))) w := by
  intro l J Jx W hW hJ hJx hY h0
  have c0 : W.cell? ⟨Bm, 0, none⟩ = some (.map (some b)) := (hB.under hW hB.lt).cell_at rfl
  have hMW : MapAt W b M := h.below hW
  have hok : ∀ x, x ∈ M → Cs.ptOk x.1 ∧ Tx.CoOk x.2 := by
    obtain ⟨es, clock, _, _, _, h4, _⟩ := h
    exact h4
  refine callsIn_of_wp Tryz.func126 rfl trivial ?_ rfl
  simp only [Tryz.ntmps126, List.size_toArray, List.length_cons, List.length_nil, Nat.reduceAdd, Nat.reduceSub, Array.replicate_succ, Array.replicate_zero, List.push_toArray, List.append_toArray, List.nil_append, List.cons_append]
  gi_wp2_with (first
    | (gi_at_range; refine wpListIn_range_pt rfl (.tmp 5) rfl rfl hMW ?_; intro w1 hrg1 hb1)
    | gi_in)
  go_frame
  gi_loopw [4] (fun _ wr => ∃ (A left : Cs.Mp), RangeAt wr b W.heap.size M left ∧ (A ++ left).Perm M ∧ J (A.map (·.2)) wr) (fun _ wr => wr.rangeLeft b W.heap.size)
  case atStart => exact ⟨[], M, hrg1, List.Perm.refl _, hJ [] W w1 none h0 ⟨hb1.os, hb1.tape, hb1.output, hb1.size, fun k hk _ => hb1.block k hk⟩ (fun r e => by cases e)⟩
  case round =>
    obtain ⟨A, left, hrg, hperm, hJs⟩ := hrel
    clear hrg1 hb1 h0 c0
    gi_wp2_with (first
      | (gi_at_next; refine wpListIn_next_pt rfl (.tmp 6) rfl rfl hrg ?_ ?_)
      | gi_in)
    · intro hl
      gi_wp2
      go_end0
      refine ⟨⟨_, rfl⟩, .inl ⟨_, ?_, hJs⟩⟩
      rw [hl, List.append_nil] at hperm
      exact hperm.map _
    · intro l1 l2 ⟨x⟩ w2 hl hrg2 hm2 hen
      dsimp only at hl hen ⊢
      rw [hl] at hperm
      have hxM : x ∈ M := hperm.subset (by simp)
      have hxo := (hok x hxM).2
      have hb3 : Below w2.heap.size w2 ((w2.alloc (.cells #[.int .i64 0, .int .u64 0] 39)).setCells w2.heap.size 0 (coCells x.2).toArray.toList) := below_setAll (Nat.le_refl _) _ 0 ((Below.refl _ _).alloc (Nat.le_refl _) _)
      have hA3 : Has ((w2.alloc (.cells #[.int .i64 0, .int .u64 0] 39)).setCells w2.heap.size 0 (coCells x.2).toArray.toList) w2.heap.size 39 (coCells x.2).toArray := (Has.fresh w2 _ _).whole_cs rfl
      have lA := hA3.load_agg (P := Tryz.prog) (t := 39) Tryz.underlying39 rfl (size_co x.2)
      have hJ3 := hJ _ wr _ (some W.heap.size) hJs ⟨hb3.os.trans hm2.os, hb3.tape.trans hm2.tape, hb3.output.trans hm2.output, Nat.le_trans hm2.size hb3.size, fun k hk hne => (hb3.block k (Nat.lt_of_lt_of_le hk hm2.size)).trans (hm2.block k hk (fun e => hne (by rw [e])))⟩ (fun r e => by cases e; exact ⟨Nat.le_refl _, hrg.iter⟩)
      have hlt : (A.map (·.2)).length < M.length := by
        have e := hperm.length_eq
        simp only [List.length_append, List.length_cons, List.length_map] at e ⊢
        omega
      obtain ⟨fn, tmps, assign, body, hy, hR⟩ := hY _ x.2 _ _ hJ3 ⟨rfl, hxo, hlt⟩
      dsimp only [encCo] at hy
      have HR := Lib.hid hR
      have HL := Lib.hid hl
      have HP := Lib.hid hperm
      clear hl hperm hR hlt hxo hxM
      gi_wp2_with (first
        | (refine wpListIn_store_mid rfl 39 (.tmp 4) (.tmp 10) rfl w2.heap.size 0 (coCells x.2).toArray rfl rfl ((Has.fresh w2 39 #[.int .i64 0, .int .u64 0]).there 0 2 (Nat.le_refl _)) (size_co x.2) (coRec.all_one x.2) ?_)
        | (refine wpListIn_load_run rfl 39 (.tmp 4) rfl _ _ rfl lA ?_)
        | gi_in)
      refine HR.out.mono ?_
      rintro e W3 (⟨rfl, hJ3, hk3⟩ | ⟨rfl, hJx3⟩)
      · gi_wp2
        have hrg3 := (hrg2.below hb3).walks hk3
        have hP2 := perm_next HP.out
        have hl2 : (l1 ++ l2).length < left.length := by rw [HL.out]; simp
        go_roundw
        case rel => exact ⟨A ++ [x], l1 ++ l2, hrg3, hP2, by rw [List.map_append]; exact hJ3⟩
        case measure => rw [hrg3.left_eq, hrg.left_eq]; exact hl2
      · gi_wp2
        refine bodyPost_ret (results_none rfl _ _ _) rfl ?_
        exact ⟨⟨_, rfl⟩, .inr ⟨_, hJx3⟩⟩
end Go.Proofs.YtdfplenniamnoaaGreatDoor

/-! package coins: a range over a slice of coins, over the map that isn't there; worth, Worth -/
namespace Go.Proofs.YtdfplenniamnoaaGreatDoor
open Go Go.RowKit Go.ChangeShapes Go.WideShapes
set_option maxRecDepth 100000 in
set_option maxHeartbeats 4000000 in
theorem svals_iter (m : Nat) (hm : 1 ≤ m) (Bm : Nat) (a : Option Addr) (n q : Nat) (CL : List Tx.Co) (w : World) (hB : Has w Bm 24 #[.slice a n q]) (h : Recs coRec w a n CL) :
    Iterates Fence.wide m Tryz.prog 121 #[.pointer (some ⟨Bm, 0, none⟩)] encCo (fun W W' => Below w.heap.size W W') [] (RdCo CL.length) (fun s => s.Perm CL) w := by
  intro l J Jx W hW hJ hJx hY h0
  have c0 : W.cell? ⟨Bm, 0, none⟩ = some (.slice a n q) := (hB.under hW hB.lt).cell_at rfl
  have hnmx : n ≤ 9223372036854775807 := h.2.1
  refine callsIn_of_wp Tryz.func121 rfl trivial ?_ rfl
  simp only [Tryz.ntmps121, List.size_toArray, List.length_cons, List.length_nil, Nat.reduceAdd, Nat.reduceSub, Array.replicate_succ, Array.replicate_zero, List.push_toArray, List.append_toArray, List.nil_append, List.cons_append]
  have h00 : J (CL.take 0) W := h0
  gi_wp2
  gi_loopw [7] (fun iv wr => ∃ i : Nat, i ≤ n ∧ iv = .int .i64 i ∧ J (CL.take i) wr ∧ Below w.heap.size w wr) (fun iv _ => n - (intOf iv).toNat)
  case atStart => exact ⟨0, Nat.zero_le _, rfl, h00, hW⟩
  case round =>
    obtain ⟨i, hi, rfl, hJs, hbr⟩ := hrel
    clear h0 h00 c0
    by_cases hlt : i < n
    · have hii : (i : Int) < (n : Int) := by omega
      have hi0 : (0 : Int) ≤ (i : Int) := by omega
      obtain ⟨c, hc⟩ := h.get hlt
      obtain ⟨x, hax, _⟩ := h.2.2.2 i c hc
      subst hax
      have hy0 := (h.below hbr).load_at Tryz.underlying39 rfl size_coin hc
      have hco := h.okay hc
      have hb3 : Below wr.heap.size wr ((wr.alloc (.cells #[.int .i64 0, .int .u64 0] 39)).setCells wr.heap.size 0 (coCells c).toArray.toList) := below_setAll (Nat.le_refl _) _ 0 ((Below.refl _ _).alloc (Nat.le_refl _) _)
      have hA3 : Has ((wr.alloc (.cells #[.int .i64 0, .int .u64 0] 39)).setCells wr.heap.size 0 (coCells c).toArray.toList) wr.heap.size 39 (coCells c).toArray := (Has.fresh wr _ _).whole_cs rfl
      have lA := hA3.load_agg (P := Tryz.prog) (t := 39) Tryz.underlying39 rfl (size_co c)
      have hJ3 := hJ _ wr _ none hJs ⟨hb3.os, hb3.tape, hb3.output, hb3.size, fun k hk _ => hb3.block k hk⟩ (fun r e => by cases e)
      have ht : CL.take (i + 1) = CL.take i ++ [c] := by
        obtain ⟨h2, h3⟩ := List.getElem?_eq_some_iff.1 hc
        rw [List.take_succ_eq_append_getElem h2, h3]
      obtain ⟨fn, tmps, assign, body, hy, hR⟩ := hY _ c _ _ hJ3 ⟨rfl, hco, by rw [List.length_take, h.1]; omega⟩
      dsimp only [encCo] at hy
      have HR := Lib.hid hR
      have HT := Lib.hid ht
      have hTr := hbr.trans (hb3.mono hbr.size)
      clear hR ht hco hc
      gi_wp2_with (first
        | (refine wpListIn_store_mid rfl 39 (.tmp 4) (.tmp 10) rfl wr.heap.size 0 (coCells c).toArray rfl rfl ((Has.fresh wr 39 #[.int .i64 0, .int .u64 0]).there 0 2 (Nat.le_refl _)) (size_co c) (coRec.all_one c) ?_)
        | (refine wpListIn_load_run rfl 39 (.tmp 4) rfl _ _ rfl lA ?_)
        | (refine wpListIn_load_run rfl 39 (.tmp 9) rfl _ _ rfl hy0 ?_)
        | gi_in)
      refine HR.out.mono ?_
      rintro e W3 (⟨rfl, hJ3, hk3⟩ | ⟨rfl, hJx3⟩)
      · gi_wp2
        have hT3 := hTr.trans hk3
        go_roundw
        case rel => exact ⟨i + 1, by omega, by go_num, by rw [HT.out]; exact hJ3, hT3⟩
        case measure => (simp [intOf]; try omega)
      · gi_wp2
        refine bodyPost_ret (results_none rfl _ _ _) rfl ?_
        exact ⟨⟨_, rfl⟩, .inr ⟨_, hJx3⟩⟩
    · have hii : ¬ (i : Int) < (n : Int) := by omega
      obtain rfl : i = n := by omega
      gi_wp2
      go_end0
      refine ⟨⟨_, rfl⟩, .inl ⟨_, ?_, hJs⟩⟩
      rw [List.take_of_length_le (by rw [h.1]; omega)]
set_option maxRecDepth 100000 in
set_option maxHeartbeats 4000000 in
theorem mvals_none (m : Nat) (_ : 1 ≤ m) (Bm : Nat) (w : World) (hB : Has w Bm 111 #[.map none]) :
    Iterates Fence.wide m Tryz.prog 126 #[.pointer (some ⟨Bm, 0, none⟩)] encCo KeepsWalks [] (RdCo 0) (fun s => s.Perm []) w := by
  intro l J Jx W hW hJ hJx hY h0
  have c0 : W.cell? ⟨Bm, 0, none⟩ = some (.map none) := (hB.under hW hB.lt).cell_at rfl
  refine callsIn_of_wp Tryz.func126 rfl trivial ?_ rfl
  simp only [Tryz.ntmps126, List.size_toArray, List.length_cons, List.length_nil, Nat.reduceAdd, Nat.reduceSub, Array.replicate_succ, Array.replicate_zero, List.push_toArray, List.append_toArray, List.nil_append, List.cons_append]
  have hrg := run_range_nilMap (P := Tryz.prog) W 111 _ _ Tryz.underlying111
  have hnx : ∀ ty, (Instr.next (.pointer (some ⟨W.heap.size, 0, none⟩)) false ty).run Tryz.prog (W.alloc (.mapIter none 0 #[] 0)) = _ := fun ty => run_next_nilMap _ ty 0 0 #[]
  gi_wp2
  refine wpIn_loop_rounds 1 ?_
  rw [roundsIn_succ]
  gi_wp2
  go_end0
  exact ⟨⟨_, rfl⟩, .inl ⟨[], List.Perm.refl _, hJ [] W _ none h0 (World.grownBy_alloc W _ none) (fun r e => by cases e)⟩⟩
end Go.Proofs.YtdfplenniamnoaaGreatDoor

/-! package coins: worth, Worth -/
namespace Go.Proofs.YtdfplenniamnoaaGreatDoor
open Go Go.RowKit Go.ChangeShapes Go.WideShapes
attribute [local go_sem] Oper.semAt_some
namespace Cs
/-- what a list of good coins is worth -/
def tot (L : List Tx.Co) : Int × Int := if Am.Good (Tx.vals L).sum then ((Tx.vals L).sum, 0) else (0, 9)
theorem tot_perm {s L : List Tx.Co} (h : s.Perm L) (hg : ∀ c, c ∈ L → Am.Good c.v) : Am.total (Tx.vals s) 0 = tot L := by
  have h1 : (Tx.vals s).sum = (Tx.vals L).sum := sum_perm (h.map _)
  rw [total_good (Tx.vals s) 0 (fun z hz => by
    obtain ⟨c, hc, rfl⟩ := List.mem_map.1 hz
    exact hg c (h.subset hc)) (by decide), Int.zero_add, h1]
  rfl
end Cs
theorem own_kept {w w' : World} {B k : Nat} {T : TypeId} {row : Option Nat} {v : Value} {n : Nat} {xs : List Value} (h : w.ownsRow B T k v n xs) (hg : w.grownBy w' row) (hr : ∀ r, row = some r → ∃ o : Obj, w.heap[r]? = some o ∧ o.isCells = false) : w'.ownsRow B T k v n xs := by
  refine h.kept hg ?_
  rcases h.2 with ⟨rfl, _⟩ | ⟨g, cap, cur, rfl, _, hgb, _⟩
  · exact .inl rfl
  · refine .inr fun e' => ?_
    obtain ⟨o, ho, hw⟩ := hr g (by simpa [Value.ownBlock] using e'.symm)
    rw [hgb] at ho
    cases ho
    cases hw
theorem own_others {w w' : World} {B k : Nat} {T : TypeId} {v : Value} {n : Nat} {xs : List Value} {W : World} (h : W.ownsRow B T k v n xs) (hb : Below W.heap.size W w) (hg : w.grownBy w' v.ownBlock) : KeepsOthers w w' :=
  KeepsOthers.of_grownBy hg fun j o e ho => by
    rcases h.2 with ⟨rfl, _⟩ | ⟨g, cap, cur, rfl, _, h2, _⟩
    · cases e
    · injection e with e
      subst e
      have := (hb.block g (Array.getElem?_eq_some_iff.1 h2).1).trans h2
      rw [this] at ho
      injection ho with ho
      subst ho
      rfl
theorem leaves_tmps {P : Program} {fn : Func} {n : Nat} {p q : Tmp} (h : fn.results = #[.tmp p, .tmp q]) {tmps : Array Value} {D : Nat} {w : World} {v u : Value} {R : Ending → World → Prop}
    (hp : tmps.getD p undef = v) (hq : tmps.getD q undef = u) (hK : w.heap[D]? = some (.deferred (some []))) (hR : R (.returned (.tuple #[v, u])) (w.putObj D (.deferred none))) :
    bodyPostM Fence.wide n P fn R .ret { tmps := tmps, defers := [{ target := .collected D, args := #[] }] } w := by
  refine ⟨by simp, .inl ⟨_, _, rfl, run_takeDeferred hK, ⟨.tuple #[v, u], ?_, hR⟩⟩⟩
  rw [Array.getD_eq_getD_getElem?] at hp hq
  simp only [results, h]
  simp [hp, hq]
theorem has_grown_own {T T' : TypeId} {B g : Nat} {w w' : World} {cs : Array Value} {v : Value} {l : List Int} (h : Has w g T cs) (ho : OwnN T' B w v l) (hT : T ≠ T') (hg : w.grownBy w' v.ownBlock) : Has w' g T cs :=
  (hg.block g h.lt (fun e => by
    rcases ho.2 with ⟨rfl, _⟩ | ⟨g', cap, cur, rfl, _, hgb, _⟩
    · cases e
    · injection e with e
      subst e
      exact Has.ne_type h hgb hT rfl)).trans h
theorem wpListIn_append_nums {F : Fence} {n : Nat} {P : Program} {w : World} {ops : Array Oper} {rest : List Oper} {o : Oper} {a : Act} {Q : Exit → Act → World → Prop} (hgd : o.guard = none) (s x : Operand) (t : TypeId)
    (ho : o.op = .call { callee := .builtin .append, args := #[s, x], argTypes := #[t, t] })
    (T : TypeId) (ht : P.underlying t = some (.slice T)) (hinfo : (P.info? T).map (fun i => (i.zero, i.size, i.bytes)) = some (some (.int .i64 0), 1, 8))
    (B : Nat) (v : Value) (l : List (Int)) (hs : a.eval s = v) (hown : OwnN T B w v l) (ad : Addr) (m c : Nat) (l2 : List (Int)) (hx : a.eval x = .slice (some ad) m c) (hw : Nums w (some ad) m l2)
    (h63 : l.length + m ≤ 1099511627776) (hbase : B ≤ w.heap.size)
    (h : ∀ v' w', OwnN T B w' v' (l ++ l2) → w.grownBy w' v.ownBlock → wpListIn F n P ops Q rest (a.put o.dst v') w') : wpListIn F n P ops Q (o :: rest) a w := by
  obtain ⟨i0, hi, hz0, hz1, hz2⟩ := info_parts hinfo
  obtain ⟨hl2, hm, hcell⟩ := hw
  refine wpListIn_append_own w hgd s x t ho B T i0 (.int .i64 0) 1 8 ht hi hz0 hz1 hz2 rfl (by decide) v _ _ hs hown ad m c (nlist l2) hx (by rw [nlist_length, hl2, Nat.mul_one]) (fun j u hj => ?_) (nlist_one _) (by unfold maxLen; omega) (by omega) hbase ?_
  · have hj2 : j < l2.length := by
      have := (List.getElem?_eq_some_iff.1 hj).1
      rwa [nlist_length] at this
    obtain ⟨ad', e, hx2⟩ := hcell j (by omega)
    injection e with e
    subst e
    rw [hx2, ← hj, nlist_at l2 j hj2]
  · intro v' w' h1 h2 _
    exact h v' w' (OwnN.all hl2 h1) h2
theorem own_set {T T' : TypeId} {B g : Nat} {w : World} {cs : Array Value} {v : Value} {l : List Int} (ho : OwnN T B w v l) (h : Has w g T' cs) (hT : T' ≠ T) (i : Nat) (u : Value) : OwnN T B (w.setCell ⟨g, i, none⟩ u) v l := by
  refine World.ownsRow.kept ho (row := some g) ⟨rfl, rfl, rfl, by simp, fun k hk hne => Below.heap_setCell _ _ _ k (fun e => hne (by rw [e]))⟩ ?_
  rcases ho.2 with ⟨rfl, _⟩ | ⟨g', cap, cur, rfl, _, hgb, _⟩
  · exact .inl rfl
  · refine .inr fun e' => ?_
    injection e' with e'
    subst e'
    exact Has.ne_type h hgb hT rfl
theorem below_set1 {B g : Nat} {w1 w2 w3 : World} {row : Option Nat} {u : Value} (h : Below B w1 w2) (hg : w2.grownBy w3 row) (hr : ∀ k, row = some k → B ≤ k) (hB : B ≤ w2.heap.size) (hBg : B ≤ g := by omega) : Below B w1 (w3.setCell ⟨g, 0, none⟩ u) :=
  below_setAll hBg [u] 0 (h.grown hg hB hr)
theorem KeepsOthers.of_below {w w' : World} (h : Below w.heap.size w w') : KeepsOthers w w' := ⟨h.size, fun k _ hk _ => (h.block k (Array.getElem?_eq_some_iff.1 hk).1).trans hk⟩
set_option maxRecDepth 100000 in
set_option maxHeartbeats 8000000 in
theorem worth_any {w w0 : World} (gf : Nat) (lb : Array Value) (eg : ∀ args w, (callFunc gf args).run Tryz.prog w = .ok (.enter gf args) w) (Kp : World → World → Prop) (hKt : ∀ {A B C : World}, Kp A B → Kp B C → Kp A C)
    (hKb : ∀ (W : World) (l : Nat) (o o' : Obj), w.heap.size ≤ l → W.heap[l]? = some o → o.isCells = false → o.isWalk = false → Kp W (W.putObj l o'))
    (hKo : ∀ W W' : World, KeepsOthers W W' → Below w.heap.size W W' → Kp W W') (CL : List Tx.Co) (hN : CL.length ≤ 1000000000) (hg : ∀ c, c ∈ CL → Am.Good c.v)
    (hseq : Iterates Fence.wide 4 Tryz.prog gf lb encCo Kp [] (RdCo CL.length) (fun s => s.Perm CL) w0) (hb0 : Below w0.heap.size w0 w) :
    Calls Tryz.prog 71 #[.func (.func gf) #[] lb] w fun e w' => e = .returned (.tuple #[.int .i64 (Cs.tot CL).1, errn (Cs.tot CL).2]) ∧ Below w.heap.size w w' := by
  have HN := Lib.hid hN
  have HG := Lib.hid hg
  have HKO := Lib.hid hKo
  have HKB := Lib.hid hKb
  clear hN hg hKo hKb
  apply calls_wide7
  refine callsIn_of_wp_marks Tryz.func71 rfl trivial ?_ rfl
  simp only [Tryz.ntmps71, List.size_toArray, List.length_cons, List.length_nil, Nat.reduceAdd, Nat.reduceSub, Array.replicate_succ, Array.replicate_zero, List.push_toArray, List.append_toArray, List.nil_append, List.cons_append]
  refine wpIn_wide.2 ?_
  go_wp2
  obtain ⟨w1, hw1⟩ : ∃ x, x = w.alloc (.cells #[.slice none 0 0] 191) := ⟨_, rfl⟩
  rw [← hw1]
  have hB1 : Below w.heap.size w w1 := by rw [hw1]; exact (Below.refl _ _).alloc (Nat.le_refl _) _
  have hX1 : Has w1 w.heap.size 191 #[.slice none 0 0] := by rw [hw1]; exact Has.fresh _ _ _
  have hs1 : w1.heap.size = w.heap.size + 1 := by rw [hw1]; simp
  have HS := Lib.hid hs1
  clear hw1 hs1
  refine (wpIn_wide (n := 5)).1 ?_
  refine wpIn_range_made (F := Fence.wide) rfl (by omega) (gf := gf) (lb := lb) rfl trivial eg hseq (hb0.trans (hB1.mono hb0.size)) (fun _ => rfl) hKt
    (fun W l o o' hl ho hc hw => HKB.out W l o o' (by have := HS.out; omega) ho hc hw) (fun W W' hs hb => HKO.out W W' (KeepsOthers.of_below hb) (hb.mono (by have := HS.out; omega))) (fun x s' s W W' row h hg hr => h)
    (fun s W => Below w.heap.size w W ∧ ∃ v, Has W w.heap.size 191 #[v] ∧ OwnN 3 w.heap.size W v (Tx.vals s))
    (fun _ _ _ => False)
    (fun s W W' row h hg hr => ⟨h.1.grown hg h.1.size (fun k e => by have := (hr k e).1; have := HS.out; omega), by
      obtain ⟨v, h1, h2⟩ := h.2
      exact ⟨v, h1.kept hg (fun r e => (hr r e).2), own_kept h2 hg (fun r e => (hr r e).2)⟩⟩)
    (fun _ _ _ _ _ h _ _ => h) ⟨hB1, _, hX1, OwnN.nil _ _ _⟩
    (fun x a' W => ∃ g, a' = { tmps := #[.func (.func gf) #[] lb, undef, .int .i64 0, .nilIface, .pointer (some ⟨w.heap.size, 0, none⟩), .pointer (some ⟨g, 0, none⟩), .func (.func gf) #[] lb, .agg (coCells x).toArray, undef, undef, undef, undef, undef, undef, undef, undef, undef], defers := [] } ∧ Has W g 39 (coCells x).toArray)
    (fun x a' s W W' row h hg hr => by
      obtain ⟨g, h1, h2⟩ := h
      exact ⟨g, h1, h2.kept hg (fun r e => (hr r e).2)⟩)
    ?assign ?body ?done ?stop
  case assign =>
    intro l x W K hsz hx hK
    dsimp only [encCo]
    gi_wp2_with (first
      | (refine wpListIn_store_mid rfl 39 (.tmp 5) (.tmp 7) rfl W.heap.size 0 (coCells x).toArray rfl rfl ((Has.fresh W 39 #[.int .i64 0, .int .u64 0]).there 0 2 (Nat.le_refl _)) (size_co x) (coRec.all_one x) ?_)
      | gi_in)
    exact hK _ _ (below_setAll (Nat.le_refl _) _ 0 ((Below.refl _ _).alloc (Nat.le_refl _) _)) ⟨_, rfl, (Has.fresh W _ _).whole_cs rfl⟩
  case stop => exact fun _ _ _ _ _ h => h.elim
  case done =>
    rintro D s W hD hs ⟨hbW, v, hNW, hoW⟩ hK1
    obtain ⟨k, hk⟩ : ∃ k, k = (Tx.vals s).length := ⟨_, rfl⟩
    obtain ⟨va, vc, rfl, hvc, h0v, hnu⟩ := hoW.shape hk.symm
    have hT := ptotal_any va k vc (Tx.vals s) W hnu
    rw [Cs.tot_perm hs HG.out] at hT
    have cN : W.cell? ⟨w.heap.size, 0, none⟩ = some (.slice va k vc) := hNW.cell_at rfl
    have HT := Lib.hid hT
    have HB := Lib.hid hbW
    have HD := Lib.hid hD
    clear hT hnu hs hoW hNW hk hbW hD
    go_wp2_with (go_at_call 120; refine HT.out.mono ?_; rintro e w5 ⟨rfl, rfl⟩)
    exact leaves_tmps rfl rfl rfl hK1 ⟨rfl, below_put_at HB.out HB.out.size (by have := HS.out; have := HD.out; omega) _⟩
  case body =>
    rintro lp s x s' a' W ⟨hbW, v, hNW, hoW⟩ ⟨rfl, hxo, hsl⟩ hsz ⟨g, rfl, hGW⟩
    have cN : W.cell? ⟨w.heap.size, 0, none⟩ = some v := hNW.cell_at rfl
    have cG : W.cell? ⟨g, 0, none⟩ = some (.int .i64 x.v) := hGW.cell_at rfl
    have hbA : Below W.heap.size W (W.alloc (.cells #[.int .i64 x.v] 3)) := (Below.refl _ _).alloc (Nat.le_refl _) _
    have hnl := nums_lit W x.v
    have hoA := hoW.below hbA
    have hNA : Has (W.alloc (.cells #[.int .i64 x.v] 3)) w.heap.size 191 #[v] := hNW.past _
    have HLN := Lib.hid (show (Tx.vals s).length < 1000000000 by rw [Tx.vals_len]; have := HN.out; omega)
    have HW := Lib.hid hbW
    clear hxo hsl hGW
    gi_wp2_with (first
      | (refine wpListIn_append_nums rfl (.tmp 8) (.tmp 11) 191 rfl 3 Tryz.underlying191 info_num w.heap.size v (Tx.vals s) rfl hoA ⟨W.heap.size, 0, none⟩ 1 1 [x.v] rfl hnl (by have := HLN.out; omega) (by have := HW.out.size; simp; omega) ?_; intro v' w6 ho' hg'; have h6 := has_grown_own hNA hoA (by decide) hg'; have c6 : w6.cell? ⟨w.heap.size, 0, none⟩ = some v := h6.cell_at rfl; obtain ⟨k, hk⟩ : ∃ k, k = (Tx.vals s ++ [x.v]).length := ⟨_, rfl⟩; obtain ⟨va, vc, rfl, hvc, h0v, hnu⟩ := ho'.shape hk.symm; clear hk; have f6 : w6.frozen? ⟨w.heap.size, 0, none⟩ = false := h6.loose 0)
      | gi_in)
    have hKO1 := ((KeepsOthers.of_below hbA).trans (own_others hoW hbA hg')).trans (KeepsOthers.setCell w6 ⟨w.heap.size, 0, none⟩ (.slice va k vc))
    have hBB := below_set1 (g := w.heap.size) (u := .slice va k vc) (hbA.mono HW.out.size) hg' hoW.lt (by have := HW.out.size; simp; omega)
    refine ⟨?_, ?_, ?_, ?_⟩
    · exact ((hKO1).from _)
    · exact HKO.out _ _ hKO1 hBB
    · exact HW.out.trans hBB
    · exact ⟨_, h6.put 0 _, by rw [show Tx.vals (s ++ [x]) = Tx.vals s ++ [x.v] by simp [Tx.vals]]; exact own_set ho' h6 (by decide) 0 _⟩
end Go.Proofs.YtdfplenniamnoaaGreatDoor

/-! package coins: Worth, Fee -/
namespace Go.Proofs.YtdfplenniamnoaaGreatDoor
open Go Go.RowKit Go.ChangeShapes Go.WideShapes
set_option maxHeartbeats 4000000 in
theorem mvalues_any (mb : Option Nat) (w : World) : Calls Tryz.prog 77 #[.map mb] w fun e w' =>
    e = .returned (.func (.func 126) #[] #[.pointer (some ⟨w.heap.size, 0, none⟩)]) ∧ w.alloc (.cells #[.map mb] 111) = w' := by
  go_enter Tryz.func77, Tryz.ntmps77
  go_wp2
  go_ret
  exact ⟨rfl, rfl⟩
set_option maxHeartbeats 4000000 in
theorem svalues_any (a : Option Addr) (n q : Nat) (w : World) : Calls Tryz.prog 72 #[.slice a n q] w fun e w' =>
    e = .returned (.func (.func 121) #[] #[.pointer (some ⟨w.heap.size, 0, none⟩)]) ∧ w.alloc (.cells #[.slice a n q] 24) = w' := by
  go_enter Tryz.func72, Tryz.ntmps72
  go_wp2
  go_ret
  exact ⟨rfl, rfl⟩
theorem Cs.tot_map (M : Cs.Mp) : Cs.tot (M.map (·.2)) = Cs.worthT M := by
  unfold Cs.tot Cs.worthT Cs.worth Tx.vals
  rw [List.map_map]
  rfl
/-- worth, over a slice of coins -/
theorem worth_slice (a : Option Addr) (n q : Nat) (CL : List Tx.Co) (w : World) (h : Recs coRec w a n CL) (hn : n ≤ 1000000000) (hg : ∀ c, c ∈ CL → Am.Good c.v) :
    Calls Tryz.prog 71 #[.func (.func 121) #[] #[.pointer (some ⟨w.heap.size, 0, none⟩)]] (w.alloc (.cells #[.slice a n q] 24)) fun e w' =>
      e = .returned (.tuple #[.int .i64 (Cs.tot CL).1, errn (Cs.tot CL).2]) ∧ Below w.heap.size w w' := by
  obtain ⟨w1, hw1⟩ : ∃ x, x = w.alloc (.cells #[.slice a n q] 24) := ⟨_, rfl⟩
  have hB1 : Below w.heap.size w w1 := by rw [hw1]; exact (Below.refl _ _).alloc (Nat.le_refl _) _
  have hX1 : Has w1 w.heap.size 24 #[.slice a n q] := by rw [hw1]; exact Has.fresh _ _ _
  rw [← hw1]
  refine (worth_any 121 #[.pointer (some ⟨w.heap.size, 0, none⟩)] (enters_of Tryz.func121 (by kernel_rfl) rfl) (fun W W' => Below w1.heap.size W W') (fun h k => h.trans k)
    (fun W l o o' hl ho _ _ => belowK_b (Nat.le_refl _) W l o o' hl ho (by assumption) (by assumption)) (fun W W' _ hb => hb) CL (by rw [h.1]; exact hn) hg (svals_iter 4 (by omega) w.heap.size a n q CL w1 hX1 (h.below hB1)) (Below.refl _ _)).mono fun e w' ⟨he, hb⟩ => ⟨he, hB1.trans (hb.mono hB1.size)⟩
set_option maxHeartbeats 4000000 in
theorem worth_map {w : World} {mv : Option Nat} {M : Cs.Mp} (h : MapV w (.map mv) M) (hl : M.length ≤ 1000000000) (hg : ∀ x, x ∈ M → Am.Good x.2.v) :
    Calls Tryz.prog 71 #[.func (.func 126) #[] #[.pointer (some ⟨w.heap.size, 0, none⟩)]] (w.alloc (.cells #[.map mv] 111)) fun e w' =>
      e = .returned (.tuple #[.int .i64 (Cs.worthT M).1, errn (Cs.worthT M).2]) ∧ Below w.heap.size w w' := by
  obtain ⟨w1, hw1⟩ : ∃ x, x = w.alloc (.cells #[.map mv] 111) := ⟨_, rfl⟩
  have hB1 : Below w.heap.size w w1 := by rw [hw1]; exact (Below.refl _ _).alloc (Nat.le_refl _) _
  have hX1 : Has w1 w.heap.size 111 #[.map mv] := by rw [hw1]; exact Has.fresh _ _ _
  rw [← hw1, ← Cs.tot_map]
  have hseq : Iterates Fence.wide 4 Tryz.prog 126 #[.pointer (some ⟨w.heap.size, 0, none⟩)] encCo KeepsWalks [] (RdCo (M.map (·.2)).length) (fun s => s.Perm (M.map (·.2))) w1 := by
    rw [List.length_map]
    rcases h with ⟨b, e, hm⟩ | ⟨e, rfl⟩
    · injection e with e
      subst e
      exact mvals_iter 4 (by omega) w.heap.size b M w1 hX1 (hm.below hB1)
    · injection e with e
      subst e
      exact mvals_none 4 (by omega) w.heap.size w1 hX1
  refine (worth_any 126 #[.pointer (some ⟨w.heap.size, 0, none⟩)] (enters_of Tryz.func126 (by kernel_rfl) rfl) KeepsWalks (fun h k => h.trans k)
    (fun W l o o' _ ho _ hw => KeepsWalks.putObj o' ho hw) (fun W W' hk _ => hk.walks) (M.map (·.2)) (by rw [List.length_map]; exact hl) (fun c hc => by
      obtain ⟨x, hx, rfl⟩ := List.mem_map.1 hc
      exact hg x hx) hseq (Below.refl _ _)).mono fun e w' ⟨he, hb⟩ => ⟨he, hB1.trans (hb.mono hB1.size)⟩
set_option maxHeartbeats 4000000 in
theorem pworth_any {w : World} {v : Value} {F : Nat → Prop} {M : Cs.Mp} (h : SetN w v F M) (hl : M.length ≤ 1000000000) (hg : ∀ x, x ∈ M → Am.Good x.2.v) :
    Calls Tryz.prog 20 #[v] w fun e w' => e = .returned (.tuple #[.int .i64 (Cs.worthT M).1, errn (Cs.worthT M).2]) ∧ Below w.heap.size w w' := by
  obtain ⟨m, hm, HA⟩ := all_any h
  have HW := Lib.hid (worth_map hm hl hg)
  clear h hm hl hg
  generalize Cs.worthT M = z at HW ⊢
  go_enter Tryz.func20, Tryz.ntmps20
  go_wp2_with (first
    | (go_at_call 71; refine HW.out.mono ?_; rintro e w4 ⟨rfl, hb4⟩)
    | (go_at_call 77; refine (mvalues_any m w).mono ?_; rintro e w3 ⟨rfl, rfl⟩)
    | (go_at_call 78; refine (HA _ (Below.refl _ _)).mono ?_; rintro e w2 ⟨rfl, rfl⟩))
  go_ret2
  exact ⟨rfl, hb4⟩
end Go.Proofs.YtdfplenniamnoaaGreatDoor
