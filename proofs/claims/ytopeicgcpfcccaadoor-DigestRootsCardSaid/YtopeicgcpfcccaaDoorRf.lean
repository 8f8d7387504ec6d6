/- A range over a function whose body is told what the iterator has just read. Nothing of the program. -/
import Derived.Test.YtopeicgcpfcccaaDoorB
import Derived.RangeFuncNested
import Derived.RangeFuncBound
import Derived.RangeFuncCalls
import Derived.RangeFuncLeaves
namespace Go.Proofs.YtopeicgcpfcccaaDoor
open Go Go.RowKit

/-- the iterator's contract: at state s it reads x in the world and, the round done, is at s' -/
def Iterates {σ α : Type} (F : Fence) (n : Nat) (P : Program) (g : Nat) (lb : Array Value) (encs : α → Array Value) (Kp : World → World → Prop) (s0 : σ) (Rd : σ → World → α → σ → Prop) (fin : σ → Prop) (w : World) : Prop :=
  ∀ (l : Nat) (J Jx : σ → World → Prop) (W : World), Below w.heap.size w W → AbidesFrom W.heap.size J → AbidesFrom W.heap.size Jx →
    (∀ s x s' W1, J s W1 → Rd s W1 x s' → YieldAt F (n - 1) P l (encs x) W1 fun e W2 =>
      (e = .returned (.bool true) ∧ J s' W2 ∧ Kp W1 W2) ∨ (e = .returned (.bool false) ∧ Jx s' W2)) →
    J s0 W → CallsIn F n P g (#[.func (.yield l) #[] #[]] ++ lb) W fun e W2 => (∃ v, e = .returned v) ∧ ((∃ s, fin s ∧ J s W2) ∨ ∃ s, Jx s W2)

/-- how a round's body may be left -/
def toldPost {σ : Type} (B : Nat) (Kp : World → World → Prop) (I : σ → World → Prop) (Ix : Code → σ → World → Prop) (s : σ) (W : World) : Exit → Act → World → Prop
  | .normal, _, W' => KeepsFrom B W W' ∧ Kp W W' ∧ I s W'
  | .ret, _, W' => KeepsFrom B W W' ∧ Ix .ret s W'
  | .exit id, _, W' => KeepsFrom B W W' ∧ Ix (.exit id) s W'
  | .goto t, _, W' => KeepsFrom B W W' ∧ Ix (.goto t) s W'
  | .panic _, _, _ => False
  | .outgrown, _, _ => False

section
variable {F : Fence} {n : Nat} {P : Program}

theorem wpIn_range_told {σ α : Type} {g : Operand} {ps : Array Tmp} {assign body : Code} {Q : Exit → Act → World → Prop} {a : Act} {w : World}
    (hro : F.round = none) (h1 : 1 ≤ n) {gf : Nat} {lb : Array Value} (hg : a.eval g = .func (.func gf) #[] lb) (hFg : F.fn gf) (eg : ∀ args w, (callFunc gf args).run P w = .ok (.enter gf args) w)
    {encs : α → Array Value} {Kp : World → World → Prop} {s0 : σ} {Rd : σ → World → α → σ → Prop} {fin : σ → Prop} {w0 : World}
    (hseq : Iterates F (n - 1) P gf lb encs Kp s0 Rd fin w0) (hb0 : Below w0.heap.size w0 w) (hps : ∀ x, (encs x).size = ps.size)
    (hKt : ∀ {A B C : World}, Kp A B → Kp B C → Kp A C)
    (hKb : ∀ (W : World) (l : Nat) (o o' : Obj), w.heap.size ≤ l → W.heap[l]? = some o → o.isCells = false → Kp W (W.putObj l o'))
    (hRd : ∀ x s', OwnFrom w.heap.size (fun s W => Rd s W x s'))
    (I : σ → World → Prop) (Ix : Code → σ → World → Prop) (hI : OwnFrom w.heap.size I) (hIx : ∀ c, OwnFrom w.heap.size (Ix c)) (h0 : I s0 w) (a₁ : α → Act)
    (hassign : ∀ (l : Nat) (x : α) (W : World) (K : Act → World → Prop), K (a₁ x) W →
      assign.wpIn (F.inRound l) (n - 1 - 1) P (Exit.then K (fun _ _ _ => False)) { tmps := (ps.zip (encs x)).foldl (fun t (p, v) => t.setIfInBounds p v) a.tmps, defers := [] } W)
    (hbody : ∀ (l : Nat) (s : σ) (x : α) (s' : σ) (W : World), I s W → Rd s W x s' → w.heap.size ≤ W.heap.size → body.wpIn (F.inRound l) (n - 1 - 1) P (toldPost w.heap.size Kp I Ix s' W) (a₁ x) W)
    (hdone : ∀ (D : Nat) (s : σ) (W : World), w.heap.size ≤ D → fin s → I s W → W.heap[D]? = some (.deferred (some [])) → Q .normal { a with defers := { target := .collected D, args := #[] } :: a.defers } W)
    (hstop : ∀ (D : Nat) (c : Code) (s : σ) (W : World), w.heap.size ≤ D → Ix c s W → W.heap[D]? = some (.deferred (some [])) → c.wpIn F n P Q { a with defers := { target := .collected D, args := #[] } :: a.defers } W) :
    (Code.rangeFunc g ps assign body).wpIn F n P Q a w := by
  refine wpIn_rangeFunc fun fn hfn => ?_
  rw [hro]
  generalize hD : w.heap.size = D at *
  -- the loop's record, by its state and its pending jump
  let rec_ : LoopState → Option Code → Loop := fun st pe => { state := st, pending := pe, fn, tmps := a.tmps, params := ps, assign, body, defers := D }
  have hout := run_enterLoop_outer (P := P) (w := w) fn a.tmps ps assign body
  rw [hD] at hout
  generalize hW1 : (w.alloc (.deferred (some []))).alloc (.loop (rec_ .ready none)) = W1
  have hs1 : W1.heap.size = D + 2 := by rw [← hW1]; simp [hD]
  have hm1 : W1.heap[D]? = some (.deferred (some [])) := by
    rw [← hW1, Below.heap_alloc _ _ _ (by simp [hD])]
    have := World.alloc_heap_new w (.deferred (some []))
    rwa [hD] at this
  have hl1 : W1.heap[D + 1]? = some (.loop (rec_ .ready none)) := by
    rw [← hW1]
    have := World.alloc_heap_new (w.alloc (.deferred (some []))) (.loop (rec_ .ready none))
    rwa [World.size_alloc, hD] at this
  have hI1 : I s0 W1 := by rw [← hW1]; exact hI.alloc _ (hI.alloc _ h0)
  have hbw : Below w0.heap.size w0 W1 := by
    rw [← hW1]
    exact (hb0.alloc hb0.size _).alloc (by rw [World.size_alloc]; have := hb0.size; omega) _
  refine ⟨D + 1, [{ target := .collected D, args := #[] }], W1, { target := .fn (.func gf) lb, args := #[.func (.yield (D + 1)) #[] #[]] }, W1, gf,
    #[.func (.yield (D + 1)) #[] #[]] ++ lb, W1, by rw [← hW1]; exact hout, ?_, ?_, ?_, fun _ => h1, ?_⟩
  · simp only [resolve, hg]
    simp [go_sem]
  · intro f' hf'
    simp [Target.leads] at hf'
    subst hf'
    exact hFg
  · simp [invoke, go_sem, eg]
  -- what the iterator keeps of the two blocks
  have hkeep : ∀ {A B : World} {row : Option Nat} {k : Nat} {o : Obj}, A.grownBy B row → (∀ r, row = some r → W1.heap.size ≤ r ∧ ∃ o : Obj, A.heap[r]? = some o ∧ o.isWalk = true) → A.heap[k]? = some o → o.isWalk = false → B.heap[k]? = some o :=
    fun hgr hr hk ho => (grownBy_keeps hgr (fun r e => (hr r e).2) hk ho).trans hk
  have hrow : ∀ {A : World} {row : Option Nat}, (∀ r, row = some r → W1.heap.size ≤ r ∧ ∃ o : Obj, A.heap[r]? = some o ∧ o.isWalk = true) → (∀ r, row = some r → D ≤ r ∧ ∃ o : Obj, A.heap[r]? = some o ∧ o.isCells = false) :=
    fun hr r e => by
      obtain ⟨h1, o, ho, hw⟩ := hr r e
      exact ⟨by omega, o, ho, Obj.not_cells_of_walk hw⟩
  refine (hseq (D + 1) (fun s W => I s W ∧ W.heap[D + 1]? = some (.loop (rec_ .ready none)) ∧ W.heap[D]? = some (.deferred (some [])))
    (fun s W => ∃ c, Ix c s W ∧ W.heap[D + 1]? = some (.loop (rec_ .done (some c))) ∧ W.heap[D]? = some (.deferred (some []))) W1 hbw
    (fun s A B row hs hgr hr => ⟨hI s A B row hs.1 hgr (hrow hr), hkeep hgr hr hs.2.1 rfl, hkeep hgr hr hs.2.2 rfl⟩)
    (fun s A B row ⟨c, hc, hl, hm⟩ hgr hr => ⟨c, hIx c s A B row hc hgr (hrow hr), hkeep hgr hr hl rfl, hkeep hgr hr hm rfl⟩)
    ?_ ⟨hI1, hl1, hm1⟩).mono ?_
  · rintro s x s' W ⟨hi, hl, hm⟩ hrd
    have hlt : D + 1 < W.heap.size := (Array.getElem?_eq_some_iff.1 hl).1
    refine ⟨fn, _, assign, body, run_yield (P := P) hl (hps x), roundIn_of_wpIn hfn (hassign _ x W _ ⟨_, run_beginRound hl rfl, ?_⟩)⟩
    have hlb := World.putObj_heap_same (w := W) (o := .loop { rec_ .ready none with state := .busy }) hlt
    have hmb := (World.putObj_heap_other (w := W) (r := D + 1) (o := .loop { rec_ .ready none with state := .busy }) (show D ≠ D + 1 by omega)).trans hm
    have hkb := hKb W (D + 1) _ (.loop { rec_ .ready none with state := .busy }) (by omega) hl rfl
    have hib := hI.putObj (.loop { rec_ .ready none with state := .busy }) hi (by omega) hl rfl
    have hrb := (hRd x s').putObj (.loop { rec_ .ready none with state := .busy }) hrd (by omega) hl rfl
    refine wpIn_mono (hbody _ s x s' _ hib hrb (by rw [World.putObj_size]; omega)) ?_
    -- what 'endRound' leaves
    have fin_ : ∀ (jump : Option Code) (W3 : World), KeepsFrom D (W.putObj (D + 1) (.loop { rec_ .ready none with state := .busy })) W3 →
        ∃ W4, W4 = W3.putObj (D + 1) (.loop (rec_ (if jump.isNone then .ready else .done) jump)) ∧ (Instr.endRound (D + 1) jump).run P W3 = .ok (.bool jump.isNone) W4 ∧
          W3.heap[D + 1]? = some (.loop { rec_ .ready none with state := .busy }) ∧ W4.heap[D + 1]? = some (.loop (rec_ (if jump.isNone then .ready else .done) jump)) ∧ W4.heap[D]? = some (.deferred (some [])) := fun jump W3 hk3 => by
      have hl3 := hk3.same _ _ (by omega) hlb rfl
      exact ⟨_, rfl, run_endRound (P := P) jump hl3, hl3, World.putObj_heap_same (Array.getElem?_eq_some_iff.1 hl3).1, (World.putObj_heap_other (by omega)).trans (hk3.same _ _ (Nat.le_refl _) hmb rfl)⟩
    rintro e a3 W3 hp
    rcases e with _ | id | t | _ | _ | _
    · obtain ⟨hk3, hkp, hi3⟩ := hp
      obtain ⟨W4, rfl, hr, hl3, hl4, hm4⟩ := fin_ none W3 hk3
      exact ⟨_, _, hr, .inl ⟨rfl, ⟨hI.putObj _ hi3 (by omega) hl3 rfl, hl4, hm4⟩, hKt hkb (hKt hkp (hKb _ _ _ _ (by omega) hl3 rfl))⟩⟩
    all_goals first
      | exact hp.elim
      | (obtain ⟨hk3, hi3⟩ := hp
         obtain ⟨W4, rfl, hr, hl3, hl4, hm4⟩ := fin_ (some _) W3 hk3
         exact ⟨_, _, hr, .inr ⟨rfl, _, (hIx _).putObj _ hi3 (by omega) hl3 rfl, hl4, hm4⟩⟩)
  · rintro e W2 ⟨⟨v, rfl⟩, ⟨s, hf, hi, hl, hm⟩ | ⟨s, c, hi, hl, hm⟩⟩
    · exact ⟨none, _, run_endLoop (P := P) hl (by simp [rec_]), hdone D s _ (Nat.le_refl _) hf (hI.putObj _ hi (by omega) hl rfl) ((World.putObj_heap_other (by omega)).trans hm)⟩
    · exact ⟨some c, _, run_endLoop (P := P) hl (by simp [rec_]), hstop D c s _ (Nat.le_refl _) ((hIx c).putObj _ hi (by omega) hl rfl) ((World.putObj_heap_other (by omega)).trans hm)⟩
end

/-! what speaks of cells abides the loop's book-keeping -/
theorem Has.kept {W W' : World} {row : Option Nat} {g : Nat} {t : TypeId} {cs : Array Value} (h : Has W g t cs) (hg : W.grownBy W' row) (hr : ∀ r, row = some r → ∃ o : Obj, W.heap[r]? = some o ∧ o.isCells = false) : Has W' g t cs :=
  (grownBy_keeps_cells hg hr h rfl).trans h
theorem Has.putObj {W : World} {g l : Nat} {t : TypeId} {cs : Array Value} {o : Obj} (h : Has W g t cs) (o' : Obj) (hl : W.heap[l]? = some o) (ho : o.isCells = false) : Has (W.putObj l o') g t cs :=
  h.kept (grownBy_putObj' W l o') (fun r e => by cases e; exact ⟨o, hl, ho⟩)
theorem below_putObj {B l : Nat} {a w : World} (hb : Below B a w) (hB : B ≤ w.heap.size) (hl : B ≤ l) (o : Obj) : Below B a (w.putObj l o) :=
  hb.grown (grownBy_putObj' w l o) hB (fun k e => by cases e; exact hl)

/-! the way out -/
/-- a type whose variable is one cell -/
def Flat (P : Program) (t : TypeId) : Prop := ∃ d, P.underlying t = some d ∧ d.isRow = false
theorem run_loadVar_flat {P : Program} {t : TypeId} (ht : Flat P t) {w : World} {p : Addr} {v : Value} (hc : w.cell? p = some v) : (loadVar t p).run P w = .ok v w := by
  obtain ⟨d, hu, hd⟩ := ht
  have hagg : (isAgg t).run P w = .ok false w := by
    unfold isAgg
    rw [Sem.run_bind, run_underlying hu w]
    cases d <;> simp_all
  simp [loadVar, Sem.run_bind, hagg, hc]
theorem leaves_cell {P : Program} {fn : Func} {n : Nat} {p : Tmp} {ty : TypeId} (h : fn.results = #[.cell p ty]) (ht : Flat P ty) {tmps : Array Value} {D g : Nat} {w : World} {v : Value} {R : Ending → World → Prop}
    (hp : tmps.getD p undef = .pointer (some ⟨g, 0, none⟩)) (hK : w.heap[D]? = some (.deferred (some []))) (hv : w.cell? ⟨g, 0, none⟩ = some v) (hR : R (.returned v) (w.putObj D (.deferred none))) :
    bodyPostM Fence.wide n P fn R .ret { tmps := tmps, defers := [{ target := .collected D, args := #[] }] } w := by
  refine ⟨by simp, .inl ⟨_, _, rfl, run_takeDeferred hK, ⟨v, ?_, hR⟩⟩⟩
  exact results_one_cell h _ _ g hp _ (run_loadVar_flat ht (cell_kept hv (grownBy_putObj' w D _) (fun r e => by cases e; exact ⟨_, hK, rfl⟩)))
theorem leaves_two {P : Program} {fn : Func} {n : Nat} {p q : Tmp} {ty ty' : TypeId} (h : fn.results = #[.cell p ty, .cell q ty']) (ht : Flat P ty) (ht' : Flat P ty') {tmps : Array Value} {D g g' : Nat} {w : World} {v v' : Value} {R : Ending → World → Prop}
    (hp : tmps.getD p undef = .pointer (some ⟨g, 0, none⟩)) (hq : tmps.getD q undef = .pointer (some ⟨g', 0, none⟩)) (hK : w.heap[D]? = some (.deferred (some []))) (hv : w.cell? ⟨g, 0, none⟩ = some v) (hv' : w.cell? ⟨g', 0, none⟩ = some v')
    (hR : R (.returned (.tuple #[v, v'])) (w.putObj D (.deferred none))) :
    bodyPostM Fence.wide n P fn R .ret { tmps := tmps, defers := [{ target := .collected D, args := #[] }] } w := by
  refine ⟨by simp, .inl ⟨_, _, rfl, run_takeDeferred hK, ⟨.tuple #[v, v'], ?_, hR⟩⟩⟩
  have e1 := run_loadVar_flat ht (cell_kept hv (grownBy_putObj' w D (.deferred none)) (fun r e => by cases e; exact ⟨_, hK, rfl⟩))
  have e2 := run_loadVar_flat ht' (cell_kept hv' (grownBy_putObj' w D (.deferred none)) (fun r e => by cases e; exact ⟨_, hK, rfl⟩))
  rw [Array.getD_eq_getD_getElem?] at hp hq
  simp only [results, h]
  simp [hp, hq, e1, e2, asAddr]
theorem leaves_tmp {P : Program} {fn : Func} {n : Nat} {p : Tmp} (h : fn.results = #[.tmp p]) {tmps : Array Value} {D : Nat} {w : World} {v : Value} {R : Ending → World → Prop}
    (hp : tmps.getD p undef = v) (hK : w.heap[D]? = some (.deferred (some []))) (hR : R (.returned v) (w.putObj D (.deferred none))) :
    bodyPostM Fence.wide n P fn R .ret { tmps := tmps, defers := [{ target := .collected D, args := #[] }] } w := by
  refine ⟨by simp, .inl ⟨_, _, rfl, run_takeDeferred hK, ⟨v, ?_, hR⟩⟩⟩
  rw [← hp]
  exact results_tmp h _ _ _
end Go.Proofs.YtopeicgcpfcccaaDoor
