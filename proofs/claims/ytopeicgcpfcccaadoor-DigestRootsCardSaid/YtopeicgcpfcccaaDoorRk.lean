/- A range over a function that writes blocks of its own; its body is never left early. Nothing of the program. -/
import Derived.Test.YtopeicgcpfcccaaDoorRf
import Derived.Test.YtopeicgcpfcccaaDoorRr
import Derived.Deep.MidRow
namespace Go.Proofs.YtopeicgcpfcccaaDoor
open Go Go.RowKit
/-- from block B on, what lay in W lies in W' -/
def Keeps (B : Nat) (W W' : World) : Prop := W.heap.size ≤ W'.heap.size ∧ ∀ k, B ≤ k → k < W.heap.size → W'.heap[k]? = W.heap[k]?
theorem Keeps.refl (B : Nat) (W : World) : Keeps B W W := ⟨Nat.le_refl _, fun _ _ _ => rfl⟩
theorem Keeps.trans {B : Nat} {a b c : World} (h : Keeps B a b) (k : Keeps B b c) : Keeps B a c :=
  ⟨Nat.le_trans h.1 k.1, fun i hi hl => (k.2 i hi (Nat.lt_of_lt_of_le hl h.1)).trans (h.2 i hi hl)⟩
theorem Keeps.up {B B' : Nat} {a b : World} (h : Keeps B a b) (hB : B ≤ B') : Keeps B' a b := ⟨h.1, fun k hk => h.2 k (Nat.le_trans hB hk)⟩
theorem Keeps.below {B : Nat} {a b : World} (h : Below a.heap.size a b) : Keeps B a b := ⟨h.size, fun k _ hl => h.block k hl⟩
theorem Keeps.grown {B g : Nat} {a b : World} (h : a.grownBy b (some g)) (hg : g < B) : Keeps B a b := ⟨h.size, fun k hk hl => h.block k hl (fun e => by injection e; omega)⟩
theorem Keeps.putObj {B l : Nat} (W : World) (o : Obj) (hl : l < B) : Keeps B W (W.putObj l o) := Keeps.grown (grownBy_putObj' W l o) hl
theorem Keeps.at {B : Nat} {a b : World} (h : Keeps B a b) {k : Nat} {o : Obj} (hk : B ≤ k) (ho : a.heap[k]? = some o) : b.heap[k]? = some o := (h.2 k hk (Array.getElem?_eq_some_iff.1 ho).1).trans ho
theorem Keeps.has {B : Nat} {a b : World} (h : Keeps B a b) {g : Nat} {t : TypeId} {cs : Array Value} (hk : B ≤ g) (ho : Has a g t cs) : Has b g t cs := h.at hk ho
/-- what speaks of the blocks under B alone -/
def Stands {σ : Type} (B : Nat) (J : σ → World → Prop) : Prop := ∀ s W W', J s W → Below B W W' → J s W'
theorem below_put_at {B l : Nat} {a w : World} (hb : Below B a w) (hB : B ≤ w.heap.size) (hl : B ≤ l) (o : Obj) : Below B a (w.putObj l o) := below_putObj hb hB hl o
theorem below_put_one {B l : Nat} (w : World) (hl : B ≤ l) (o : Obj) : Below B w (w.putObj l o) :=
  ⟨rfl, rfl, rfl, by rw [World.putObj_size]; exact Nat.le_refl _, fun k hk => World.putObj_heap_other (by omega)⟩
/-- a round of the wide fence, met within another round -/
theorem RoundIn.atWide {P : Program} {m m' l lp : Nat} {f : FuncId} {tmps : Array Value} {assign body : Code} {w : World} {R : Ending → World → Prop} (h : RoundIn Fence.wide m P l f tmps assign body w R) : RoundIn (Fence.wide.inRound lp) m' P l f tmps assign body w R :=
  ⟨trivial, fun c cs _ => h.2 c cs (room_wide _)⟩
/-- the iterator's contract -/
def IterK {σ α : Type} (F : Fence) (n : Nat) (P : Program) (g : Nat) (lb : Array Value) (encs : α → Array Value) (Gd : World → Prop) (s0 : σ) (Rd : Nat → σ → World → α → σ → Prop) (fin : σ → Prop) (w : World) : Prop :=
  ∀ (l : Nat) (J : σ → World → Prop) (W : World), Below w.heap.size w W → Stands W.heap.size J → (∀ s W1, J s W1 → Gd W1) →
    (∀ s x s' W1, J s W1 → W.heap.size ≤ W1.heap.size → Rd W.heap.size s W1 x s' → YieldAt F (n - 1) P l (encs x) W1 fun e W2 => e = .returned (.bool true) ∧ J s' W2 ∧ Keeps W.heap.size W1 W2) →
    J s0 W → CallsIn F n P g (#[.func (.yield l) #[] #[]] ++ lb) W fun e W2 => (∃ v, e = .returned v) ∧ ∃ s, fin s ∧ J s W2 ∧ W.heap.size ≤ W2.heap.size
/-- how a round's body is left -/
def keepPost {σ : Type} (B : Nat) (I : σ → World → Prop) (s : σ) (W : World) : Exit → Act → World → Prop
  | .normal, _, W' => Keeps B W W' ∧ I s W'
  | _, _, _ => False
theorem keepPost_lets {σ : Type} (B : Nat) (I : σ → World → Prop) (s : σ) (W : World) : ¬ LetsOut (keepPost B I s W) := fun ⟨_, _, h⟩ => h
section
variable {F : Fence} {n : Nat} {P : Program}
theorem wpIn_range_keep {σ α : Type} {g : Operand} {ps : Array Tmp} {assign body : Code} {Q : Exit → Act → World → Prop} {a : Act} {w : World}
    (hro : F.round = none) (h1 : 1 ≤ n) {gf : Nat} {lb : Array Value} (hg : a.eval g = .func (.func gf) #[] lb) (hFg : F.fn gf) (eg : ∀ args w, (callFunc gf args).run P w = .ok (.enter gf args) w)
    {encs : α → Array Value} {Gd : World → Prop} {s0 : σ} {Rd : Nat → σ → World → α → σ → Prop} {fin : σ → Prop} {w0 : World}
    (hseq : IterK F (n - 1) P gf lb encs Gd s0 Rd fin w0) (hb0 : Below w0.heap.size w0 w) (hps : ∀ x, (encs x).size = ps.size)
    (I : σ → World → Prop) (hI : Stands w.heap.size I) (hG : ∀ s W, I s W → Gd W) (h0 : I s0 w)
    (Ax : σ → α → σ → Act → World → Prop) (hAx : ∀ x s' a', OwnFrom w.heap.size (fun s W => Ax s x s' a' W))
    (hassign : ∀ (l : Nat) (s : σ) (x : α) (s' : σ) (W : World) (K : Act → World → Prop), I s W → w.heap.size + 2 ≤ W.heap.size → Rd (w.heap.size + 2) s W x s' → (∀ a' W', Keeps w.heap.size W W' → I s W' → Ax s x s' a' W' → K a' W') →
      assign.wpIn (F.inRound l) (n - 1 - 1) P (Exit.then K (fun _ _ _ => False)) { tmps := (ps.zip (encs x)).foldl (fun t (p, v) => t.setIfInBounds p v) a.tmps, defers := [] } W)
    (hbody : ∀ (l : Nat) (s : σ) (x : α) (s' : σ) (a' : Act) (W : World), I s W → w.heap.size + 2 ≤ W.heap.size → Ax s x s' a' W → body.wpIn (F.inRound l) (n - 1 - 1) P (keepPost w.heap.size I s' W) a' W)
    (hdone : ∀ (D : Nat) (s : σ) (W : World), D = w.heap.size → fin s → I s W → W.heap[D]? = some (.deferred (some [])) → Q .normal { a with defers := { target := .collected D, args := #[] } :: a.defers } W) :
    (Code.rangeFunc g ps assign body).wpIn F n P Q a w := by
  refine wpIn_rangeFunc fun fn hfn => ?_
  rw [hro]
  generalize hD : w.heap.size = D at *
  let rec_ : LoopState → Option Code → Loop := fun st pe => { state := st, pending := pe, fn, tmps := a.tmps, params := ps, assign, body, defers := D }
  have hout := run_enterLoop_outer (P := P) (w := w) fn a.tmps ps assign body
  rw [hD] at hout
  generalize hW1 : (w.alloc (.deferred (some []))).alloc (.loop (rec_ .ready none)) = W1
  have hs1 : W1.heap.size = D + 2 := by rw [← hW1]; simp [hD]
  have hm1 : W1.heap[D]? = some (.deferred (some [])) := by
    rw [← hW1, Below.heap_alloc _ _ _ (by simp [hD])]
    have := World.alloc_heap_new w (.deferred (some []))
    rwa [hD] at this
  have hl1 : W1.heap[D + 1]? = some (.loop (rec_ .ready none)) := by
    rw [← hW1]
    have := World.alloc_heap_new (w.alloc (.deferred (some []))) (.loop (rec_ .ready none))
    rwa [World.size_alloc, hD] at this
  have hI1 : I s0 W1 := by
    rw [← hW1]
    exact hI _ _ _ h0 (((Below.refl D w).alloc (by omega) _).alloc (by rw [World.size_alloc]; omega) _)
  have hbw : Below w0.heap.size w0 W1 := by
    rw [← hW1]
    exact (hb0.alloc hb0.size _).alloc (by rw [World.size_alloc]; have := hb0.size; omega) _
  refine ⟨D + 1, [{ target := .collected D, args := #[] }], W1, { target := .fn (.func gf) lb, args := #[.func (.yield (D + 1)) #[] #[]] }, W1, gf,
    #[.func (.yield (D + 1)) #[] #[]] ++ lb, W1, by rw [← hW1]; exact hout, ?_, ?_, ?_, fun _ => h1, ?_⟩
  · simp only [resolve, hg]
    simp [go_sem]
  · intro f' hf'
    simp [Target.leads] at hf'
    subst hf'
    exact hFg
  · simp [invoke, go_sem, eg]
  refine (hseq (D + 1) (fun s W => I s W ∧ W.heap[D + 1]? = some (.loop (rec_ .ready none)) ∧ W.heap[D]? = some (.deferred (some []))) W1 hbw
    (fun s A B hs hb => ⟨hI _ _ _ hs.1 (hb.mono (by omega)), (hb.block _ (by omega)).trans hs.2.1, (hb.block _ (by omega)).trans hs.2.2⟩)
    (fun s A hs => hG _ _ hs.1) ?_ ⟨hI1, hl1, hm1⟩).mono ?_
  · rintro s x s' W ⟨hi, hl, hm⟩ hsz hrd
    rw [hs1] at hsz hrd ⊢
    refine ⟨fn, _, assign, body, run_yield (P := P) hl (hps x), roundIn_of_wpIn hfn (hassign _ s x s' W _ hi hsz hrd ?_)⟩
    intro a' Wa hka hia hax
    have hla := hka.at (Nat.le_succ D) hl
    have hma := hka.at (Nat.le_refl D) hm
    have hsza : D + 2 ≤ Wa.heap.size := Nat.le_trans hsz hka.1
    have hlt : D + 1 < Wa.heap.size := by omega
    refine ⟨_, run_beginRound hla rfl, ?_⟩
    have hlb := World.putObj_heap_same (r := D + 1) (w := Wa) (o := .loop { rec_ .ready none with state := .busy }) hlt
    have hmb := (World.putObj_heap_other (w := Wa) (r := D + 1) (o := .loop { rec_ .ready none with state := .busy }) (show D ≠ D + 1 by omega)).trans hma
    have hib := hI _ _ _ hia (below_put_one (l := D + 1) Wa (by omega) (.loop { rec_ .ready none with state := .busy }))
    have hab := (hAx x s' a').putObj (.loop { rec_ .ready none with state := .busy }) hax (by omega) hla rfl
    refine wpIn_mono (hbody _ s x s' a' _ hib (by rw [World.putObj_size]; omega) hab) ?_
    rintro e a3 W3 hp
    cases e with
    | normal =>
      obtain ⟨hk3, hi3⟩ := hp
      have hl3 := hk3.at (Nat.le_succ D) hlb
      have hm3 := hk3.at (Nat.le_refl D) hmb
      refine ⟨_, _, run_endRound (P := P) none hl3, rfl, ⟨hI _ _ _ hi3 (below_put_one W3 (by omega) _), ?_, ?_⟩, ?_⟩
      · exact World.putObj_heap_same (Array.getElem?_eq_some_iff.1 hl3).1
      · exact (World.putObj_heap_other (by omega)).trans hm3
      · exact (hka.up (B' := D + 2) (by omega)).trans (((Keeps.putObj (B := D + 2) Wa _ (by omega)).trans (hk3.up (by omega))).trans (Keeps.putObj (B := D + 2) W3 _ (by omega)))
    | _ => exact hp.elim
  · rintro e W2 ⟨⟨v, rfl⟩, s, hf, ⟨hi, hl, hm⟩, hsz⟩
    exact ⟨none, _, run_endLoop (P := P) hl (by simp [rec_]), hdone D s _ rfl hf (hI _ _ _ hi (below_put_one W2 (by omega) _)) ((World.putObj_heap_other (by omega)).trans hm)⟩
end
/-- a function without results, left behind its range -/
theorem leaves_none {P : Program} {fn : Func} {n : Nat} (h : fn.results = #[]) {tmps : Array Value} {D : Nat} {w : World} {R : Ending → World → Prop} {e : Exit} (he : e = .ret ∨ e = .normal)
    (hK : w.heap[D]? = some (.deferred (some []))) (hR : ∀ v, R (.returned v) (w.putObj D (.deferred none))) :
    bodyPostM Fence.wide n P fn R e { tmps := tmps, defers := [{ target := .collected D, args := #[] }] } w := by
  rcases he with rfl | rfl
  all_goals
    refine ⟨by simp, .inl ⟨_, _, rfl, run_takeDeferred hK, ⟨_, results_none h _ _ _, hR _⟩⟩⟩
/-! whole arrays within a round -/
theorem wpListIn_of_wp {P : Program} {lp n : Nat} {ops : Array Oper} {rest : List Oper} {op : Oper} {a : Act} {w : World} {Q : Exit → Act → World → Prop} (hw : Region.wanted op (yielded ops a.tmps) = true) (hnd : ∀ c, op.op ≠ .defer c)
    (h : ∀ K : Act → World → Prop, (∀ a w, wpListIn (Fence.wide.inRound lp) n P ops Q rest a w → K a w) → op.wp P a w K Q) : wpListIn (Fence.wide.inRound lp) n P ops Q (op :: rest) a w :=
  wpListIn_step fun K hK => by
    rw [if_pos hw]
    exact operIn_round hnd (fun _ _ h => h) (h K hK)
theorem wpListInR_load {P : Program} {lp n : Nat} {ops : Array Oper} {rest : List Oper} {op : Oper} {a : Act} {w : World} {Q : Exit → Act → World → Prop} (hw : Region.wanted op (yielded ops a.tmps) = true) (ty : TypeId) (x : Operand) (ho : op.op = .load ty x)
    (p v : Value) (hx : a.eval x = p) (hr : (Instr.loadAt ty p).run P w = .ok v w) (h : wpListIn (Fence.wide.inRound lp) n P ops Q rest (a.put op.dst v) w) : wpListIn (Fence.wide.inRound lp) n P ops Q (op :: rest) a w :=
  wpListIn_of_wp hw (fun c => by rw [ho]; exact fun e => by cases e) fun K hK => by
    unfold Oper.wp execOp
    simp only [ho, hx, Sem.run_bind, Sem.run_pure, Result.andThen_ok, hr]
    exact hK _ _ h
theorem wpListInR_store {P : Program} {lp n : Nat} {ops : Array Oper} {rest : List Oper} {op : Oper} {a : Act} {w : World} {Q : Exit → Act → World → Prop} (hw : Region.wanted op (yielded ops a.tmps) = true) (ty : TypeId) (x y : Operand) (ho : op.op = .store ty x y)
    (b o : Nat) (cells : Array Value) (hx : a.eval x = .pointer (some ⟨b, o, none⟩)) (hy : a.eval y = .agg cells)
    (ht : w.there b o cells.size) (hi : (P.info? ty).map (·.size) = some cells.size) (h1 : cells.all (·.oneCell') = true)
    (h : wpListIn (Fence.wide.inRound lp) n P ops Q rest (a.put op.dst undef) (w.setCells b o cells.toList)) : wpListIn (Fence.wide.inRound lp) n P ops Q (op :: rest) a w :=
  wpListIn_of_wp hw (fun c => by rw [ho]; exact fun e => by cases e) fun K hK => wp_store_mid ty x y ho b o cells hx hy ht hi h1 (hK _ _ h)
end Go.Proofs.YtopeicgcpfcccaaDoor
