/- package chain: where blocks lie; copied (mkchd.py) -/
import Derived.Test.YtdfplenniamnoaaGreatDoorJ21
import Derived.Test.YtdfplenniamnoaaGreatDoorJ16
import Derived.Test.YtdfplenniamnoaaGreatDoorJ24
/-! package chain: where blocks lie; copied (mkchd.py) -/
namespace Go.Proofs.YtdfplenniamnoaaGreatDoor
open Go Go.RowKit Go.ChangeShapes Go.WideShapes
abbrev zBk : Array Value := #[.int .u8 0, .int .u8 0, .int .u8 0, .int .u8 0, .int .u8 0, .int .u8 0, .int .u8 0, .int .u8 0, .int .u8 0, .int .u8 0, .int .u8 0, .int .u8 0, .int .u8 0, .int .u8 0, .int .u8 0, .int .u8 0, .int .u8 0, .int .u8 0, .int .u8 0, .int .u8 0, .int .u8 0, .int .u8 0, .int .u8 0, .int .u8 0, .int .u8 0, .int .u8 0, .int .u8 0, .int .u8 0, .int .u8 0, .int .u8 0, .int .u8 0, .int .u8 0, .int .i64 0, .slice none 0 0]
def bkRec : Rec Ch.B where
  k := 34
  cells := bkCells
  ok := fun b => b.prev.length = 32
  pos := by omega
  len t h := bkCells_len h
  one b v hv := by
    unfold bkCells at hv
    rcases List.mem_append.1 hv with h | h
    · exact blist_one _ v h
    · simp at h
      rcases h with rfl | rfl <;> rfl
theorem size_bk : (Tryz.prog.info? 79).map (·.size) = some bkRec.k := by kernel_rfl
theorem info_tx : (Tryz.prog.info? 26).map (fun i => (i.zero, i.size, i.bytes)) = some (some (.agg zTx), vRec.k, 56) := by kernel_rfl
theorem bk_put {b b' : Ch.B} (hl : b.prev.length = 32) (hp : b'.prev = b.prev) (hh : b'.h = b.h) : (bkCells b).toArray.setIfInBounds 33 (.slice b'.a b'.n b'.q) = (bkCells b').toArray := by
  rw [List.setIfInBounds_toArray]
  congr 1
  unfold bkCells
  rw [hp, hh, List.set_append_right _ _ (by rw [blist_length, hl]; omega), blist_length, hl]
  rfl
theorem Has.bk_put {w : World} {g : Nat} {T : TypeId} {b : Ch.B} (h : Has w g T (bkCells b).toArray) (hl : b.prev.length = 32) (b' : Ch.B) (hp : b'.prev = b.prev) (hh : b'.h = b.h) : Has (w.setCell ⟨g, 33, none⟩ (.slice b'.a b'.n b'.q)) g T (bkCells b').toArray := by
  rw [← Go.Proofs.YtdfplenniamnoaaGreatDoor.bk_put hl hp hh]
  exact h.put 33 _
set_option maxRecDepth 100000 in
theorem built_bk32 (d0 d1 d2 d3 d4 d5 d6 d7 d8 d9 d10 d11 d12 d13 d14 d15 d16 d17 d18 d19 d20 d21 d22 d23 d24 d25 d26 d27 d28 d29 d30 d31 : BitVec 8) (z : Int) : Tryz.prog.built 79 [(0, .agg (blist [d0, d1, d2, d3, d4, d5, d6, d7, d8, d9, d10, d11, d12, d13, d14, d15, d16, d17, d18, d19, d20, d21, d22, d23, d24, d25, d26, d27, d28, d29, d30, d31]).toArray), (1, .int .i64 z)] = some (bkCells ⟨[d0, d1, d2, d3, d4, d5, d6, d7, d8, d9, d10, d11, d12, d13, d14, d15, d16, d17, d18, d19, d20, d21, d22, d23, d24, d25, d26, d27, d28, d29, d30, d31], z, none, 0, 0, []⟩).toArray := by kernel_rfl
theorem built_bk : ∀ (D : List (BitVec 8)), D.length = 32 → ∀ z : Int, Tryz.prog.built 79 [(0, .agg (blist D).toArray), (1, .int .i64 z)] = some (bkCells ⟨D, z, none, 0, 0, []⟩).toArray
  | [d0, d1, d2, d3, d4, d5, d6, d7, d8, d9, d10, d11, d12, d13, d14, d15, d16, d17, d18, d19, d20, d21, d22, d23, d24, d25, d26, d27, d28, d29, d30, d31], _, z => built_bk32 d0 d1 d2 d3 d4 d5 d6 d7 d8 d9 d10 d11 d12 d13 d14 d15 d16 d17 d18 d19 d20 d21 d22 d23 d24 d25 d26 d27 d28 d29 d30 d31 z
theorem wpList_build_bk {ops : Array Oper} {rest : List Oper} {o : Oper} {a : Act} {w : World} {Q : Exit → Act → World → Prop} (hgd : o.guard = none) (x y : Operand) (ho : o.op = .build 79 #[(0, x), (1, y)]) (D : List (BitVec 8)) (z : Int)
    (hx : a.eval x = .agg (blist D).toArray) (hy : a.eval y = .int .i64 z) (hD : D.length = 32) (h : wpList Tryz.prog ops Q rest (a.put o.dst (.agg (bkCells ⟨D, z, none, 0, 0, []⟩).toArray)) w) : wpList Tryz.prog ops Q (o :: rest) a w :=
  wpList_plain hgd fun K hK => by
    have hr := run_build (P := Tryz.prog) w 79 #[(0, .agg (blist D).toArray), (1, .int .i64 z)] _ (built_bk D hD z)
    unfold Oper.wp execOp
    simp only [ho, List.map_toArray, List.map_cons, List.map_nil, hx, hy, Sem.run_bind, Sem.run_pure, Result.andThen_ok, hr]
    exact hK _ _ h
theorem recs_one' {α : Type} {R : Rec α} {T : TypeId} {w : World} {x : α} (hx : R.ok x) {cs : Array Value} (hcs : cs = (R.cells x).toArray) : Recs R (w.alloc (.cells cs T)) (some ⟨w.heap.size, 0, none⟩) 1 [x] :=
  recs_fresh (R := R) (L := [x]) (fun t ht => by rw [List.mem_singleton.1 ht]; exact hx) (Has.fresh _ _ _) (by show 1 ≤ maxLen; unfold maxLen; omega) (fun j u hj => by
    rw [hcs, List.getElem?_toArray]
    simpa [Rec.row] using hj)
theorem TxOwn.moved {B : Nat} {G : Nat → Prop} {w w' : World} {a b : Option Addr} {n q m r : Nat} {t : Tx.T} (h : TxOwn B w a n q b m r t) (hm : Moved G w w') (h1 : ∀ j, (Value.slice a n q).ownBlock = some j → ¬ G j) (h2 : ∀ j, (Value.slice b m r).ownBlock = some j → ¬ G j) : TxOwn B w' a n q b m r t := ⟨h.sp.moved hm h1, h.co.moved hm h2⟩
/-- a transaction in memory of its own -/
abbrev Tx.V.Own (B : Nat) (w : World) (x : Tx.V) : Prop := TxOwn B w x.a x.n x.q x.b x.m x.r x.t
/-- transactions in memory of their own: a slice that is appended to -/
structure TxsOwn (B : Nat) (w : World) (v : Value) (vs : List Tx.V) : Prop where
  o : OwnR vRec 26 B w v vs
  ts : ∀ x, x ∈ vs → x.Own B w
section
variable {B : Nat} {w w' : World} {v : Value} {vs : List Tx.V}
theorem TxsOwn.nil (B : Nat) (w : World) : TxsOwn B w (.slice none 0 0) [] := ⟨OwnR.nil _ _ _ _, (fun _ h => by cases h)⟩
theorem TxsOwn.below (h : TxsOwn B w v vs) (hb : Below w.heap.size w w') : TxsOwn B w' v vs := ⟨h.o.below hb, fun x hx => (h.ts x hx).below hb⟩
theorem TxsOwn.low {D : Nat} (h : TxsOwn B w v vs) (hD : D ≤ B) : TxsOwn D w v vs := ⟨h.o.low hD, fun x hx => (h.ts x hx).low hD⟩
/-- all but blocks that are older than B -/
theorem TxsOwn.moved {G : Nat → Prop} (h : TxsOwn B w v vs) (hm : Moved G w w') (hG : ∀ j, G j → j < w.heap.size → j < B) : TxsOwn B w' v vs :=
  ⟨h.o.moved hm (fun j hj e => by have := h.o.lt_size j hj; have := hG j e this.2; omega),
    fun x hx => (h.ts x hx).moved hm (fun j hj e => by have := (h.ts x hx).sp.lt_size j hj; have := hG j e this.2; omega) (fun j hj e => by have := (h.ts x hx).co.lt_size j hj; have := hG j e this.2; omega)⟩
/-- behind an append -/
theorem TxsOwn.push {x : Tx.V} {v' : Value} (h : TxsOwn B w v vs) (hx : x.Own B w) (hg : w.grownBy w' v.ownBlock) (ho : OwnR vRec 26 B w' v' (vs ++ [x])) : TxsOwn B w' v' (vs ++ [x]) := by
  have hm : Moved (fun j => v.ownBlock = some j) w w' := Moved.of_grown hg (fun k e => e)
  have hat : ∀ y : Tx.V, y.Own B w → y.Own B w' := fun y hy => hy.moved hm (fun j hj e => by
    obtain ⟨c1, h1⟩ := ownr_block hy.sp hj
    obtain ⟨c2, h2⟩ := ownr_block h.o e
    exact Has.ne_type h1 h2 (by decide) rfl) (fun j hj e => by
    obtain ⟨c1, h1⟩ := ownr_block hy.co hj
    obtain ⟨c2, h2⟩ := ownr_block h.o e
    exact Has.ne_type h1 h2 (by decide) rfl)
  exact ⟨ho, fun y hy => (List.mem_append.1 hy).elim (fun hy => hat y (h.ts y hy)) (fun hy => by rw [List.mem_singleton.1 hy]; exact hat x hx)⟩
end
/-- a block whose transactions lie in memory of their own, made since B -/
structure Ch.B.Own (D : Nat) (w : World) (b : Ch.B) : Prop where
  p : b.prev.length = 32
  h : -9223372036854775808 ≤ b.h ∧ b.h < 9223372036854775808
  ts : TxsOwn D w (.slice b.a b.n b.q) b.vs
theorem Ch.B.Own.at {D : Nat} {w : World} {b : Ch.B} (h : b.Own D w) : b.At w := by
  obtain ⟨hr, hq⟩ := h.ts.o.recs
  exact ⟨h.p, h.h, ⟨hr, fun x hx => (h.ts.ts x hx).at⟩, hq⟩
theorem Ch.B.Own.below {D : Nat} {w w' : World} {b : Ch.B} (h : b.Own D w) (hb : Below w.heap.size w w') : b.Own D w' := ⟨h.p, h.h, h.ts.below hb⟩
/-- what copied answers -/
def CopiedPost (b : Ch.B) (w0 : World) (e : Ending) (w' : World) : Prop :=
  ∃ b' : Ch.B, e = .returned (.agg (bkCells b').toArray) ∧ b'.Own w0.heap.size w' ∧ b'.prev = b.prev ∧ b'.h = b.h ∧ b'.n = b.n ∧ Ch.tsOf b'.vs = Ch.tsOf b.vs ∧ Below w0.heap.size w0 w'
set_option maxRecDepth 100000 in
set_option maxHeartbeats 8000000 in
theorem copied_any (b : Ch.B) (w : World) (hb0 : b.At w) (hs : ∀ x, x ∈ b.vs → Tx.Small x.t) (hn : b.n ≤ 1000000) :
    Calls Tryz.prog 84 #[.agg (bkCells b).toArray] w (CopiedPost b w) := by
  obtain ⟨prev, hprev⟩ : ∃ x, x = b.prev := ⟨_, rfl⟩
  obtain ⟨h, hh⟩ : ∃ x, x = b.h := ⟨_, rfl⟩
  obtain ⟨n, hnn⟩ : ∃ x, x = b.n := ⟨_, rfl⟩
  obtain ⟨W1, hW1⟩ : ∃ x, x = (w.alloc (.cells (bkCells b).toArray 79)).alloc (.cells zBk 79) := ⟨_, rfl⟩
  have hBw : Below w.heap.size w W1 := by
    rw [hW1]
    exact ((Below.refl _ w).alloc (Nat.le_refl _) _).alloc (by simp) _
  have hX : Has W1 w.heap.size 79 (bkCells b).toArray := by rw [hW1]; exact (Has.fresh w _ _).past _
  have hR : Has W1 (w.heap.size + 1) 79 zBk := by rw [hW1]; exact Has.fresh_at _ _ _ (by simp)
  have hsz : W1.heap.size = w.heap.size + 2 := by rw [hW1]; simp
  have lP : (Instr.loadAt 34 (.pointer (some ⟨w.heap.size, 0, none⟩))).run Tryz.prog W1 = .ok (.agg (blist prev).toArray) W1 := by rw [hprev]; exact bk_load hX hb0.p
  have c32 : W1.cell? ⟨w.heap.size, 32, none⟩ = some (.int .i64 h) := by rw [hh]; exact bk_h hX hb0.p
  have HP := Lib.hid (show prev.length = 32 by rw [hprev]; exact hb0.p)
  have HTS := Lib.hid hb0.ts
  have HQ := Lib.hid hb0.nq
  have HHR := Lib.hid hb0.h
  have HS := Lib.hid hs
  have HN := Lib.hid (show n ≤ 1000000 by rw [hnn]; exact hn)
  have hnmx : n ≤ 9223372036854775807 := by have := HN.out; omega
  have HE := Lib.hid (And.intro hprev (And.intro hh hnn))
  obtain ⟨W2, hW2⟩ : ∃ x, x = (W1.alloc (.cells zBk 79)).setCells W1.heap.size 0 (bkCells ⟨prev, h, none, 0, 0, []⟩) := ⟨_, rfl⟩
  obtain ⟨hT0, hb2⟩ := Rec.new (R := bkRec) (t := ⟨prev, h, none, 0, 0, []⟩) (by kernel_rfl) HP.out hW2
  have hX2 := hX.under hb2 hX.lt
  have c33 : W2.cell? ⟨w.heap.size, 33, none⟩ = some (.slice b.a n b.q) := by rw [hnn]; exact bk_ts hX2 hb0.p
  have hR2 := hR.under hb2 hR.lt
  have HW1 := Lib.hid hW1
  have HW2 := Lib.hid hW2
  have hB2 := hBw.trans (hb2.mono hBw.size)
  obtain ⟨g3, hg3⟩ : ∃ g, g = W1.heap.size := ⟨_, rfl⟩
  obtain ⟨g2, hg2⟩ : ∃ g, g = w.heap.size + 1 := ⟨_, rfl⟩
  obtain ⟨B, hB⟩ : ∃ B, B = W2.heap.size := ⟨_, rfl⟩
  have HG := Lib.hid (show w.heap.size < g2 ∧ g2 < g3 ∧ g3 < B ∧ w.heap.size ≤ B from ⟨by omega, by omega, by have := hT0.lt; omega, by have := hT0.lt; omega⟩)
  have HG3 := Lib.hid hg3
  have HG2 := Lib.hid hg2
  rw [← hg3] at hT0
  rw [← hg2] at hR2
  have hBr0 : B ≤ W2.heap.size := by omega
  have HO0 := Lib.hid (And.intro (TxsOwn.nil B W2) (show Ch.tsOf [] = (Ch.tsOf b.vs).take 0 from rfl))
  obtain ⟨ba, hba⟩ : ∃ x, x = b.a := ⟨_, rfl⟩
  have HBA := Lib.hid hba
  rw [← hba] at c33
  clear hb0 hs hn hnn hh hprev hX hsz hW1 hW2 hX2 hBw hR hg3 hg2 hB hb2 hba
  go_enter Tryz.func84, Tryz.ntmps84
  go_upto_region 1 with fail
  rw [← HW1.out]
  go_upto_region 2 with (first
    | (refine wpList_store_mid rfl 79 (.tmp 3) (.tmp 10) rfl W1.heap.size 0 (bkCells ⟨prev, h, none, 0, 0, []⟩).toArray rfl rfl (bkRec.there W1 79 (by kernel_rfl) HP.out) (bkRec.size_eq size_bk HP.out) (bkRec.all_one _) ?_)
    | (refine wpList_build_bk rfl (.tmp 7) (.tmp 9) rfl prev h rfl rfl HP.out ?_)
    | (refine wpList_load_run rfl 34 (.tmp 6) rfl _ _ rfl lP ?_))
  rw [← HG3.out, ← HG2.out]
  have HW3 := Lib.hid (show W2 = (W1.alloc (.cells zBk 79)).setCells g3 0 (bkCells ⟨prev, h, none, 0, 0, []⟩) by rw [HG3.out]; exact HW2.out)
  rw [← HW3.out]
  clear lP c32
  go_wp2
  go_loopw [14] (fun iv wr => ∃ (i : Nat) (oa : Option Addr) (oq : Nat) (us : List Tx.V), i ≤ n ∧ iv = .int .i64 i ∧ Has wr g3 79 (bkCells ⟨prev, h, oa, i, oq, us⟩).toArray ∧ RowKit.Hid (TxsOwn B wr (.slice oa i oq) us ∧ Ch.tsOf us = (Ch.tsOf b.vs).take i) ∧ Below w.heap.size w wr ∧ B ≤ wr.heap.size ∧ Has wr g2 79 zBk) (fun iv _ => n - (intOf iv).toNat)
  case atStart => exact ⟨0, none, 0, [], Nat.zero_le _, rfl, hT0, HO0, hB2, hBr0, hR2⟩
  case round =>
    clear hT0 HO0 hBr0 hR2
    obtain ⟨i, oa, oq, us, hi, rfl, hT, HOT, hb, hBr, hRr⟩ := hrel
    by_cases hlt : i < n
    · have hii : (i : Int) < (n : Int) := by omega
      have hi0 : (0 : Int) ≤ (i : Int) := by omega
      obtain ⟨⟨ta, tn, tq, tb, tm, tr, t⟩, ht⟩ := HTS.out.1.get (show i < b.n by rw [← HE.out.2.2]; exact hlt)
      obtain ⟨x, hxe, hx, hat⟩ := (HTS.out.below hb).load ht
      obtain rfl : ba = some x := HBA.out.trans hxe
      have HAT := Lib.hid hat
      have HST := Lib.hid (show Tx.Small t from HS.out _ (List.mem_of_getElem? ht))
      have HTT := Lib.hid (show us.map (·.t) = (b.vs.map (·.t)).take i ∧ (b.vs.map (·.t)).take (i + 1) = (b.vs.map (·.t)).take i ++ [t] from ⟨HOT.out.2, by
        have h1 : (b.vs.map (·.t))[i]? = some t := by rw [List.getElem?_map, ht]; rfl
        obtain ⟨h2, h3⟩ := List.getElem?_eq_some_iff.1 h1
        rw [List.take_succ_eq_append_getElem h2, h3]⟩)
      have HUL := Lib.hid (show us.length = i by
        have h1 := congrArg List.length HOT.out.2
        have h2 := HTS.out.1.1
        have h3 := HE.out.2.2
        rw [Ch.tsOf_len, List.length_take, Ch.tsOf_len] at h1
        omega)
      have hOo := HOT.out.1
      clear ht hat hxe
      go_upto_region 5 with (first
        | (refine wpList_load_run rfl 26 (.tmp 16) rfl _ _ rfl hx ?_))
      obtain ⟨w5, hw5⟩ : ∃ x, x = wr.alloc (.cells #[.slice ta tn tq, .slice tb tm tr, .bool t.firm] 26) := ⟨_, rfl⟩
      have hF5 : Has w5 wr.heap.size 26 #[.slice ta tn tq, .slice tb tm tr, .bool t.firm] := by rw [hw5]; exact Has.fresh _ _ _
      have hb5 : Below wr.heap.size wr w5 := by rw [hw5]; exact (Below.refl _ _).alloc (Nat.le_refl _) _
      rw [← hw5]
      clear hw5 hx
      obtain ⟨g5, hg5⟩ : ∃ g, g = wr.heap.size := ⟨_, rfl⟩
      rw [← hg5] at hF5 ⊢
      have hB5 := hb.trans (hb5.mono hb.size)
      replace hT := hT.under hb5 hT.lt
      obtain ⟨ws, hws⟩ : ∃ x, x = w5.drew := ⟨_, rfl⟩
      have hbs : Below w5.heap.size w5 ws := by rw [hws]; exact (Below.refl _ _).drew
      replace hT := hT.under hbs hT.lt
      replace hF5 := hF5.under hbs hF5.lt
      have hBs := hB5.trans (hbs.mono hB5.size)
      have hBr5 := Nat.le_trans hBr (Nat.le_trans hb5.size hbs.size)
      have HO := Lib.hid ((hOo.below hb5).below hbs)
      have HT := Lib.hid hT
      have HB := Lib.hid (And.intro hBs hBr5)
      have HR5 := Lib.hid ((hRr.under hb5 hRr.lt).under hbs (hRr.under hb5 hRr.lt).lt)
      have HCP := Lib.hid (pcopy_any ta tn tq tb tm tr t t.firm rfl ws ((HAT.out.below hb5).below hbs) (by have := HST.out.1; have := HAT.out.sp.1; omega) (by have := HST.out.2.1; have := HAT.out.co.1; omega))
      have hne5 : ¬ (g5 = g3 ∨ (Value.slice oa i oq).ownBlock = some g5) := fun e => by
        rcases e with e | e
        · have := HG.out; omega
        · have := (hOo.o.lt_size g5 e).2; omega
      have lX := fun (wq : World) (hSw : HeldM (fun j => j = g3 ∨ (Value.slice oa i oq).ownBlock = some j) ws wq) => (hF5.moved hSw.out hne5).load_agg (P := Tryz.prog) (t := 26) Tryz.underlying26 rfl (by kernel_rfl)
      clear hb5 hbs hT hBs hBr5 hOo hb hBr hB5 hRr
      refine wp_region_held_drew (S := HeldM (fun j => j = g3 ∨ (Value.slice oa i oq).ownBlock = some j) ws) (by kernel_rfl) (by rw [hws]; exact HeldM.refl _ _) (fun hHeld => ?_)
      rw [← hws] at hHeld ⊢
      clear hws
      refine take_at (v := ?_) 0 18 rfl rfl (by kernel_rfl) (by kernel_rfl) (by kernel_rfl) (fun _ _ _ h => h) hHeld (Or.inl ⟨by rfl, ?_⟩) rfl ?_
      rotate_left
      · intro wq hSw
        go_simp
        try with_reducible rfl
      simp only [List.set_cons_zero, List.set_cons_succ]
      refine take_at 2 20 rfl rfl (by kernel_rfl) (by kernel_rfl) (by kernel_rfl) (fun _ _ _ h => h) hHeld (yieldsIf_load_agg (by rfl) 26 (.tmp 5) rfl _ _ (by rfl) (fun wq hSw => lX wq hSw)) rfl ?_
      simp only [List.set_cons_zero, List.set_cons_succ]
      clear lX hne5 hF5
      refine wpAnyH_ready (rs := [1, 3]) (by kernel_rfl) (by simp) ?_
      refine AllReadyH.cons rfl (fun K hK => ?_) (AllReadyH.cons rfl (fun K hK => ?_) AllReadyH.nil)
      · have cg : ws.cell? ⟨g3, 33, none⟩ = some (.slice oa i oq) := bk_ts HT.out HP.out
        go_simp
        refine hK.out _ _ hHeld (fun _ => ?_)
        clear hK K cg
        try simp only [Act.put, List.setIfInBounds_toArray, List.set_cons_zero, List.set_cons_succ]
        refine wpAnyH_ready (rs := [3]) (by kernel_rfl) (by simp) ?_
        refine AllReadyH.cons rfl (fun K hK => ?_) AllReadyH.nil
        go_simp
        go_at_call 61; refine HCP.out.mono ?_; rintro e k1 ⟨ua, uq, ub, ur, rfl, hC1, hb1⟩
        have hm1F : Moved (fun j => j = g3 ∨ (Value.slice oa i oq).ownBlock = some j) ws k1 := Moved.of_below hb1
        refine hK.out _ _ (HeldM.of hm1F) (fun _ => ?_)
        clear hK K
        try simp only [Act.put, List.setIfInBounds_toArray, List.set_cons_zero, List.set_cons_succ]
        refine heldM_grow (w1 := k1) hm1F ?_
        clear hHeld
        have hHeld : HeldM (fun j => j = g3 ∨ (Value.slice oa i oq).ownBlock = some j) k1 k1 := HeldM.refl _ _
        have hT1 := HT.out.under hb1 HT.out.lt
        have hO1 := HO.out.below hb1
        refine wpAnyH_ready (rs := [4]) (by kernel_rfl) (by simp) ?_
        refine AllReadyH.cons rfl (fun K hK => ?_) AllReadyH.nil
        refine step_build_row (by rfl) (.tmp 21) 77 rfl 26 Tryz.underlying77 info_tx (by decide) (by decide) #[.slice ua tn uq, .slice ub tm ur, .bool t.firm] (by rfl) (by first | rfl | simp [Act.eval]) ?_
        obtain ⟨k2, hk2⟩ : ∃ x, x = k1.alloc (.cells #[.slice ua tn uq, .slice ub tm ur, .bool t.firm] 26) := ⟨_, rfl⟩
        rw [← hk2]
        have hbk2 : Below k1.heap.size k1 k2 := by rw [hk2]; exact (Below.refl _ _).alloc (Nat.le_refl _) _
        have hX2 : Recs vRec k2 (some ⟨k1.heap.size, 0, none⟩) 1 [⟨ua, tn, uq, ub, tm, ur, t⟩] := by rw [hk2]; exact recs_one' trivial rfl
        have hm2F : Moved (fun j => j = g3 ∨ (Value.slice oa i oq).ownBlock = some j) k1 k2 := Moved.of_below hbk2
        refine hK.out _ _ (HeldM.of hm2F) (fun _ => ?_)
        clear hK K
        try simp only [Act.put]
        try simp only [List.setIfInBounds_toArray]
        try simp only [List.set_cons_zero, List.set_cons_succ]
        refine heldM_grow (w1 := k2) hm2F ?_
        clear hHeld
        have hHeld : HeldM (fun j => j = g3 ∨ (Value.slice oa i oq).ownBlock = some j) k2 k2 := HeldM.refl _ _
        obtain ⟨g9, hg9⟩ : ∃ g, g = k1.heap.size := ⟨_, rfl⟩
        rw [← hg9] at hX2 ⊢
        clear hk2 hg9
        have hT2 := hT1.under hbk2 hT1.lt
        have hO2 := hO1.below hbk2
        have hC2 := hC1.below hbk2
        have hBk2 : B ≤ k2.heap.size := Nat.le_trans (Nat.le_trans HB.out.2 hb1.size) hbk2.size
        refine wpAnyH_ready (rs := [5]) (by kernel_rfl) (by simp) ?_
        refine AllReadyH.cons rfl (fun K hK => ?_) AllReadyH.nil
        refine step_append_recs (R := vRec) (by rfl) (.tmp 19) (.tmp 22) 77 rfl 26 Tryz.underlying77 info_tx rfl (by decide) B _ us (by first | rfl | simp [Act.eval]) hO2.o (some ⟨g9, 0, none⟩) 1 1 [⟨ua, tn, uq, ub, tm, ur, t⟩] (by first | rfl | simp [Act.eval]) hX2 (fun e => by cases e) (by have := HUL.out; have := HN.out; omega) hBk2 ?_
        intro va k3 ho3 hg3 hl3
        have hO3 := hO2.push (x := ⟨ua, tn, uq, ub, tm, ur, t⟩) (hC2.low HB.out.2) hg3 ho3
        obtain ⟨oa', oq', rfl, _⟩ := ho3.shape (K := i + 1) (by rw [List.length_append, HUL.out]; rfl)
        have hm3 : Moved (fun j => (Value.slice oa i oq).ownBlock = some j) k2 k3 := Moved.of_grown hg3 (fun j e => e)
        have hm3F : Moved (fun j => j = g3 ∨ (Value.slice oa i oq).ownBlock = some j) k2 k3 := hm3.mono (fun _ e => .inr e)
        refine hK.out _ _ (HeldM.of hm3F) (fun _ => ?_)
        clear hK K
        try simp only [Act.put]
        try simp only [List.setIfInBounds_toArray]
        try simp only [List.set_cons_zero, List.set_cons_succ]
        refine heldM_grow (w1 := k3) hm3F ?_
        clear hHeld
        have hHeld : HeldM (fun j => j = g3 ∨ (Value.slice oa i oq).ownBlock = some j) k3 k3 := HeldM.refl _ _
        have hT3 := hT2.moved hm3 (fun e => by have := hO2.o.lt g3 e; have := HG.out; omega)
        have cg : k3.cell? ⟨g3, 33, none⟩ = some (.slice oa i oq) := bk_ts hT3 HP.out
        have lg := hT3.loose 33
        refine take_at (v := ?_) 6 24 rfl rfl (by kernel_rfl) (by kernel_rfl) (by kernel_rfl) (fun _ _ _ h => h) hHeld (Or.inl ⟨by rfl, ?_⟩) rfl ?_
        rotate_left
        · intro wq hSw
          go_simp
          try with_reducible rfl
        try simp only [List.set_cons_zero, List.set_cons_succ]
        refine wpAnyH_ready (rs := [7]) (by kernel_rfl) (by simp) ?_
        refine AllReadyH.cons rfl (fun K hK => ?_) AllReadyH.nil
        go_simp
        obtain ⟨k4, hk4⟩ : ∃ x, x = k3.setCell ⟨g3, 33, none⟩ (.slice oa' (i + 1) oq') := ⟨_, rfl⟩
        rw [← hk4]
        have hm4 : Moved (fun j => j = g3) k3 k4 := by rw [hk4]; exact Moved.put (F := fun j => j = g3) (Moved.refl _ _) (.inl rfl) _ _
        have hT4 : Has k4 g3 79 (bkCells ⟨prev, h, oa', i + 1, oq', us ++ [⟨ua, tn, uq, ub, tm, ur, t⟩]⟩).toArray := by rw [hk4]; exact hT3.bk_put (b := ⟨prev, h, oa, i, oq, us⟩) HP.out ⟨prev, h, oa', i + 1, oq', us ++ [⟨ua, tn, uq, ub, tm, ur, t⟩]⟩ rfl rfl
        refine hK.out _ _ (HeldM.of (hm4.mono (fun _ e => .inl e))) (fun _ => ?_)
        clear hK K cg lg hk4 hHeld
        refine wpAnyH_done (by kernel_rfl) ?_ _
        have hO4 := hO3.moved hm4 (fun j e _ => by have := HG.out; omega)
        have hm24 : Moved (fun j => j = g3 ∨ (Value.slice oa i oq).ownBlock = some j) k2 k4 := hm3F.trans hm4 (fun _ e => .inl (.inl e))
        have hbT : Below w.heap.size w k4 := (HB.out.1.trans ((hb1.trans (hbk2.mono hb1.size)).mono HB.out.1.size)).trans (hm24.below (fun j e => by have := HG.out; rcases e with e | e; omega; have := hO2.o.lt j e; omega) (by have := hBk2; have := HG.out; omega))
        have hR4 := (((HR5.out.under hb1 HR5.out.lt).under hbk2 (HR5.out.under hb1 HR5.out.lt).lt)).moved hm24 (fun e => by have := HG.out; rcases e with e | e; omega; have := hO2.o.lt g2 e; omega)
        have hBr4 : B ≤ k4.heap.size := Nat.le_trans hBk2 hm24.size
        have HO4 := Lib.hid (And.intro hO4 (show Ch.tsOf (us ++ [⟨ua, tn, uq, ub, tm, ur, t⟩]) = (Ch.tsOf b.vs).take (i + 1) by unfold Ch.tsOf at *; rw [List.map_append, HTT.out.1, HTT.out.2]; rfl))
        clear hb1 hm1F hT1 hO1 hbk2 hX2 hm2F hT2 hO2 hC1 hC2 hBk2 ho3 hg3 hl3 hm3 hm3F hT3 hO3 hm4 hm24 hO4
        go_wp2
        go_roundw
        case rel => exact ⟨i + 1, oa', oq', _, by omega, by go_num, hT4, HO4, hbT, hBr4, hR4⟩
        case measure => (simp [intOf]; try omega)
      · go_simp
        go_at_call 61; refine HCP.out.mono ?_; rintro e k1 ⟨ua, uq, ub, ur, rfl, hC1, hb1⟩
        have hm1F : Moved (fun j => j = g3 ∨ (Value.slice oa i oq).ownBlock = some j) ws k1 := Moved.of_below hb1
        refine hK.out _ _ (HeldM.of hm1F) (fun _ => ?_)
        clear hK K
        try simp only [Act.put, List.setIfInBounds_toArray, List.set_cons_zero, List.set_cons_succ]
        refine heldM_grow (w1 := k1) hm1F ?_
        clear hHeld
        have hHeld : HeldM (fun j => j = g3 ∨ (Value.slice oa i oq).ownBlock = some j) k1 k1 := HeldM.refl _ _
        have hT1 := HT.out.under hb1 HT.out.lt
        have hO1 := HO.out.below hb1
        refine wpAnyH_ready (rs := [1, 4]) (by kernel_rfl) (by simp) ?_
        refine AllReadyH.cons rfl (fun K hK => ?_) (AllReadyH.cons rfl (fun K hK => ?_) AllReadyH.nil)
        · have cg : k1.cell? ⟨g3, 33, none⟩ = some (.slice oa i oq) := bk_ts hT1 HP.out
          go_simp
          refine hK.out _ _ hHeld (fun _ => ?_)
          clear hK K cg
          try simp only [Act.put, List.setIfInBounds_toArray, List.set_cons_zero, List.set_cons_succ]
          refine wpAnyH_ready (rs := [4]) (by kernel_rfl) (by simp) ?_
          refine AllReadyH.cons rfl (fun K hK => ?_) AllReadyH.nil
          refine step_build_row (by rfl) (.tmp 21) 77 rfl 26 Tryz.underlying77 info_tx (by decide) (by decide) #[.slice ua tn uq, .slice ub tm ur, .bool t.firm] (by rfl) (by first | rfl | simp [Act.eval]) ?_
          obtain ⟨k2, hk2⟩ : ∃ x, x = k1.alloc (.cells #[.slice ua tn uq, .slice ub tm ur, .bool t.firm] 26) := ⟨_, rfl⟩
          rw [← hk2]
          have hbk2 : Below k1.heap.size k1 k2 := by rw [hk2]; exact (Below.refl _ _).alloc (Nat.le_refl _) _
          have hX2 : Recs vRec k2 (some ⟨k1.heap.size, 0, none⟩) 1 [⟨ua, tn, uq, ub, tm, ur, t⟩] := by rw [hk2]; exact recs_one' trivial rfl
          have hm2F : Moved (fun j => j = g3 ∨ (Value.slice oa i oq).ownBlock = some j) k1 k2 := Moved.of_below hbk2
          refine hK.out _ _ (HeldM.of hm2F) (fun _ => ?_)
          clear hK K
          try simp only [Act.put]
          try simp only [List.setIfInBounds_toArray]
          try simp only [List.set_cons_zero, List.set_cons_succ]
          refine heldM_grow (w1 := k2) hm2F ?_
          clear hHeld
          have hHeld : HeldM (fun j => j = g3 ∨ (Value.slice oa i oq).ownBlock = some j) k2 k2 := HeldM.refl _ _
          obtain ⟨g9, hg9⟩ : ∃ g, g = k1.heap.size := ⟨_, rfl⟩
          rw [← hg9] at hX2 ⊢
          clear hk2 hg9
          have hT2 := hT1.under hbk2 hT1.lt
          have hO2 := hO1.below hbk2
          have hC2 := hC1.below hbk2
          have hBk2 : B ≤ k2.heap.size := Nat.le_trans (Nat.le_trans HB.out.2 hb1.size) hbk2.size
          refine wpAnyH_ready (rs := [5]) (by kernel_rfl) (by simp) ?_
          refine AllReadyH.cons rfl (fun K hK => ?_) AllReadyH.nil
          refine step_append_recs (R := vRec) (by rfl) (.tmp 19) (.tmp 22) 77 rfl 26 Tryz.underlying77 info_tx rfl (by decide) B _ us (by first | rfl | simp [Act.eval]) hO2.o (some ⟨g9, 0, none⟩) 1 1 [⟨ua, tn, uq, ub, tm, ur, t⟩] (by first | rfl | simp [Act.eval]) hX2 (fun e => by cases e) (by have := HUL.out; have := HN.out; omega) hBk2 ?_
          intro va k3 ho3 hg3 hl3
          have hO3 := hO2.push (x := ⟨ua, tn, uq, ub, tm, ur, t⟩) (hC2.low HB.out.2) hg3 ho3
          obtain ⟨oa', oq', rfl, _⟩ := ho3.shape (K := i + 1) (by rw [List.length_append, HUL.out]; rfl)
          have hm3 : Moved (fun j => (Value.slice oa i oq).ownBlock = some j) k2 k3 := Moved.of_grown hg3 (fun j e => e)
          have hm3F : Moved (fun j => j = g3 ∨ (Value.slice oa i oq).ownBlock = some j) k2 k3 := hm3.mono (fun _ e => .inr e)
          refine hK.out _ _ (HeldM.of hm3F) (fun _ => ?_)
          clear hK K
          try simp only [Act.put]
          try simp only [List.setIfInBounds_toArray]
          try simp only [List.set_cons_zero, List.set_cons_succ]
          refine heldM_grow (w1 := k3) hm3F ?_
          clear hHeld
          have hHeld : HeldM (fun j => j = g3 ∨ (Value.slice oa i oq).ownBlock = some j) k3 k3 := HeldM.refl _ _
          have hT3 := hT2.moved hm3 (fun e => by have := hO2.o.lt g3 e; have := HG.out; omega)
          have cg : k3.cell? ⟨g3, 33, none⟩ = some (.slice oa i oq) := bk_ts hT3 HP.out
          have lg := hT3.loose 33
          refine take_at (v := ?_) 6 24 rfl rfl (by kernel_rfl) (by kernel_rfl) (by kernel_rfl) (fun _ _ _ h => h) hHeld (Or.inl ⟨by rfl, ?_⟩) rfl ?_
          rotate_left
          · intro wq hSw
            go_simp
            try with_reducible rfl
          try simp only [List.set_cons_zero, List.set_cons_succ]
          refine wpAnyH_ready (rs := [7]) (by kernel_rfl) (by simp) ?_
          refine AllReadyH.cons rfl (fun K hK => ?_) AllReadyH.nil
          go_simp
          obtain ⟨k4, hk4⟩ : ∃ x, x = k3.setCell ⟨g3, 33, none⟩ (.slice oa' (i + 1) oq') := ⟨_, rfl⟩
          rw [← hk4]
          have hm4 : Moved (fun j => j = g3) k3 k4 := by rw [hk4]; exact Moved.put (F := fun j => j = g3) (Moved.refl _ _) (.inl rfl) _ _
          have hT4 : Has k4 g3 79 (bkCells ⟨prev, h, oa', i + 1, oq', us ++ [⟨ua, tn, uq, ub, tm, ur, t⟩]⟩).toArray := by rw [hk4]; exact hT3.bk_put (b := ⟨prev, h, oa, i, oq, us⟩) HP.out ⟨prev, h, oa', i + 1, oq', us ++ [⟨ua, tn, uq, ub, tm, ur, t⟩]⟩ rfl rfl
          refine hK.out _ _ (HeldM.of (hm4.mono (fun _ e => .inl e))) (fun _ => ?_)
          clear hK K cg lg hk4 hHeld
          refine wpAnyH_done (by kernel_rfl) ?_ _
          have hO4 := hO3.moved hm4 (fun j e _ => by have := HG.out; omega)
          have hm24 : Moved (fun j => j = g3 ∨ (Value.slice oa i oq).ownBlock = some j) k2 k4 := hm3F.trans hm4 (fun _ e => .inl (.inl e))
          have hbT : Below w.heap.size w k4 := (HB.out.1.trans ((hb1.trans (hbk2.mono hb1.size)).mono HB.out.1.size)).trans (hm24.below (fun j e => by have := HG.out; rcases e with e | e; omega; have := hO2.o.lt j e; omega) (by have := hBk2; have := HG.out; omega))
          have hR4 := (((HR5.out.under hb1 HR5.out.lt).under hbk2 (HR5.out.under hb1 HR5.out.lt).lt)).moved hm24 (fun e => by have := HG.out; rcases e with e | e; omega; have := hO2.o.lt g2 e; omega)
          have hBr4 : B ≤ k4.heap.size := Nat.le_trans hBk2 hm24.size
          have HO4 := Lib.hid (And.intro hO4 (show Ch.tsOf (us ++ [⟨ua, tn, uq, ub, tm, ur, t⟩]) = (Ch.tsOf b.vs).take (i + 1) by unfold Ch.tsOf at *; rw [List.map_append, HTT.out.1, HTT.out.2]; rfl))
          clear hb1 hm1F hT1 hO1 hbk2 hX2 hm2F hT2 hO2 hC1 hC2 hBk2 ho3 hg3 hl3 hm3 hm3F hT3 hO3 hm4 hm24 hO4
          go_wp2
          go_roundw
          case rel => exact ⟨i + 1, oa', oq', _, by omega, by go_num, hT4, HO4, hbT, hBr4, hR4⟩
          case measure => (simp [intOf]; try omega)
        · refine step_build_row (by rfl) (.tmp 21) 77 rfl 26 Tryz.underlying77 info_tx (by decide) (by decide) #[.slice ua tn uq, .slice ub tm ur, .bool t.firm] (by rfl) (by first | rfl | simp [Act.eval]) ?_
          obtain ⟨k2, hk2⟩ : ∃ x, x = k1.alloc (.cells #[.slice ua tn uq, .slice ub tm ur, .bool t.firm] 26) := ⟨_, rfl⟩
          rw [← hk2]
          have hbk2 : Below k1.heap.size k1 k2 := by rw [hk2]; exact (Below.refl _ _).alloc (Nat.le_refl _) _
          have hX2 : Recs vRec k2 (some ⟨k1.heap.size, 0, none⟩) 1 [⟨ua, tn, uq, ub, tm, ur, t⟩] := by rw [hk2]; exact recs_one' trivial rfl
          have hm2F : Moved (fun j => j = g3 ∨ (Value.slice oa i oq).ownBlock = some j) k1 k2 := Moved.of_below hbk2
          refine hK.out _ _ (HeldM.of hm2F) (fun _ => ?_)
          clear hK K
          try simp only [Act.put]
          try simp only [List.setIfInBounds_toArray]
          try simp only [List.set_cons_zero, List.set_cons_succ]
          refine heldM_grow (w1 := k2) hm2F ?_
          clear hHeld
          have hHeld : HeldM (fun j => j = g3 ∨ (Value.slice oa i oq).ownBlock = some j) k2 k2 := HeldM.refl _ _
          obtain ⟨g9, hg9⟩ : ∃ g, g = k1.heap.size := ⟨_, rfl⟩
          rw [← hg9] at hX2 ⊢
          clear hk2 hg9
          have hT2 := hT1.under hbk2 hT1.lt
          have hO2 := hO1.below hbk2
          have hC2 := hC1.below hbk2
          refine wpAnyH_ready (rs := [1]) (by kernel_rfl) (by simp) ?_
          refine AllReadyH.cons rfl (fun K hK => ?_) AllReadyH.nil
          have cg : k2.cell? ⟨g3, 33, none⟩ = some (.slice oa i oq) := bk_ts hT2 HP.out
          go_simp
          refine hK.out _ _ hHeld (fun _ => ?_)
          clear hK K cg
          try simp only [Act.put, List.setIfInBounds_toArray, List.set_cons_zero, List.set_cons_succ]
          have hBk2 : B ≤ k2.heap.size := Nat.le_trans (Nat.le_trans HB.out.2 hb1.size) hbk2.size
          refine wpAnyH_ready (rs := [5]) (by kernel_rfl) (by simp) ?_
          refine AllReadyH.cons rfl (fun K hK => ?_) AllReadyH.nil
          refine step_append_recs (R := vRec) (by rfl) (.tmp 19) (.tmp 22) 77 rfl 26 Tryz.underlying77 info_tx rfl (by decide) B _ us (by first | rfl | simp [Act.eval]) hO2.o (some ⟨g9, 0, none⟩) 1 1 [⟨ua, tn, uq, ub, tm, ur, t⟩] (by first | rfl | simp [Act.eval]) hX2 (fun e => by cases e) (by have := HUL.out; have := HN.out; omega) hBk2 ?_
          intro va k3 ho3 hg3 hl3
          have hO3 := hO2.push (x := ⟨ua, tn, uq, ub, tm, ur, t⟩) (hC2.low HB.out.2) hg3 ho3
          obtain ⟨oa', oq', rfl, _⟩ := ho3.shape (K := i + 1) (by rw [List.length_append, HUL.out]; rfl)
          have hm3 : Moved (fun j => (Value.slice oa i oq).ownBlock = some j) k2 k3 := Moved.of_grown hg3 (fun j e => e)
          have hm3F : Moved (fun j => j = g3 ∨ (Value.slice oa i oq).ownBlock = some j) k2 k3 := hm3.mono (fun _ e => .inr e)
          refine hK.out _ _ (HeldM.of hm3F) (fun _ => ?_)
          clear hK K
          try simp only [Act.put]
          try simp only [List.setIfInBounds_toArray]
          try simp only [List.set_cons_zero, List.set_cons_succ]
          refine heldM_grow (w1 := k3) hm3F ?_
          clear hHeld
          have hHeld : HeldM (fun j => j = g3 ∨ (Value.slice oa i oq).ownBlock = some j) k3 k3 := HeldM.refl _ _
          have hT3 := hT2.moved hm3 (fun e => by have := hO2.o.lt g3 e; have := HG.out; omega)
          have cg : k3.cell? ⟨g3, 33, none⟩ = some (.slice oa i oq) := bk_ts hT3 HP.out
          have lg := hT3.loose 33
          refine take_at (v := ?_) 6 24 rfl rfl (by kernel_rfl) (by kernel_rfl) (by kernel_rfl) (fun _ _ _ h => h) hHeld (Or.inl ⟨by rfl, ?_⟩) rfl ?_
          rotate_left
          · intro wq hSw
            go_simp
            try with_reducible rfl
          try simp only [List.set_cons_zero, List.set_cons_succ]
          refine wpAnyH_ready (rs := [7]) (by kernel_rfl) (by simp) ?_
          refine AllReadyH.cons rfl (fun K hK => ?_) AllReadyH.nil
          go_simp
          obtain ⟨k4, hk4⟩ : ∃ x, x = k3.setCell ⟨g3, 33, none⟩ (.slice oa' (i + 1) oq') := ⟨_, rfl⟩
          rw [← hk4]
          have hm4 : Moved (fun j => j = g3) k3 k4 := by rw [hk4]; exact Moved.put (F := fun j => j = g3) (Moved.refl _ _) (.inl rfl) _ _
          have hT4 : Has k4 g3 79 (bkCells ⟨prev, h, oa', i + 1, oq', us ++ [⟨ua, tn, uq, ub, tm, ur, t⟩]⟩).toArray := by rw [hk4]; exact hT3.bk_put (b := ⟨prev, h, oa, i, oq, us⟩) HP.out ⟨prev, h, oa', i + 1, oq', us ++ [⟨ua, tn, uq, ub, tm, ur, t⟩]⟩ rfl rfl
          refine hK.out _ _ (HeldM.of (hm4.mono (fun _ e => .inl e))) (fun _ => ?_)
          clear hK K cg lg hk4 hHeld
          refine wpAnyH_done (by kernel_rfl) ?_ _
          have hO4 := hO3.moved hm4 (fun j e _ => by have := HG.out; omega)
          have hm24 : Moved (fun j => j = g3 ∨ (Value.slice oa i oq).ownBlock = some j) k2 k4 := hm3F.trans hm4 (fun _ e => .inl (.inl e))
          have hbT : Below w.heap.size w k4 := (HB.out.1.trans ((hb1.trans (hbk2.mono hb1.size)).mono HB.out.1.size)).trans (hm24.below (fun j e => by have := HG.out; rcases e with e | e; omega; have := hO2.o.lt j e; omega) (by have := hBk2; have := HG.out; omega))
          have hR4 := (((HR5.out.under hb1 HR5.out.lt).under hbk2 (HR5.out.under hb1 HR5.out.lt).lt)).moved hm24 (fun e => by have := HG.out; rcases e with e | e; omega; have := hO2.o.lt g2 e; omega)
          have hBr4 : B ≤ k4.heap.size := Nat.le_trans hBk2 hm24.size
          have HO4 := Lib.hid (And.intro hO4 (show Ch.tsOf (us ++ [⟨ua, tn, uq, ub, tm, ur, t⟩]) = (Ch.tsOf b.vs).take (i + 1) by unfold Ch.tsOf at *; rw [List.map_append, HTT.out.1, HTT.out.2]; rfl))
          clear hb1 hm1F hT1 hO1 hbk2 hX2 hm2F hT2 hO2 hC1 hC2 hBk2 ho3 hg3 hl3 hm3 hm3F hT3 hO3 hm4 hm24 hO4
          go_wp2
          go_roundw
          case rel => exact ⟨i + 1, oa', oq', _, by omega, by go_num, hT4, HO4, hbT, hBr4, hR4⟩
          case measure => (simp [intOf]; try omega)
    · have hii : ¬ (i : Int) < (n : Int) := by omega
      obtain rfl : i = n := by omega
      have lT := hT.load_agg (P := Tryz.prog) (t := 79) Tryz.underlying79 rfl (bkRec.size_eq size_bk HP.out)
      have hth := hRr.there 0 (bkCells ⟨prev, h, oa, i, oq, us⟩).toArray.size (by rw [List.size_toArray, bkCells_len HP.out]; decide)
      have HTH := Lib.hid hth
      clear hth
      go_wp2_with (first
        | (refine wpList_store_mid rfl 79 (.tmp 2) (.tmp 26) rfl g2 0 (bkCells ⟨prev, h, oa, i, oq, us⟩).toArray rfl rfl HTH.out (bkRec.size_eq size_bk HP.out) (bkRec.all_one _) ?_)
        | (refine wpList_load_run rfl 79 (.tmp 3) rfl _ _ rfl lT ?_))
      have hE := hRr.whole_cs (cs2 := (bkCells ⟨prev, h, oa, i, oq, us⟩).toArray) (by rw [List.size_toArray, bkCells_len HP.out]; rfl)
      refine bodyPost_ret (results_one_cell rfl _ _ g2 rfl _ (hE.load_var Tryz.underlying79 rfl (bkRec.size_eq size_bk HP.out))) rfl ?_
      have hO9 := HOT.out.1.moved (w' := wr.setCells g2 0 (bkCells ⟨prev, h, oa, i, oq, us⟩)) (G := fun j => j = g2) (Moved.putAll (F := fun j => j = g2) (.inl rfl) _ 0 (Moved.refl _ _)) (fun j e _ => by have := HG.out; omega)
      refine ⟨⟨prev, h, oa, i, oq, us⟩, rfl, ⟨HP.out, by rw [show (Ch.B.h ⟨prev, h, oa, i, oq, us⟩) = b.h from HE.out.2.1]; exact HHR.out, hO9.low HG.out.2.2.2⟩, HE.out.1, HE.out.2.1, HE.out.2.2, ?_, below_setAll (by have := HG.out; omega) _ 0 hb⟩
      show Ch.tsOf us = Ch.tsOf b.vs
      rw [HOT.out.2, List.take_of_length_le (by rw [Ch.tsOf_len, HTS.out.1.1, ← HE.out.2.2]; exact Nat.le_refl _)]
end Go.Proofs.YtdfplenniamnoaaGreatDoor
