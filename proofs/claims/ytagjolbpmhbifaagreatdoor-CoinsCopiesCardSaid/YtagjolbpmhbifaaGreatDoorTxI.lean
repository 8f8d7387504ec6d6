/- ids: package tx's and the reference's (mktxi.py) -/
import Derived.Test.YtagjolbpmhbifaaGreatDoorTxy
import Derived.Test.YtagjolbpmhbifaaGreatDoorDgv
namespace Go.Proofs.YtagjolbpmhbifaaGreatDoor
open Go Go.RowKit Go.ChangeShapes Go.WideShapes
/-- the ids -/
def Tx.idOf (all : Bool) (t : Tx.T) : List (BitVec 8) := Dg.double (Tx.enc all t)
theorem Tx.idOf_len (all : Bool) (t : Tx.T) : (Tx.idOf all t).length = 32 := Dg.double_len _
abbrev zPt : Array Value := #[.int .u8 0, .int .u8 0, .int .u8 0, .int .u8 0, .int .u8 0, .int .u8 0, .int .u8 0, .int .u8 0, .int .u8 0, .int .u8 0, .int .u8 0, .int .u8 0, .int .u8 0, .int .u8 0, .int .u8 0, .int .u8 0, .int .u8 0, .int .u8 0, .int .u8 0, .int .u8 0, .int .u8 0, .int .u8 0, .int .u8 0, .int .u8 0, .int .u8 0, .int .u8 0, .int .u8 0, .int .u8 0, .int .u8 0, .int .u8 0, .int .u8 0, .int .u8 0, .int .i64 0]
set_option maxRecDepth 100000 in
theorem built_pt32 (d0 d1 d2 d3 d4 d5 d6 d7 d8 d9 d10 d11 d12 d13 d14 d15 d16 d17 d18 d19 d20 d21 d22 d23 d24 d25 d26 d27 d28 d29 d30 d31 : BitVec 8) (z : Int) : Tryz.prog.built 32 [(0, .agg (blist [d0, d1, d2, d3, d4, d5, d6, d7, d8, d9, d10, d11, d12, d13, d14, d15, d16, d17, d18, d19, d20, d21, d22, d23, d24, d25, d26, d27, d28, d29, d30, d31]).toArray), (1, .int .i64 z)] = some (ptCells [d0, d1, d2, d3, d4, d5, d6, d7, d8, d9, d10, d11, d12, d13, d14, d15, d16, d17, d18, d19, d20, d21, d22, d23, d24, d25, d26, d27, d28, d29, d30, d31] z).toArray := by kernel_rfl
theorem built_pt : ∀ (D : List (BitVec 8)), D.length = 32 → ∀ z : Int, Tryz.prog.built 32 [(0, .agg (blist D).toArray), (1, .int .i64 z)] = some (ptCells D z).toArray
  | [d0, d1, d2, d3, d4, d5, d6, d7, d8, d9, d10, d11, d12, d13, d14, d15, d16, d17, d18, d19, d20, d21, d22, d23, d24, d25, d26, d27, d28, d29, d30, d31], _, z => built_pt32 d0 d1 d2 d3 d4 d5 d6 d7 d8 d9 d10 d11 d12 d13 d14 d15 d16 d17 d18 d19 d20 d21 d22 d23 d24 d25 d26 d27 d28 d29 d30 d31 z
theorem pt_one (D : List (BitVec 8)) (z : Int) : (ptCells D z).toArray.all (·.oneCell') = true := by
  rw [show ((ptCells D z).toArray.all (·.oneCell')) = (ptCells D z).all (·.oneCell') from by simp, List.all_eq_true]
  intro v hv
  unfold ptCells at hv
  rcases List.mem_append.1 hv with h | h
  · exact blist_one _ v h
  · simp at h
    subst h
    rfl
theorem wpList_build_pt {ops : Array Oper} {rest : List Oper} {o : Oper} {a : Act} {w : World} {Q : Exit → Act → World → Prop} {PC : Array Value} (hgd : o.guard = none) (x y : Operand) (ho : o.op = .build 32 #[(0, x), (1, y)]) (D : List (BitVec 8)) (z : Int)
    (hx : a.eval x = .agg (blist D).toArray) (hy : a.eval y = .int .i64 z) (hPC : PC = (ptCells D z).toArray) (hD : D.length = 32) (h : wpList Tryz.prog ops Q rest (a.put o.dst (.agg PC)) w) : wpList Tryz.prog ops Q (o :: rest) a w :=
  wpList_plain hgd fun K hK => by
    have hr := run_build (P := Tryz.prog) w 32 #[(0, .agg (blist D).toArray), (1, .int .i64 z)] _ (built_pt D hD z)
    subst hPC
    unfold Oper.wp execOp
    simp only [ho, List.map_toArray, List.map_cons, List.map_nil, hx, hy, Sem.run_bind, Sem.run_pure, Result.andThen_ok, hr]
    exact hK _ _ h
set_option maxRecDepth 100000 in
set_option maxHeartbeats 8000000 in
theorem pid_any (a : Option Addr) (n q : Nat) (b : Option Addr) (m r : Nat) (t : Tx.T) (f : Bool) (hf : f = t.firm) (w : World) (ht : TxAt w a n q b m r t) (hs : Tx.Small t) (hK : KDg w) :
    Calls Tryz.prog 58 #[txv a n q b m r f] w fun e w' => e = .returned (.agg (blist (Tx.idOf false t)).toArray) ∧ Below w.heap.size w w' := by
  obtain ⟨W1, hW1⟩ : ∃ x, x = (w.alloc (.cells #[.slice a n q, .slice b m r, .bool f] 39)).alloc (.cells z32 30) := ⟨_, rfl⟩
  have hBw : Below w.heap.size w W1 := by
    rw [hW1]
    exact ((Below.refl _ w).alloc (Nat.le_refl _) _).alloc (by simp) _
  have hX : Has W1 w.heap.size 39 #[.slice a n q, .slice b m r, .bool f] := by rw [hW1]; exact (Has.fresh w _ _).past _
  have hR : Has W1 (w.heap.size + 1) 30 z32 := by rw [hW1]; exact Has.fresh_at _ _ _ (by simp)
  have lX := hX.load_agg (P := Tryz.prog) (t := 39) Tryz.underlying39 rfl (by kernel_rfl)
  have HW := Lib.hid hW1
  have HT := Lib.hid (ht.below hBw)
  have HS := Lib.hid hs
  have HK := Lib.hid hK
  have HF := Lib.hid hf
  clear hf
  obtain ⟨E, hE⟩ : ∃ E, E = Tx.enc false t := ⟨_, rfl⟩
  obtain ⟨K, hKl⟩ : ∃ K, K = E.length := ⟨_, rfl⟩
  have HL := Lib.hid (show E.length = K ∧ K ≤ 1000000 ∧ E = Tx.enc false t from ⟨hKl.symm, by have := Tx.enc_len false t hs (fun s hx => (ht.sp.2.2.1 s hx).1); rw [hKl, hE]; omega, hE⟩)
  obtain ⟨D, hDd⟩ : ∃ D, D = Dg.double E := ⟨_, rfl⟩
  have hDl : D.length = 32 := by rw [hDd]; exact Dg.double_len _
  have HD := Lib.hid (show D = Dg.double E ∧ D.length = 32 ∧ Tx.idOf false t = D from ⟨hDd, hDl, by rw [Tx.idOf, ← hE, hDd]⟩)
  have hsz := size_hash' hDl
  have HO := Lib.hid (And.intro hsz (one_hash D))
  obtain ⟨g1, hg1⟩ : ∃ g, g = w.heap.size := ⟨_, rfl⟩
  have HG := Lib.hid hg1
  rw [← hg1] at lX hR
  clear hW1 ht hs hX hK hE hKl hDd hDl hsz hg1
  rw [HD.out.2.2]
  go_enter Tryz.func58, Tryz.ntmps58
  go_upto_region 1 with fail
  rw [← HW.out, ← HG.out]
  go_wp2_with (first
    | (refine wpList_store_mid rfl 30 (.tmp 2) (.tmp 6) rfl (g1 + 1) 0 (blist D).toArray rfl rfl hth HO.out.1 HO.out.2 ?_)
    | (go_at_call 89; refine hS4.mono ?_; rintro e w5 ⟨rfl, hb5⟩; have hR5 := (hR2.past _).under hb5 (hR2.past _).lt; have hth := hR5.there 0 (blist D).toArray.size (by rw [List.size_toArray, blist_length, HD.out.2.1]; decide))
    | (go_at_call 90; refine (pbase_any a n q b m r t f HF.out W1 HT.out HS.out).mono ?_; rw [← HL.out.2.2]; rintro e w2 ⟨v2, rfl, ho2, hb2⟩; obtain ⟨x2, c2, rfl, hc2, h02, hby2⟩ := ho2.shape HL.out.1; have hR2 := hR.under hb2 hR.lt; have hB2 := hBw.trans (hb2.mono hBw.size); have hP := parts_one (c := c2) 116 hby2 hc2 h02; have hB4 := hB2.alloc hB2.size (.cells #[.slice x2 K c2] 116); have hS4 := ddouble_any _ 1 1 [E] _ (HK.out.below hB4) hP (by omega) (by rw [List.flatten_singleton, HL.out.1]; have := HL.out.2.1; omega); rw [List.flatten_singleton] at hS4; rw [← HD.out.1] at hS4)
    | (refine wpList_load_run rfl 39 (.tmp 1) rfl _ _ rfl lX ?_))
  have hE := hR5.whole (l := D) (by rw [HD.out.2.1]; rfl)
  have hS := size_hash HD.out.2.1
  exact bodyPost_ret (results_one_cell rfl _ _ (g1 + 1) rfl _ (run_loadVar_mid _ _ 0 30 _ _ hE.range Tryz.underlying30 rfl hS)) rfl ⟨rfl, below_setAll (by have := HG.out; omega) _ 0 (hB4.trans (hb5.mono hB4.size))⟩
set_option maxRecDepth 100000 in
set_option maxHeartbeats 8000000 in
theorem rid_any (a : Option Addr) (n q : Nat) (b : Option Addr) (m r : Nat) (t : Tx.T) (w : World) (ht : TxAt w a n q b m r t) (hs : Tx.Small t) (hK : Tab32 w 2 Dg.kL) :
    Calls Tryz.prog 50 #[txv a n q b m r t.firm] w fun e w' => e = .returned (.agg (blist (Tx.idOf false t)).toArray) ∧ Below w.heap.size w w' := by
  obtain ⟨W1, hW1⟩ : ∃ x, x = (w.alloc (.cells #[.slice a n q, .slice b m r, .bool t.firm] 39)).alloc (.cells z32 30) := ⟨_, rfl⟩
  have hBw : Below w.heap.size w W1 := by
    rw [hW1]
    exact ((Below.refl _ w).alloc (Nat.le_refl _) _).alloc (by simp) _
  have hX : Has W1 w.heap.size 39 #[.slice a n q, .slice b m r, .bool t.firm] := by rw [hW1]; exact (Has.fresh w _ _).past _
  have hR : Has W1 (w.heap.size + 1) 30 z32 := by rw [hW1]; exact Has.fresh_at _ _ _ (by simp)
  have lX := hX.load_agg (P := Tryz.prog) (t := 39) Tryz.underlying39 rfl (by kernel_rfl)
  have HW := Lib.hid hW1
  have HT := Lib.hid (ht.below hBw)
  have HS := Lib.hid hs
  have HK := Lib.hid hK
  obtain ⟨E, hE⟩ : ∃ E, E = Tx.enc false t := ⟨_, rfl⟩
  obtain ⟨K, hKl⟩ : ∃ K, K = E.length := ⟨_, rfl⟩
  have HL := Lib.hid (show E.length = K ∧ K ≤ 1000000 ∧ E = Tx.enc false t from ⟨hKl.symm, by have := Tx.enc_len false t hs (fun s hx => (ht.sp.2.2.1 s hx).1); rw [hKl, hE]; omega, hE⟩)
  obtain ⟨D, hDd⟩ : ∃ D, D = Dg.double E := ⟨_, rfl⟩
  have hDl : D.length = 32 := by rw [hDd]; exact Dg.double_len _
  have HD := Lib.hid (show D = Dg.double E ∧ D.length = 32 ∧ Tx.idOf false t = D from ⟨hDd, hDl, by rw [Tx.idOf, ← hE, hDd]⟩)
  have hsz := size_hash' hDl
  have HO := Lib.hid (And.intro hsz (one_hash D))
  obtain ⟨g1, hg1⟩ : ∃ g, g = w.heap.size := ⟨_, rfl⟩
  have HG := Lib.hid hg1
  rw [← hg1] at lX hR
  clear hW1 ht hs hX hK hE hKl hDd hDl hsz hg1
  rw [HD.out.2.2]
  go_enter Tryz.func50, Tryz.ntmps50
  go_upto_region 1 with fail
  rw [← HW.out, ← HG.out]
  go_wp2_with (first
    | (refine wpList_store_mid rfl 30 (.tmp 2) (.tmp 5) rfl (g1 + 1) 0 (blist D).toArray rfl rfl hth HO.out.1 HO.out.2 ?_)
    | (go_at_call 79; refine hS4.mono ?_; rintro e w5 ⟨rfl, hb5⟩; have hR5 := hR2.under hb5 hR2.lt; have hth := hR5.there 0 (blist D).toArray.size (by rw [List.size_toArray, blist_length, HD.out.2.1]; decide))
    | (go_at_call 80; refine (rbase_any a n q b m r t W1 HT.out HS.out).mono ?_; rw [← HL.out.2.2]; rintro e w2 ⟨v2, rfl, ho2, hb2⟩; obtain ⟨x2, c2, rfl, hc2, h02, hby2⟩ := ho2.shape HL.out.1; have hR2 := hR.under hb2 hR.lt; have hB2 := hBw.trans (hb2.mono hBw.size); have hS4 := rdouble_any x2 K c2 E w2 hby2 HL.out.2.1 h02 (HK.out.below hB2); rw [← HD.out.1] at hS4)
    | (refine wpList_load_run rfl 39 (.tmp 1) rfl _ _ rfl lX ?_))
  have hE := hR5.whole (l := D) (by rw [HD.out.2.1]; rfl)
  have hS := size_hash HD.out.2.1
  exact bodyPost_ret (results_one_cell rfl _ _ (g1 + 1) rfl _ (run_loadVar_mid _ _ 0 30 _ _ hE.range Tryz.underlying30 rfl hS)) rfl ⟨rfl, below_setAll (by have := HG.out; omega) _ 0 (hB2.trans (hb5.mono hB2.size))⟩
end Go.Proofs.YtagjolbpmhbifaaGreatDoor
