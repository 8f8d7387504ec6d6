/- An act's parts where it lies in a block; the laws' long -/
import Derived.Test.YtagjolbpmhbifaaGreatDoorCsA
namespace Go.Proofs.YtagjolbpmhbifaaGreatDoor
open Go Go.RowKit Go.ChangeShapes Go.WideShapes
theorem Has.load_mid {P : Program} {w : World} {g : Nat} {T t : TypeId} {cs : Array Value} {d : TypeDesc} (h : Has w g T cs) (off : Nat) (sub : List Value) (hsub : ∀ (j : Nat) (v : Value), sub[j]? = some v → cs[off + j]? = some v)
    (hu : P.underlying t = some d) (hd : d.isRow = true) (hi : (P.info? t).map (·.size) = some sub.length) : (Instr.loadAt t (.pointer (some ⟨g, off, none⟩))).run P w = .ok (.agg sub.toArray) w := by
  have h1 := run_loadVar_mid (P := P) w g off t sub d (fun j v hj => by rw [h.cell]; exact hsub j v hj) hu hd hi
  simp only [Instr.loadAt, Instr.sureAddr, Sem.run_bind, Sem.run_pure, Result.andThen_ok, h1]
abbrev zAc : Array Value := #[.int .i64 0, .int .u8 0, .int .u8 0, .int .u8 0, .int .u8 0, .int .u8 0, .int .u8 0, .int .u8 0, .int .u8 0, .int .u8 0, .int .u8 0, .int .u8 0, .int .u8 0, .int .u8 0, .int .u8 0, .int .u8 0, .int .u8 0, .int .u8 0, .int .u8 0, .int .u8 0, .int .u8 0, .int .u8 0, .int .u8 0, .int .u8 0, .int .u8 0, .int .u8 0, .int .u8 0, .int .u8 0, .int .u8 0, .int .u8 0, .int .u8 0, .int .u8 0, .int .u8 0, .int .i64 0, .int .i64 0, .int .u64 0, .slice none 0 0, .slice none 0 0, .bool false, .slice none 0 0]
theorem size_act : (Tryz.prog.info? 41).map (·.size) = some 40 := by kernel_rfl
section
variable {w : World} {g : Nat} {T : TypeId} {x : Cs.Ac}
theorem ac_at1 (h : x.p.1.length = 32) {j : Nat} (hj : j < 33) : (acCells x)[1 + j]? = (ptCells x.p.1 x.p.2)[j]? := by
  unfold acCells
  rw [List.getElem?_append_right (by simp), List.length_singleton, Nat.add_sub_cancel_left, List.getElem?_append_left (by rw [ptCells_len h]; exact hj)]
theorem ac_at34 (h : x.p.1.length = 32) (j : Nat) : (acCells x)[34 + j]? = (coCells x.c ++ (vCells x.v ++ [.slice x.sa x.sn x.sq]))[j]? := by
  unfold acCells
  rw [List.getElem?_append_right (by simp; omega), List.length_singleton, List.getElem?_append_right (by rw [ptCells_len h]; omega), ptCells_len h, show 34 + j - 1 - 33 = j by omega]
theorem Has.acKind (h : Has w g T (acCells x).toArray) : w.cell? ⟨g, 0, none⟩ = some (.int .i64 x.kind) := h.cell_at rfl
theorem Has.acPt (h : Has w g T (acCells x).toArray) (hl : x.p.1.length = 32) : (Instr.loadAt 32 (.pointer (some ⟨g, 1, none⟩))).run Tryz.prog w = .ok (Cs.ptV x.p) w :=
  h.load_mid 1 (ptCells x.p.1 x.p.2) (fun j v hj => by
    have h1 : j < 33 := by
      have e := (List.getElem?_eq_some_iff.1 hj).1
      rwa [ptCells_len hl] at e
    rw [List.getElem?_toArray, ac_at1 hl h1]
    exact hj) Tryz.underlying32 rfl (by rw [ptCells_len hl]; kernel_rfl)
theorem Has.acCo (h : Has w g T (acCells x).toArray) (hl : x.p.1.length = 32) : (Instr.loadAt 35 (.pointer (some ⟨g, 34, none⟩))).run Tryz.prog w = .ok (Cs.coV x.c) w :=
  h.load_mid 34 (coCells x.c) (fun j v hj => by
    rw [List.getElem?_toArray, ac_at34 hl, List.getElem?_append_left (List.getElem?_eq_some_iff.1 hj).1]
    exact hj) Tryz.underlying35 rfl (by kernel_rfl)
theorem Has.acTx (h : Has w g T (acCells x).toArray) (hl : x.p.1.length = 32) : (Instr.loadAt 39 (.pointer (some ⟨g, 36, none⟩))).run Tryz.prog w = .ok (txv x.v.a x.v.n x.v.q x.v.b x.v.m x.v.r x.v.t.firm) w :=
  h.load_mid 36 (vCells x.v) (fun j v hj => by
    have h1 := ac_at34 (x := x) hl (2 + j)
    rw [List.getElem?_toArray, show 36 + j = 34 + (2 + j) by omega, h1, List.getElem?_append_right (by show (coCells x.c).length ≤ 2 + j; show 2 ≤ 2 + j; omega), show 2 + j - (coCells x.c).length = j from (show 2 + j - 2 = j by omega), List.getElem?_append_left (List.getElem?_eq_some_iff.1 hj).1]
    exact hj) Tryz.underlying39 rfl (by kernel_rfl)
theorem Has.acSp (h : Has w g T (acCells x).toArray) (hl : x.p.1.length = 32) : w.cell? ⟨g, 39, none⟩ = some (.slice x.sa x.sn x.sq) := by
  refine h.cell_at ?_
  rw [List.getElem?_toArray, ac_at34 hl 5]
  rfl
end
theorem cs_load_run_if {P : Program} {ops : Array Oper} {rest : List Oper} {op : Oper} {a : Act} {w : World} {Q : Exit → Act → World → Prop} (hgd : Region.wanted op (yielded ops a.tmps) = true) (ty : TypeId) (x : Operand) (ho : op.op = .load ty x)
    (p v : Value) (hx : a.eval x = p) (hr : (Instr.loadAt ty p).run P w = .ok v w) (h : wpList P ops Q rest (a.put op.dst v) w) : wpList P ops Q (op :: rest) a w :=
  wpList_step fun K hK => by
    rw [if_pos hgd]
    unfold Oper.wp execOp
    simp only [ho, hx, Sem.run_bind, Sem.run_pure, Result.andThen_ok, hr]
    exact hK _ _ h
/-- what long says -/
def LongPost (L : List Cs.Ac) (w0 : World) (e : Ending) (w' : World) : Prop := ∃ z, e = .returned (.bool z) ∧ (z = false → L.length ≤ 41 ∧ ∀ x, x ∈ L → Tx.Small x.v.t ∧ x.sn ≤ 30) ∧ Below w0.heap.size w0 w'
set_option maxRecDepth 100000 in
set_option maxHeartbeats 4000000 in
theorem clong_any {W : World} (a : Option Addr) (n q : Nat) (L : List Cs.Ac) (w : World) (h : Recs (acIn W) w a n L) (hW : Below W.heap.size W w) :
    Calls Tryz.prog 6 #[.slice a n q] w (LongPost L w) := by
  have HH := Lib.hid h
  have hmx : n ≤ 9223372036854775807 := h.2.1
  clear h
  go_enter Tryz.func6, Tryz.ntmps6
  go_wp2
  go_loopw [7] (fun iv wr => ∃ i : Nat, i ≤ n ∧ i ≤ 41 ∧ iv = .int .i64 i ∧ RowKit.Hid (∀ (j : Nat) (x : Cs.Ac), j < i → L[j]? = some x → Tx.Small x.v.t ∧ x.sn ≤ 30) ∧ Below w.heap.size w wr) (fun iv _ => n - (intOf iv).toNat)
  case atStart => exact ⟨0, Nat.zero_le _, by omega, rfl, Lib.hid (fun j t hj => by omega), Below.refl _ _⟩
  case round =>
    obtain ⟨i, hi, hi41, rfl, HA, hb⟩ := hrel
    by_cases hlt : i < n
    · have hii : (i : Int) < (n : Int) := by omega
      have hi0 : (0 : Int) ≤ (i : Int) := by omega
      obtain ⟨x, hx⟩ := HH.out.get hlt
      have hok : x.At W := HH.out.okay hx
      obtain ⟨y, hay, _⟩ := HH.out.2.2.2 i x hx
      subst hay
      have hy := (HH.out.below hb).load_at Tryz.underlying41 rfl size_act hx
      have HX := Lib.hid hx
      have HOK := Lib.hid (And.intro hok.pt.1 (hok.below (hW.trans (hb.mono hW.size))))
      have HSZ := Lib.hid (show (acCells x).toArray.size = 40 by rw [List.size_toArray, acCells_len hok.pt.1])
      have HOW := Lib.hid hok
      clear hx hok
      go_upto_region 4 with (first
        | (refine wpList_store_mid rfl 41 (.tmp 4) (.tmp 11) rfl wr.heap.size 0 (acCells x).toArray rfl rfl (by rw [HSZ.out]; exact (Has.fresh _ _ _).there 0 40 (by decide)) (by rw [HSZ.out]; exact size_act) ((acIn W).all_one x) ?_)
        | (refine wpList_load_run rfl 41 (.tmp 10) rfl _ _ rfl hy ?_))
      obtain ⟨w5, hw5⟩ : ∃ u, u = (wr.alloc (.cells zAc 41)).setCells wr.heap.size 0 (acCells x) := ⟨_, rfl⟩
      obtain ⟨hG, hb5⟩ := Rec.new (R := acIn W) rfl HOW.out hw5
      rw [← hw5]
      clear hw5 hy
      obtain ⟨g4, hg4⟩ : ∃ g, g = wr.heap.size := ⟨_, rfl⟩
      rw [← hg4] at hG ⊢
      have hB5 := hb.trans (hb5.mono hb.size)
      have HT5 := Lib.hid (HOK.out.2.tx.below hb5)
      have c39 := hG.acSp HOK.out.1
      have lT := hG.acTx HOK.out.1
      have hsmx : x.sn ≤ 9223372036854775807 := HOK.out.2.sp.2.1
      clear hg4 hb5 hG
      by_cases h40 : (40 : Int) < (i : Int)
      · go_wp2
        go_ret
        exact ⟨_, rfl, (fun e => by cases e), hB5⟩
      · obtain ⟨w6, hw6⟩ : ∃ u, u = w5.alloc (.cells #[.slice x.v.a x.v.n x.v.q, .slice x.v.b x.v.m x.v.r, .bool x.v.t.firm] 39) := ⟨_, rfl⟩
        have hb6 : Below w5.heap.size w5 w6 := by rw [hw6]; exact (Below.refl _ _).alloc (Nat.le_refl _) _
        have c39b : w6.cell? ⟨g4, 39, none⟩ = some (.slice x.sa x.sn x.sq) := by
          rw [hb6.cell (isSome_lt (by rw [c39]; rfl))]
          exact c39
        have HTS := Lib.hid (show Txs w6 (some ⟨w5.heap.size, 0, none⟩) 1 [x.v] from
          ⟨recs_fresh (R := vRec) (fun _ _ => trivial) (by rw [hw6]; exact Has.fresh _ _ _) (by show 1 ≤ maxLen; unfold maxLen; omega) (fun j v hj => by rw [List.getElem?_toArray]; exact hj),
            fun u hu => by
              obtain rfl := List.mem_singleton.1 hu
              exact HT5.out.below hb6⟩)
        have HW6 := Lib.hid hw6
        clear hw6
        go_wp2_with (first
          | (go_at_call 7; rw [← HW6.out]; refine (large_any _ 1 1 _ w6 HTS.out).mono ?_; rintro e w7 ⟨bl, rfl, hsm, hb7⟩; have HSM := Lib.hid hsm; clear hsm; have hB7 := hB5.trans ((hb6.trans (hb7.mono hb6.size)).mono hB5.size); have c7 : w7.cell? ⟨g4, 39, none⟩ = some (.slice x.sa x.sn x.sq) := by (rw [hb7.cell (isSome_lt (by rw [c39b]; rfl))]; exact c39b))
          | (refine cs_load_run_if (by rfl) 39 (.tmp 15) rfl _ _ rfl lT ?_))
        all_goals try (go_ret; exact ⟨_, rfl, (fun e => by cases e), hB7⟩)
        have hblf : bl = false := by first | rfl | assumption | simp_all
        have hsn : x.sn ≤ 30 := by omega
        have HA2 := Lib.hid (show ∀ (j : Nat) (y : Cs.Ac), j < i + 1 → L[j]? = some y → Tx.Small y.v.t ∧ y.sn ≤ 30 from fun j y hj hy => by
          rcases Nat.lt_or_ge j i with h | h
          · exact HA.out j y h hy
          · have e2 : j = i := by omega
            subst e2
            rw [HX.out] at hy
            injection hy with hy
            subst hy
            exact ⟨(HSM.out hblf).2 _ List.mem_cons_self, hsn⟩)
        go_roundw
        case rel => exact ⟨i + 1, by omega, by omega, by go_num, HA2, hB7⟩
        case measure => (simp [intOf]; try omega)
    · have hii : ¬ (i : Int) < (n : Int) := by omega
      obtain rfl : i = n := by omega
      go_wp2
      go_ret
      refine ⟨_, rfl, fun _ => ⟨by rw [HH.out.1]; exact hi41, fun x hx => ?_⟩, hb⟩
      obtain ⟨j, hj⟩ := List.mem_iff_getElem?.1 hx
      exact HA.out j x (by have e := (List.getElem?_eq_some_iff.1 hj).1; rw [HH.out.1] at e; exact e) hj
end Go.Proofs.YtagjolbpmhbifaaGreatDoor
