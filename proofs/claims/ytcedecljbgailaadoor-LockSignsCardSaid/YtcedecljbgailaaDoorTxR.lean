/- the reference's Out, Check -/
import Derived.Test.YtcedecljbgailaaDoorTxC
import Derived.Test.YtcedecljbgailaaDoorAmz
import Derived.Test.YtcedecljbgailaaDoorTxN
namespace Go.Proofs.YtcedecljbgailaaDoor
open Go Go.RowKit Go.ChangeShapes Go.WideShapes
namespace Tx
def vals (l : List Co) : List Int := l.map (·.v)
theorem vals_len (l : List Co) : (vals l).length = l.length := by simp [vals]
end Tx
theorem nums_lit (w : World) (v : Int) : Nums (w.alloc (.cells #[.int .i64 v] 3)) (some ⟨w.heap.size, 0, none⟩) 1 [v] := by
  refine ⟨rfl, by unfold maxLen; omega, fun i hi => ⟨_, rfl, ?_⟩⟩
  obtain rfl : i = 0 := by omega
  exact (Has.fresh w _ _).cell_at rfl
/-- the point that a spend spends, read -/
theorem point_at {w : World} {x : Addr} {n i : Nat} {L : List Tx.Sp} {s : Tx.Sp} (h : Recs spRec w (some x) n L) (hi : L[i]? = some s) : (Instr.loadAt 25 (.pointer (some (x.add (i * 35))))).run Tryd.prog w = .ok (.agg (ptCells s.h s.n).toArray) w := by
  have hok := h.okay hi
  have h1 := run_loadCells_list (P := Tryd.prog) w (x.add (i * 35)) (ptCells s.h s.n) (fun j v hj => by
    rw [Addr.add_add]
    refine h.field (R := spRec) hi ?_
    show (spCells s)[j]? = some v
    have e : spCells s = ptCells s.h s.n ++ [.string (strB s.key), .int .u64 (nb64 s.sl)] := by unfold spCells ptCells; simp
    rw [e, List.getElem?_append_left (List.getElem?_eq_some_iff.1 hj).1]
    exact hj)
  rw [ptCells_len hok.1] at h1
  have hsz : (Tryd.prog.info? 25).map (·.size) = some 33 := by kernel_rfl
  cases hq : Tryd.prog.info? 25 with
  | none => simp [hq] at hsz
  | some inf =>
    have hz : inf.size = 33 := by simpa [hq] using hsz
    have hagg : (isAgg 25).run Tryd.prog w = .ok true w := by
      unfold isAgg
      rw [Sem.run_bind, run_underlying Tryd.underlying25 w]
      rfl
    simp [Instr.loadAt, Instr.sureAddr, loadVar, Sem.run_bind, hagg, sizeOf, typeInfo, hq, hz, h1]
/-- is there something wrong with a spend by itself? -/
def Tx.badSp (s : Tx.Sp) : Prop := 32 < s.key.length ∨ s.n < 0 ∨ 7 < s.n
instance (s : Tx.Sp) : Decidable (Tx.badSp s) := inferInstanceAs (Decidable (_ ∨ _))
/-- do two spends spend one point? -/
def Tx.Twice (l : List Tx.Sp) : Prop := ∃ (i k : Nat) (s o : Tx.Sp), k < i ∧ l[i]? = some s ∧ l[k]? = some o ∧ (s.h = o.h ∧ s.n = o.n)
def Tx.twice : List Tx.Sp → Bool
  | [] => false
  | s :: l => l.any (fun o => decide (o.h = s.h ∧ o.n = s.n)) || Tx.twice l
theorem Tx.twice_iff : ∀ l : List Tx.Sp, Tx.twice l = true ↔ Tx.Twice l
  | [] => ⟨(fun h => by cases h), (fun ⟨i, k, s, o, _, hi, _⟩ => by simp at hi)⟩
  | s :: l => by
    unfold Tx.twice
    rw [Bool.or_eq_true, List.any_eq_true, Tx.twice_iff l]
    constructor
    · rintro (⟨o, ho, h⟩ | ⟨i, k, u, o, hk, hi, hk2, h⟩)
      · obtain ⟨i, hi⟩ := List.mem_iff_getElem?.1 ho
        exact ⟨i + 1, 0, o, s, by omega, by simpa using hi, rfl, by simpa using h⟩
      · exact ⟨i + 1, k + 1, u, o, by omega, by simpa using hi, by simpa using hk2, h⟩
    · rintro ⟨i, k, u, o, hk, hi, hk2, h⟩
      cases i with
      | zero => omega
      | succ i =>
        have hi' : l[i]? = some u := by simpa using hi
        cases k with
        | zero =>
          obtain rfl : s = o := by simpa using hk2
          exact .inl ⟨u, List.mem_of_getElem? hi', by simpa using h⟩
        | succ k => exact .inr ⟨i, k, u, o, by omega, hi', by simpa using hk2, h⟩
instance (l : List Tx.Sp) : Decidable (Tx.Twice l) := decidable_of_iff _ (Tx.twice_iff l)
/-- are its spends and coins as many as they may be? -/
def Tx.Sized (t : Tx.T) : Prop := 1 ≤ t.sp.length ∧ t.sp.length ≤ 8 ∧ 1 ≤ t.co.length ∧ t.co.length ≤ 8
instance (t : Tx.T) : Decidable (Tx.Sized t) := inferInstanceAs (Decidable (_ ∧ _))
/-- why a transaction isn't good; 0: it is -/
def Tx.check (t : Tx.T) : Int :=
  if Tx.Sized t then
    if ∀ s, s ∈ t.sp → ¬ Tx.badSp s then
      if (Am.total (Tx.vals t.co) 0).2 = 0 then if Tx.Twice t.sp then 8 else 0
      else (Am.total (Tx.vals t.co) 0).2
    else 2
  else 2
end Go.Proofs.YtcedecljbgailaaDoor
