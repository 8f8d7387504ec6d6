/- The statement GfSquares of layer 1 walked. -/
import Derived.Test.YtjcfnlmmebhldaaGfLaws
import Derived.Laws.IdiomArrays
import Derived.BigQuiet
import Derived.Deep.QuietTactic
import Derived.Deep.MidRow
import Derived.Test.YtjcfnlmmebhldaaB
namespace Go.Proofs.Ytjcfnlmmebhldaa
open Go.ChangeShapes Go.WideShapes Go.ChangeAt Go.RowKit
theorem power_32 (a : BitVec 32) (w : World) :
    Calls Try.prog 17 #[.int .u32 (nb32 a), .int .u64 4294967296] w fun e w' => e = .returned (.int .u32 (nb32 a)) ∧ w = w' := by
  have := power_any a 4294967296#64 w
  rwa [show Gf.pow a (4294967296#64).toNat = a from Gf.pow_32 a] at this
theorem squares_root (a : BitVec 32) : Gf.squares (Gf.square a) 31 = a := by rw [Gf.squares_succ, Gf.squares_32]
theorem root_square (a : BitVec 32) : Gf.square (Gf.squares a 31) = a := Gf.squares_32 a
def powB (a : BitVec 32) (n : BitVec 64) : BitVec 32 := Gf.pow a n.toNat
theorem powB_any (a : BitVec 32) (n : BitVec 64) (w : World) :
    Calls Try.prog 17 #[.int .u32 (nb32 a), .int .u64 (nb64 n)] w fun e w' => e = .returned (.int .u32 (nb32 (powB a n))) ∧ w = w' := power_any a n w
set_option maxHeartbeats 1000000 in
theorem squares_walk (a b n m : BitVec 32) (w : World) :
    Calls Try.prog 7 #[.agg #[.int .u32 (nb32 a), .int .u32 (nb32 b), .int .u32 (nb32 n), .int .u32 (nb32 m)]] w fun e w' => e = .returned (.bool true) ∧ Below w.heap.size w w' := by
  have h1 : (Gf.square (a ^^^ b) == Gf.square a ^^^ Gf.square b) = true := by rw [beq_iff_eq]; exact Gf.lin_square a b
  have h2 : (Gf.square (Gf.squares a 31) == a) = true := by rw [beq_iff_eq]; exact root_square a
  have h3 : (Gf.squares (Gf.square a) 31 == a) = true := by rw [beq_iff_eq]; exact squares_root a
  have h4 : (Gf.mul (powB a (n.setWidth 64)) (powB a (m.setWidth 64)) == powB a (n.setWidth 64 + m.setWidth 64)) = true := by
    rw [beq_iff_eq]
    unfold powB
    rw [← Gf.pow_add]
    congr 1
    have := n.isLt
    have := m.isLt
    simp only [BitVec.toNat_add, BitVec.toNat_setWidth]
    omega
  go_enter Try.func7, Try.ntmps7
  go_wp2_with (go_at_call 10; refine (alive01 _).mono ?_; rintro e w' ⟨rfl, rfl⟩)
  go_quiet (fail)
  go_wp2_with (first
    | (go_at_call 14; refine (square_any _ _).mono ?_; rintro e w' ⟨rfl, rfl⟩)
    | (go_at_call 21; refine (root_any _ _).mono ?_; rintro e w' ⟨rfl, rfl⟩)
    | (go_at_call 12; refine (mul_any _ _ _).mono ?_; rintro e w' ⟨rfl, rfl⟩)
    | (go_at_call 17; with_reducible (refine (powB_any _ _ _).mono ?_; rintro e w' ⟨rfl, rfl⟩))
    | (go_at_call 17; with_reducible (refine (power_32 _ _).mono ?_; rintro e w' ⟨rfl, rfl⟩)))
  go_ret
  exact ⟨rfl, below_draws ((Below.refl _ _).alloc (Nat.le_refl _) _) _⟩
theorem okWide_array {P : Program} {w : World} {r : Reach} {base : Nat} {t e : TypeId} {k : Nat} {v : Value} (ht : P.underlying t = some (.array k e)) (h : Value.okWide P w r base t v) : ∃ cs, v = .agg cs ∧ cs.size = P.cellsOf t := by
  simp only [Value.okWide, ht] at h
  obtain ⟨cs, h1, h2, _⟩ := h
  exact ⟨cs, h1, h2⟩
theorem gfSquaresWalk {H : Type} {enc : TypeId × Value → H} (W : World) (base : Nat) (v0 : Value) (d0 : DataW H) (p0 : List MemPlace)
    (o0 : Value.okWide Try.prog W .any base 38 v0) (h0 : DataW.Trod enc Try.prog W 0 (fun _ => true) true 38 v0 d0 p0) :
    Calls Try.prog 7 #[v0] W fun e w' => e = .returned (.bool true) ∧ Below W.heap.size W w' := by
  obtain ⟨cs, rfl, hsz⟩ := okWide_array Try.underlying38 o0
  have h4 : cs.size = 4 := hsz.trans (by kernel_rfl)
  obtain ⟨l⟩ := cs
  match l, h4 with
  | [c0, c1, c2, c3], _ =>
    obtain ⟨fuel, hf⟩ := h0
    obtain ⟨y0, y1, y2, y3, n, _, t0, t1, t2, t3⟩ := trod_array4 Try.underlying38 (by kernel_rfl) hf
    obtain ⟨x0, e0, _, w0⟩ := DataW.trod_int Try.underlying22 t0
    obtain ⟨x1, e1, _, w1⟩ := DataW.trod_int Try.underlying22 t1
    obtain ⟨x2, e2, _, w2⟩ := DataW.trod_int Try.underlying22 t2
    obtain ⟨x3, e3, _, w3⟩ := DataW.trod_int Try.underlying22 t3
    simp only [List.cons.injEq, and_true] at e0 e1 e2 e3
    subst e0 e1 e2 e3
    obtain ⟨a, rfl⟩ := u32_of_wf w0
    obtain ⟨b, rfl⟩ := u32_of_wf w1
    obtain ⟨c, rfl⟩ := u32_of_wf w2
    obtain ⟨d, rfl⟩ := u32_of_wf w3
    exact squares_walk a b c d W
end Go.Proofs.Ytjcfnlmmebhldaa
