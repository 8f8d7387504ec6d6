/- MasseyOne -/
import Derived.Test.YtmjboiaopihjeaaMsL
namespace Go.Proofs.Ytmjboiaopihjeaa
open Go Go.RowKit Go.ChangeShapes Go.WideShapes
theorem arg_int {H : Type} {enc : TypeId × Value → H} {P : Program} {W : World} {base : Nat} {v : Value} {d : DataW H} {p : List MemPlace} {t : TypeId} (ht : P.underlying t = some (.int .i64)) (o : Value.okWide P W .any base t v) (h : DataW.Trod enc P W 0 (fun _ => true) true t v d p) :
    ∃ z : Int, v = .int .i64 z ∧ (-9223372036854775808 ≤ z ∧ z < 9223372036854775808) := by
  obtain ⟨a, rfl, rfl, rfl, wa⟩ := open_int ht o h
  have := bounds_i64 wa
  exact ⟨a, rfl, by omega⟩
/-- a recurrence with one element changed -/
def Ms.chg (lc : List (BitVec 32)) (k : Nat) (x : BitVec 32) : List (BitVec 32) := Po.mk lc.length fun i => if i = k then Po.cf lc i ^^^ x else Po.cf lc i
theorem Ms.chg_not {lc l : List (BitVec 32)} {k n L : Nat} {x : BitVec 32} (hL : Ms.Least (Po.cf l) n L) (hr : Ms.Rec lc L (Po.cf l) n) (h2 : 2 * L ≤ n) (hk : k < lc.length) (hx : x ≠ 0) : ¬ Ms.Rec (Ms.chg lc k x) L (Po.cf l) n := fun h => by
  have e := congrFun (Ms.Rec.unique hL hr h h2) k
  rw [Ms.chg, Po.cf_mk, if_pos hk, if_pos rfl] at e
  apply hx
  have := congrArg (Po.cf lc k ^^^ ·) e
  simp only [← BitVec.xor_assoc, BitVec.xor_self, BitVec.zero_xor] at this
  exact this.symm
theorem words_put {T : TypeId} {w : World} {g n : Nat} {cs : Array Value} {l : List (BitVec 32)} {k : Nat} {x : BitVec 32} (hh : Has w g T cs) (h : Words32 w (some ⟨g, 0, none⟩) n l) :
    Words32 (w.setCell ⟨g, k, none⟩ (.int .u32 (nb32 (l.getD k 0 ^^^ x)))) (some ⟨g, 0, none⟩) n (Ms.chg l k x) := by
  obtain ⟨hl, hm, hc⟩ := h
  refine ⟨by rw [Ms.chg, Po.mk_length]; exact hl, hm, fun i hi => ⟨_, rfl, ?_⟩⟩
  obtain ⟨y, e, hy⟩ := hc i hi
  injection e with e
  subst e
  rw [Addr.add_mid, Nat.zero_add, hh.cell] at hy
  rw [Addr.add_mid, Nat.zero_add, (hh.put k _).cell, Array.getElem?_setIfInBounds]
  have hcf : (Ms.chg l k x).getD i 0 = if i = k then Po.cf l i ^^^ x else Po.cf l i := by
    have := Po.cf_mk l.length (fun i => if i = k then Po.cf l i ^^^ x else Po.cf l i) i
    rw [if_pos (by omega)] at this
    exact this
  rw [hcf]
  have hi2 := (Array.getElem?_eq_some_iff.1 hy).1
  by_cases e : k = i
  · subst e
    rw [if_pos rfl, if_pos hi2, if_pos rfl]
    rfl
  · rw [if_neg e, if_neg (fun h => e h.symm), hy]
    rfl
set_option maxHeartbeats 4000000 in
set_option maxRecDepth 100000 in
theorem masseyOneWalk {H : Type} {enc : TypeId × Value → H} (W : World) (base : Nat) (v0 : Value) (d0 : DataW H) (p0 : List MemPlace) (v1 : Value) (d1 : DataW H) (p1 : List MemPlace) (v2 : Value) (d2 : DataW H) (p2 : List MemPlace)
    (o0 : Value.okWide Try.prog W .any base 22 v0) (o1 : Value.okWide Try.prog W .any base 3 v1) (o2 : Value.okWide Try.prog W .any base 29 v2)
    (h0 : DataW.Trod enc Try.prog W 0 (fun _ => true) true 22 v0 d0 p0) (h1 : DataW.Trod enc Try.prog W 0 (fun _ => true) true 3 v1 d1 p1) (h2 : DataW.Trod enc Try.prog W 0 (fun _ => true) true 29 v2 d2 p2) :
    Calls Try.prog 6 #[v0, v1, v2] W fun e w' => e = .returned (.bool true) ∧ Below W.heap.size W w' := by
  obtain ⟨a0, n0, c0, l0, rfl, w0, m0, z0⟩ := arg_wordsc Try.underlying22 Try.underlying29 (by kernel_rfl) o0 h0
  obtain ⟨z1, rfl, b1⟩ := arg_int Try.underlying3 o1 h1
  obtain ⟨a2, rfl⟩ := arg_u32 Try.underlying29 o2 h2
  have hl0 := w0.1
  by_cases h40 : 40 < n0
  · have h40' : (40 : Int) < (n0 : Int) := by omega
    go_enter Try.func6, Try.ntmps6
    go_wp2_with (first
      | (go_at_call 8; refine (alive03 _).mono ?_; rintro e w1 ⟨rfl, hb1⟩))
    go_ret
    exact ⟨rfl, hb1⟩
  · have h40' : ¬ (40 : Int) < (n0 : Int) := by omega
    by_cases hz : a2 = 0
    · have hzb : (a2 == 0#32) = true := by rw [hz]; rfl
      clear hz
      go_enter Try.func6, Try.ntmps6
      go_wp2_with (first
        | (go_at_call 8; refine (alive03 _).mono ?_; rintro e w1 ⟨rfl, hb1⟩))
      go_ret
      exact ⟨rfl, hb1⟩
    · have hzb : (a2 == 0#32) = false := by simpa using hz
      obtain ⟨L, hL, hLn⟩ := Ms.Least.ofn (Po.cf l0) n0
      have HL := Lib.hid (And.intro hL hz)
      clear hL hz
      have hk0 : n0 ≤ 1000000 := by omega
      have hK0 : L + 1 ≤ 1000000 := by omega
      have hL0 : (0 : Int) ≤ (L : Int) := by omega
      have hw2 : IntKind.i64.wrap (2 * (L : Int)) = 2 * (L : Int) := IntWalk.i64_in _ (by omega)
      by_cases h1 : L < 1 ∨ n0 < 2 * L
      · by_cases h3 : L < 1
        · have h3' : (L : Int) < 1 := by omega
          clear h1
          go_enter Try.func6, Try.ntmps6
          go_wp2_with (first
            | (go_at_call 8; refine (alive03 _).mono ?_; rintro e w1 ⟨rfl, hb1⟩)
            | (go_at_call 9; refine (shortest_any a0 n0 c0 L l0 _ (w0.below hb1) m0 hk0 HL.out.1).mono ?_; rintro e w3 ⟨⟨v, lc, rfl, hv, hlc, hrc⟩, hb3⟩; obtain ⟨va, vc, rfl, hvc, hvw⟩ := fresh_shape hv hlc))
          go_ret
          exact ⟨rfl, hb1.trans (hb3.mono hb1.size)⟩
        · have h3' : ¬ (L : Int) < 1 := by omega
          have h4 : (n0 : Int) < 2 * (L : Int) := by omega
          clear h1
          go_enter Try.func6, Try.ntmps6
          go_wp2_with (first
            | (go_at_call 8; refine (alive03 _).mono ?_; rintro e w1 ⟨rfl, hb1⟩)
            | (go_at_call 9; refine (shortest_any a0 n0 c0 L l0 _ (w0.below hb1) m0 hk0 HL.out.1).mono ?_; rintro e w3 ⟨⟨v, lc, rfl, hv, hlc, hrc⟩, hb3⟩; obtain ⟨va, vc, rfl, hvc, hvw⟩ := fresh_shape hv hlc))
          go_ret
          exact ⟨rfl, hb1.trans (hb3.mono hb1.size)⟩
      · have h3' : ¬ (L : Int) < 1 := by omega
        have h4 : ¬ (n0 : Int) < 2 * (L : Int) := by omega
        have h5 : 2 * L ≤ n0 := by omega
        obtain ⟨u, hu⟩ : ∃ u : Nat, IntKind.u64.wrap z1 = (u : Int) := ⟨(IntKind.u64.wrap z1).toNat, by rw [Int.toNat_of_nonneg]; rw [IntKind.wrap_u64]; omega⟩
        have huL : IntKind.u64.wrap (L : Int) = (L : Int) := by rw [IntKind.wrap_u64]; omega
        have hrem : ∀ t, binOp .rem t (.int .u64 (u : Int)) (.int .u64 (L : Int)) = pure (.int .u64 ((u % L : Nat) : Int)) := fun t => by rw [binOp_rem]; exact rem_nat _ u L (by omega)
        have hpL : u % L < L := Nat.mod_lt _ (by omega)
        obtain ⟨t, ht⟩ : ∃ t, t = 1 + u % L := ⟨_, rfl⟩
        have hti : (1 : Int) + (u : Int) % (L : Int) = (t : Int) := by rw [ht, Int.natCast_add, Int.natCast_emod]; rfl
        have htL : t < L + 1 := by omega
        have htL' : (t : Int) < (L : Int) + 1 := by omega
        have ht0 : (0 : Int) ≤ (t : Int) := by omega
        clear h1 ht
        go_enter Try.func6, Try.ntmps6
        go_wp2_with (first
          | (go_at_call 8; refine (alive03 _).mono ?_; rintro e w1 ⟨rfl, hb1⟩)
          | (go_at_call 9; refine (shortest_any a0 n0 c0 L l0 _ (w0.below hb1) m0 hk0 HL.out.1).mono ?_; rintro e w3 ⟨⟨v, lc, rfl, hv, hlc, hrc⟩, hb3⟩; obtain ⟨va, vc, rfl, hvc, hvw⟩ := fresh_shape hv hlc; have hB3 := hb1.trans (hb3.mono hb1.size); obtain ⟨g, cs, rfl, hg, hh, hcs⟩ := hv.buf.open (Nat.succ_pos L); obtain ⟨y, ey, hcl⟩ := hvw.2.2 t htL; injection ey with ey; subst ey; rw [Addr.add_mid, Nat.zero_add] at hcl; have hlo := hh.loose t; have hwp := words_put (k := t) (x := a2) hh hvw; have hB4 := hB3.setCell (p := ⟨g, t, none⟩) (Nat.le_trans hb1.size hg) (.int .u32 (nb32 (lc.getD t 0 ^^^ a2))); obtain ⟨x, hx⟩ : ∃ x, x = lc.getD t 0 := ⟨_, rfl⟩; rw [← hx] at hcl hwp hB4; clear hx)
          | (go_at_call 13; refine (keeps_any _ a0 (L + 1) vc n0 c0 (Ms.chg lc t a2) l0 _ hwp (w0.below hB4) m0 hK0 hk0 false ⟨fun e => Bool.noConfusion e, fun h => (Ms.chg_not HL.out.1 hrc h5 (by rw [hlc]; exact htL) HL.out.2 h.2).elim⟩).mono ?_; rintro e w5 ⟨rfl, hb5⟩))
        go_ret
        exact ⟨rfl, hB4.trans (hb5.mono hB4.size)⟩
end Go.Proofs.Ytmjboiaopihjeaa
