/- a drawn region, taken by hand: what is held may grow on the way -/
import Derived.Test.YtpbijcchdjppmaaBb
import Derived.Deep.RegionHeld3
namespace Go.Proofs.Ytpbijcchdjppmaa
open Go Go.RowKit Go.ChangeShapes Go.WideShapes
theorem wpAnyH_mono {P : Program} {ops : Array Oper} {Q : Exit → Act → World → Prop} {md : Region.Mode} {S S' : World → Prop} (hSS : ∀ w, S' w → S w) : ∀ {fuel : Nat} {listed : Array Bool} {a : Act} {w : World}, wpAnyH P md ops Q S' fuel listed a w → wpAnyH P md ops Q S fuel listed a w
  | 0, _, _, _, h => h
  | _ + 1, _, _, _, h => And.intro h.1 (fun i hi => wpOp_mono (fun _ _ g => And.intro (hSS _ g.1) (wpAnyH_mono hSS g.2)) (h.2 i hi))
/-- what is held: all that lies in w -/
def Held (w0 : World) (w : World) : Prop := Below w0.heap.size w0 w
theorem Held.refl (w : World) : Held w w := Below.refl _ _
theorem Held.trans {w0 w1 w2 : World} (h : Held w0 w1) (g : Held w1 w2) : Held w0 w2 := Below.trans h (Below.mono g h.size)
theorem Held.below {w0 w1 : World} (h : Held w0 w1) : Below w0.heap.size w0 w1 := h
theorem Held.of {w0 w1 : World} (h : Below w0.heap.size w0 w1) : Held w0 w1 := h
theorem held_grow {P : Program} {ops : Array Oper} {Q : Exit → Act → World → Prop} {md : Region.Mode} {w0 w1 : World} (h : Held w0 w1) {fuel : Nat} {listed : Array Bool} {a : Act} {w : World} (g : wpAnyH P md ops Q (Held w1) fuel listed a w) : wpAnyH P md ops Q (Held w0) fuel listed a w :=
  wpAnyH_mono (fun _ k => h.trans k) g
/-- what is held: all that lies in w, but for block k -/
def HeldX (k : Nat) (w0 : World) (w : World) : Prop := w0.heap.size ≤ w.heap.size ∧ ∀ j, j < w0.heap.size → j ≠ k → w.heap[j]? = w0.heap[j]?
theorem HeldX.refl (k : Nat) (w : World) : HeldX k w w := ⟨Nat.le_refl _, fun _ _ _ => rfl⟩
theorem HeldX.trans {k : Nat} {w0 w1 w2 : World} (h : HeldX k w0 w1) (g : HeldX k w1 w2) : HeldX k w0 w2 := ⟨Nat.le_trans h.1 g.1, fun j hj hk => (g.2 j (Nat.lt_of_lt_of_le hj h.1) hk).trans (h.2 j hj hk)⟩
theorem HeldX.of {k : Nat} {w0 w1 : World} (h : Below w0.heap.size w0 w1) : HeldX k w0 w1 := ⟨h.size, fun j hj _ => h.block j hj⟩
theorem HeldX.put {k : Nat} {w0 w1 : World} (h : w0.grownBy w1 (some k)) : HeldX k w0 w1 := ⟨h.size, fun j hj hk => h.block j hj (fun e => hk (by injection e))⟩
theorem HeldX.bytes {k : Nat} {w w' : World} {a : Option Addr} {n : Nat} {l : List (BitVec 8)} (hb : HeldX k w w') (h : Bytes8 w a n l) (hne : 0 < n → ∀ x, a = some x → x.block ≠ k) : Bytes8 w' a n l := by
  refine ⟨h.1, h.2.1, fun i hi => ?_⟩
  obtain ⟨x, rfl, hx⟩ := h.2.2 i hi
  have hlt : (x.add i).block < w.heap.size := isSome_lt (by rw [hx]; rfl)
  have hk : (x.add i).block ≠ k := by
    have := hne (by omega) x rfl
    unfold Addr.add
    split <;> exact this
  exact ⟨x, rfl, by rw [World.cell?_of_block (w := w) (hb.2 _ hlt hk)]; exact hx⟩
theorem heldx_grow {P : Program} {ops : Array Oper} {Q : Exit → Act → World → Prop} {md : Region.Mode} {k : Nat} {w0 w1 : World} (h : HeldX k w0 w1) {fuel : Nat} {listed : Array Bool} {a : Act} {w : World} (g : wpAnyH P md ops Q (HeldX k w1) fuel listed a w) : wpAnyH P md ops Q (HeldX k w0) fuel listed a w :=
  wpAnyH_mono (fun _ q => h.trans q) g
theorem put_dst {l l2 : List Value} {ds : List _} {d : Nat} {v : Value} (hl : l.set d v = l2) : ((⟨l.toArray, ds⟩ : Act).put (some d) v) = ⟨l2.toArray, ds⟩ := by
  subst hl
  simp [Act.put]
/-- one that yields whatever came up before: the slot d written out -/
theorem take_at {P : Program} {ops : Array Oper} {Q : Exit → Act → World → Prop} {md : Region.Mode} {S : World → Prop} {oi : Oper} {v : Value} {fuel : Nat} {listed : Array Bool} {l l2 : List Value} {ds : List _} {w : World} (i d : Nat) (hi : ops[i]? = some oi) (hd : oi.dst = some d)
    (hs : Region.noSelect ops = true) (hf : Region.free md ops listed i = true) (hr : (Region.ready md ops listed).contains i = true)
    (hQ : ∀ c a w, Q (.panic c) (a.put oi.dst v) w → Q (.panic c) a w) (hS : S w) (hy : YieldsIf P ops S oi v ⟨l.toArray, ds⟩) (hl : l.set d v = l2)
    (h : wpAnyH P md ops Q S fuel (listed.setIfInBounds i true) ⟨l2.toArray, ds⟩ w) : wpAnyH P md ops Q S (fuel + 1) listed ⟨l.toArray, ds⟩ w :=
  wpAnyH_take hi hs hf hr hQ hy hS (by rw [hd, put_dst hl]; exact h)
end Go.Proofs.Ytpbijcchdjppmaa
