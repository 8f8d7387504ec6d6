/- a buffer and the bytes that it ought to hold, side by side; bytes of one's own turned; what putting a thing puts -/
import Derived.Test.YtndcpclichpkaaaPkU
import Derived.Test.YtndcpclichpkaaaPkX
import Derived.Test.YtndcpclichpkaaaSm
namespace Go.Proofs.Ytndcpclichpkaaa
open Go Go.RowKit Go.ChangeShapes Go.WideShapes
/-- a buffer and a slice of one's own apart from it -/
def Both (B : Nat) (w : World) (g : Nat) (v wv : Value) (l m : List (BitVec 8)) : Prop := OutS B w g v l ∧ OwnB 5 B w wv m ∧ (∀ k, v.ownBlock = some k → wv.ownBlock ≠ some k)
section
variable {B g : Nat} {w w1 w2 : World} {v v2 wv wv2 : Value} {l l2 m m2 : List (BitVec 8)}
theorem OutS.below (h : OutS B w g v l) (hb : Below w.heap.size w w1) : OutS B w1 g v l := ⟨h.1.under hb h.1.lt, h.2.below hb⟩
theorem OutS.moved {F : Nat → Prop} (h : OutS B w g v l) (hm : Moved F w w1) (hg : ¬ F g) (hv : ∀ k, v.ownBlock = some k → ¬ F k) : OutS B w1 g v l := ⟨h.1.moved hm hg, h.2.moved hm hv⟩
theorem Both.below (h : Both B w g v wv l m) (hb : Below w.heap.size w w1) : Both B w1 g v wv l m := ⟨h.1.below hb, h.2.1.below hb, h.2.2⟩
theorem Both.put (h : Both B w g v wv l m) (ho : OutS B w1 g v2 l2) (hm : Moved (outF g v) w w1) (hl : Lies w v v2) : Both B w1 g v2 wv l2 m := by
  have hg := h.2.1.apart h.1.1 (by rfl)
  refine ⟨ho, h.2.1.moved hm (fun k e hf => hf.elim (hg k e) (fun e' => h.2.2 k e' e)), fun k e e' => ?_⟩
  rcases hl k e with h1 | h1
  · exact h.2.2 k h1 e'
  · have := (h.2.1.lt_size k e').2
    omega
theorem Both.add (h : Both B w g v wv l m) (hg : w.grownBy w2 wv.ownBlock) (ho : OwnB 5 B w2 wv2 m2) (hl : Lies w wv wv2) : Both B w2 g v wv2 l m2 := by
  have hgw := h.2.1.apart h.1.1 (by rfl)
  refine ⟨h.1.moved (F := fun k => wv.ownBlock = some k) (Moved.of_grown hg (fun _ e => e)) (fun e => hgw _ e rfl) (fun k e e' => h.2.2 k e e'), ho, fun k e e' => ?_⟩
  rcases hl k e' with h1 | h1
  · exact h.2.2 k e h1
  · have := (h.1.2.lt_size k e).2
    omega
/-- one byte of one's own turned -/
theorem ownB_put {T : TypeId} {k n c i : Nat} {b : BitVec 8} (h : OwnB T B w (.slice (some ⟨k, 0, none⟩) n c) l) : OwnB T B (w.setCell ⟨k, i, none⟩ (.int .u8 (nb8 b))) (.slice (some ⟨k, 0, none⟩) n c) (l.set i b) := by
  obtain ⟨hl, ⟨e, _⟩ | ⟨q, cap, cur, e, hB, hh, hn, hm, hc, ht⟩⟩ := h
  · cases e
  · injection e with e1 e2 e3
    injection e1 with e1
    injection e1 with e1
    subst e1
    refine ⟨by rw [blist_length, List.length_set, Nat.mul_one], .inr ⟨k, cap, cur.setIfInBounds i (.int .u8 (nb8 b)), by rw [e2, e3, List.length_set], hB, (show Has w k T cur from hh).put i _, by rw [List.length_set]; exact hn, hm, by rw [Array.size_setIfInBounds]; exact hc, ?_⟩⟩
    rw [Nat.mul_one] at ht ⊢
    rw [List.length_set, Array.toList_setIfInBounds, List.take_set, ht]
    unfold blist
    rw [List.map_set]
end
@[go_sem high] theorem u8_xor_one (t : TypeId) (x : BitVec 8) : binOp .xor t (.int .u8 (nb8 x)) (.int .u8 1) = pure (.int .u8 (nb8 (x ^^^ 1#8))) := by
  rw [binOp_xor, intBits_xor]; show pure (Value.int .u8 (IntKind.u8.wrap (((BitVec.ofInt 8 (nb8 x) ^^^ BitVec.ofInt 8 (1 : Int)).toNat : Nat) : Int))) = _
  have e1 : BitVec.ofInt 8 (nb8 x) = x := by simp only [nb8, BitVec.ofInt_natCast, BitVec.ofNat_toNat, BitVec.setWidth_eq]
  have e2 : ∀ y : BitVec 8, IntKind.u8.wrap (y.toNat : Int) = nb8 y := fun y => by
    have := y.isLt
    rw [IntKind.wrap_u8]; simp only [nb8]; omega
  rw [e1, e2]
  rfl
/-- what putting a thing puts -/
def Pk.putT (t : Pk.Th) : List (BitVec 8) := if t.kind = 0 then Pk.num t.n t.size else if t.kind = 1 then Pk.count t.size else if t.kind = 2 then Pk.text t.s else t.h
theorem num_len (x : BitVec 64) (z : Int) : (Pk.num x z).length ≤ 8 := by
  unfold Pk.num
  split
  · rename_i h
    rw [Pk.le_len]
    unfold Pk.okSize at h
    omega
  · simp
theorem putT_len {t : Pk.Th} (hs : t.s.length ≤ 3000) (hh : t.h.length = 32) : (Pk.putT t).length ≤ 4000 := by
  unfold Pk.putT
  have h1 := num_len t.n t.size
  have h2 := Pk.count_le t.size
  have h3 : (Pk.text t.s).length ≤ 3009 := by
    unfold Pk.text
    rw [List.length_append]
    have := Pk.count_le t.s.length
    omega
  split
  · omega
  · split
    · omega
    · split
      · omega
      · omega
end Go.Proofs.Ytndcpclichpkaaa
