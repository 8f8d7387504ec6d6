/- package sketch: Put, New, Read, Capacity, Bytes, Empty, Further, Copy -/
import Derived.Test.YtamigcbodplmcaaSkC
import Derived.Test.YtamigcbodplmcaaSkR
namespace Go.Proofs.Ytamigcbodplmcaa
open Go Go.RowKit Go.ChangeShapes Go.WideShapes
theorem Words32.grown {w w' : World} {a : Option Addr} {n : Nat} {l : List (BitVec 32)} {row : Option Nat} (h : Words32 w a n l) (hg : w.grownBy w' row) (hr : 0 < n → ∀ x, a = some x → some x.block ≠ row) : Words32 w' a n l := by
  refine ⟨h.1, h.2.1, fun i hi => ?_⟩
  obtain ⟨x, rfl, hx⟩ := h.2.2 i hi
  exact ⟨x, rfl, hg.cell hx (by rw [show (x.add i).block = x.block from by unfold Addr.add; split <;> rfl]; exact hr (by omega) x rfl)⟩
/-- ids, added one by one -/
def Sk.addAll (l : List (BitVec 32)) : List (BitVec 32) → List (BitVec 32)
  | [] => l
  | x :: ids => Sk.addAll (Sk.addP l x l.length) ids
theorem Sk.addAll_len (l : List (BitVec 32)) : ∀ ids, (Sk.addAll l ids).length = l.length := by
  intro ids
  induction ids generalizing l with
  | nil => rfl
  | cons x ids ih => show (Sk.addAll (Sk.addP l x l.length) ids).length = _; rw [ih, Sk.addP_len]
theorem Sk.addAll_snoc (l : List (BitVec 32)) : ∀ (ids : List (BitVec 32)) (x : BitVec 32), Sk.addAll l (ids ++ [x]) = Sk.addP (Sk.addAll l ids) x l.length := by
  intro ids
  induction ids generalizing l with
  | nil => intro x; rfl
  | cons y ids ih => intro x; show Sk.addAll (Sk.addP l y l.length) (ids ++ [x]) = _; rw [ih, Sk.addP_len]; rfl
theorem Sk.addAll_cf (l : List (BitVec 32)) : ∀ (ids : List (BitVec 32)) (k : Nat), k < l.length → Po.cf (Sk.addAll l ids) k = Po.cf l k ^^^ Sk.ps ids (2 * k + 1) := by
  intro ids
  induction ids generalizing l with
  | nil => intro k _; exact (Po.xz _).symm
  | cons x ids ih =>
    intro k hk
    show Po.cf (Sk.addAll (Sk.addP l x l.length) ids) k = _
    rw [ih _ k (by rw [Sk.addP_len]; exact hk)]
    unfold Sk.addP
    rw [Po.cf_mk, if_pos hk, if_pos hk, BitVec.xor_assoc]
    rfl
theorem Sk.addAll_syn (cap : Nat) (ids : List (BitVec 32)) : Sk.addAll (Po.mk cap fun _ => 0) ids = Sk.syn cap ids := by
  refine Po.list_ext (by rw [Sk.addAll_len, Po.mk_length]; unfold Sk.syn; rw [Po.mk_length]) fun i hi => ?_
  rw [Sk.addAll_len] at hi
  rw [Sk.addAll_cf _ _ _ hi]
  rw [Po.mk_length] at hi
  unfold Sk.syn
  rw [Po.cf_mk, Po.cf_mk, if_pos hi, if_pos hi]
  exact Po.zx _
abbrev errOf (z : Int) : Value := .iface 35 (.int .i64 z)
set_option maxRecDepth 100000 in
set_option maxHeartbeats 4000000 in
theorem put_ok (B g ga K c : Nat) (l : List (BitVec 32)) (a : Option Addr) (n d : Nat) (ids : List (BitVec 32)) (w : World) (h : SkA B w g ga K c l) (hi : Words32 w a n ids) (hne : 0 < n → ∀ x, a = some x → x.block ≠ ga) (h0 : ¬ (0 : BitVec 32) ∈ ids) :
    Calls Try.prog 25 #[.pointer (some ⟨g, 0, none⟩), .slice a n d] w fun e w' => e = .returned .nilIface ∧ SkA B w' g ga K c (Sk.addAll l ids) ∧ w.grownBy w' (some ga) := by
  have hl := h.len
  have hil := hi.1
  have hmx : n ≤ 9223372036854775807 := hi.2.1
  have HN := Lib.hid hne
  have H0 := Lib.hid h0
  clear hne h0
  go_enter Try.func25, Try.ntmps25
  go_wp2_with (first
    | (go_at_call 39; refine (contains_any a n d ids 0#32 _ hi false ⟨fun e => (Bool.false_ne_true e).elim, fun e => (H0.out e).elim⟩).mono ?_; rintro e w1 ⟨rfl, rfl⟩))
  go_loopw [16] (fun iv wr => ∃ k : Nat, k ≤ n ∧ iv = .int .i64 k ∧ SkA B wr g ga K c (Sk.addAll l (ids.take k)) ∧ w.grownBy wr (some ga)) (fun iv _ => n - (intOf iv).toNat)
  case atStart => exact ⟨0, Nat.zero_le _, rfl, h, World.grownBy.refl _ _⟩
  case round =>
    obtain ⟨k, hk, rfl, hs, hg⟩ := hrel
    by_cases hlt : k < n
    · obtain ⟨ad, rfl, hx⟩ := (hi.grown hg (fun h0 x e => by have := HN.out h0 x e; exact fun g => this (by injection g))).2.2 k hlt
      obtain ⟨x, hxe⟩ : ∃ x, x = ids.getD k 0 := ⟨_, rfl⟩
      rw [← hxe] at hx
      have HX : RowKit.Hid (Sk.addAll l (ids.take (k + 1)) = Sk.addP (Sk.addAll l (ids.take k)) x K) := Lib.hid (by
        rw [Po.take_snoc (by omega), Sk.addAll_snoc, hl, hxe]; rfl)
      clear hxe
      go_wp2_with (first
        | (go_at_call 40; refine (sadd_any B g ga K c _ x _ hs).mono ?_; rintro e w2 ⟨⟨v, rfl⟩, hs2, hg2⟩))
      go_roundw
      case rel => exact ⟨k + 1, by omega, by go_num, by rw [HX.out]; exact hs2, hg.trans hg2⟩
      case measure => (simp [intOf]; try omega)
    · have hii : ¬ (k : Int) < (n : Int) := by omega
      have hti : ids.take k = ids := List.take_of_length_le (by omega)
      rw [hti] at hs
      clear hti
      go_wp2
      go_ret
      exact ⟨rfl, hs, hg⟩
theorem put_no (g : Nat) (a : Option Addr) (n d : Nat) (ids : List (BitVec 32)) (w : World) (hi : Words32 w a n ids) (h0 : (0 : BitVec 32) ∈ ids) :
    Calls Try.prog 25 #[.pointer (some ⟨g, 0, none⟩), .slice a n d] w fun e w' => e = .returned (errOf 1) ∧ w = w' := by
  have H0 := Lib.hid h0
  clear h0
  go_enter Try.func25, Try.ntmps25
  go_wp2_with (first
    | (go_at_call 39; refine (contains_any a n d ids 0#32 _ hi true ⟨fun _ => H0.out, fun _ => rfl⟩).mono ?_; rintro e w1 ⟨rfl, rfl⟩))
  go_ret
  exact ⟨rfl, rfl⟩
theorem put_nil (v : Value) (w : World) :
    Calls Try.prog 25 #[.pointer none, v] w fun e w' => e = .returned (errOf 1) ∧ w = w' := by
  go_enter Try.func25, Try.ntmps25
  go_wp2
  go_ret
  exact ⟨rfl, rfl⟩
end Go.Proofs.Ytamigcbodplmcaa
