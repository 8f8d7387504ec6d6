/- package pack: a reader; Read, fail, take -/
import Derived.Test.YtpbijcchdjppmaaPkH
import Derived.Test.YtpbijcchdjppmaaPkF
import Derived.Test.YtpbijcchdjppmaaPkO
import Derived.Test.YtpbijcchdjppmaaAg
namespace Go.Proofs.Ytpbijcchdjppmaa
open Go Go.RowKit Go.ChangeShapes Go.WideShapes
/-- a reader at block g whose bytes lie in block r: what is left is s -/
def InC (w : World) (g : Nat) (r : Option Nat) (s : Pk.Rd) : Prop := match s with
  | none => Has w g 98 #[.slice none 0 0, .bool true]
  | some l => ∃ a n c, Has w g 98 #[.slice a n c, .bool false] ∧ Bytes8 w a n l ∧ n ≤ c ∧ (a = none → c = 0) ∧ (∀ x, a = some x → r = some x.block)
def InS (w : World) (g : Nat) (r : Option Nat) (s : Pk.Rd) : Prop := (∀ k, r = some k → k ≠ g ∧ k < w.heap.size) ∧ InC w g r s
abbrev inF (g : Nat) : Nat → Prop := fun k => k = g
theorem InS.has {w : World} {g : Nat} {r : Option Nat} {s : Pk.Rd} (h : InS w g r s) : ∃ a n c b, Has w g 98 #[.slice a n c, .bool b] ∧ Bytes8 w a n (Pk.left s) ∧ n ≤ c ∧ (a = none → c = 0) ∧ b = s.isNone := by
  obtain ⟨_, h⟩ := h
  cases s with
  | none => exact ⟨_, _, _, _, h, bytes_none w, Nat.le_refl _, fun _ => rfl, rfl⟩
  | some l =>
    obtain ⟨a, n, c, h1, h2, h3, h4, _⟩ := h
    exact ⟨a, n, c, false, h1, h2, h3, h4, rfl⟩
theorem InS.moved {w w' : World} {g : Nat} {r : Option Nat} {s : Pk.Rd} {F : Nat → Prop} (h : InS w g r s) (hm : Moved F w w') (hg : ¬ F g) (hr : ∀ k, r = some k → ¬ F k) : InS w' g r s := by
  refine ⟨fun k e => ⟨(h.1 k e).1, Nat.lt_of_lt_of_le (h.1 k e).2 hm.size⟩, ?_⟩
  obtain ⟨_, h⟩ := h
  cases s with
  | none => exact Has.moved h hm hg
  | some l =>
    obtain ⟨a, n, c, h1, h2, h3, h4, h5⟩ := h
    exact ⟨a, n, c, h1.moved hm hg, h2.moved hm (fun _ y e => hr _ (h5 y e)), h3, h4, h5⟩
theorem InS.below {w w' : World} {g : Nat} {r : Option Nat} {s : Pk.Rd} (h : InS w g r s) (hb : Below w.heap.size w w') : InS w' g r s := h.moved (F := fun _ => False) (Moved.of_below hb) (fun e => e) (fun _ _ e => e)
/-- behind a call that reads -/
def InPost {α : Type} (enc : α → Value) (g : Nat) (r : Option Nat) (p : Pk.Rd × α) (w0 : World) (e : Ending) (w' : World) : Prop := e = .returned (enc p.2) ∧ InS w' g r p.1 ∧ Moved (inF g) w0 w'
theorem inPut (g : Nat) (w : World) (u : Value) : Moved (inF g) w (w.setCell ⟨g, 0, none⟩ u) := (Moved.refl (inF g) w).put (g := g) (.inl (show g = g from rfl)) 0 u
theorem size_pin : (Try.prog.info? 98).map (·.size) = some 2 := by kernel_rfl
theorem pin_one (v b : Value) (hv : v.oneCell' = true) (hb : b.oneCell' = true) : (#[v, b] : Array Value).all (·.oneCell') = true := by simp [hv, hb]
theorem fail_none (w : World) : Calls Try.prog 58 #[.pointer none] w fun e w' => (∃ u, e = .returned u) ∧ w = w' := by
  go_enter Try.func58, Try.ntmps58
  go_wp2
  go_end0
  exact ⟨⟨_, rfl⟩, rfl⟩
/-- behind fail -/
def FailPost (g : Nat) (r : Option Nat) (w0 : World) (e : Ending) (w' : World) : Prop := (∃ u, e = .returned u) ∧ InS w' g r none ∧ Moved (inF g) w0 w'
set_option maxHeartbeats 4000000 in
theorem fail_any (g : Nat) (r : Option Nat) (s : Pk.Rd) (w : World) (h : InS w g r s) : Calls Try.prog 58 #[.pointer (some ⟨g, 0, none⟩)] w (FailPost g r w) := by
  obtain ⟨a, n, c, b, h1, _⟩ := h.has
  have hth := h1.there 0 2 (Nat.le_refl _)
  have hr := h.1
  have HR := Lib.hid hr
  clear hr
  have hE := Lib.hid (h1.whole_cs (cs2 := #[.slice none 0 0, .bool true]) rfl)
  have hM := Lib.hid (Moved.putAll (F := inF g) (a := w) (g := g) (.inl rfl) (#[Value.slice none 0 0, .bool true] : Array Value).toList 0 (Moved.refl _ _))
  clear h h1
  go_enter Try.func58, Try.ntmps58
  go_wp2_with (refine wpList_store_mid rfl 98 (.tmp 6) (.tmp 5) rfl g 0 #[.slice none 0 0, .bool true] rfl rfl hth size_pin (pin_one _ _ rfl rfl) ?_)
  go_end0
  exact ⟨⟨_, rfl⟩, ⟨fun k e => ⟨(HR.out k e).1, Nat.lt_of_lt_of_le (HR.out k e).2 hM.out.size⟩, hE.out⟩, hM.out⟩
/-- n bytes off a reader -/
def Pk.rdTake (s : Pk.Rd) (n : Nat) : Pk.Rd × List (BitVec 8) := match s with
  | none => (none, [])
  | some B => if n ≤ B.length then (some (B.drop n), B.take n) else (none, [])
def TakePost (g : Nat) (r : Option Nat) (p : Pk.Rd × List (BitVec 8)) (w0 : World) (e : Ending) (w' : World) : Prop :=
  (∃ a n c, e = .returned (.slice a n c) ∧ Bytes8 w' a n p.2 ∧ (a = none → c = 0)) ∧ InS w' g r p.1 ∧ Moved (inF g) w0 w'
theorem take_none (n : Int) (w : World) : Calls Try.prog 62 #[.pointer none, .int .i64 n] w fun e w' => e = .returned (.slice none 0 0) ∧ w = w' := by
  go_enter Try.func62, Try.ntmps62
  go_wp2
  go_ret
  exact ⟨rfl, rfl⟩
set_option maxHeartbeats 4000000 in
theorem take_few (g : Nat) (r : Option Nat) (s : Pk.Rd) (n : Nat) (w : World) (h : InS w g r s) (hn : (Pk.left s).length < n) : Calls Try.prog 62 #[.pointer (some ⟨g, 0, none⟩), .int .i64 n] w (TakePost g r (none, []) w) := by
  obtain ⟨a, k, c, b, h1, h2, _⟩ := h.has
  have c0 : w.cell? ⟨g, 0, none⟩ = some (.slice a k c) := h1.cell_at rfl
  have hkn : (k : Int) < (n : Int) := by have := h2.1; omega
  have HF := Lib.hid (fail_any g r s w h)
  clear h h1 h2 hn
  go_enter Try.func62, Try.ntmps62
  go_wp2_with (go_at_call 58; refine HF.out.mono ?_; rintro e w1 ⟨⟨u1, rfl⟩, hi1, hm1⟩)
  go_ret
  exact ⟨⟨_, _, _, rfl, bytes_none _, fun _ => rfl⟩, hi1, hm1⟩
set_option maxHeartbeats 4000000 in
theorem take_cells (g : Nat) (a : Option Addr) (k c : Nat) (b : Bool) (n : Nat) (w : World) (h1 : Has w g 98 #[.slice a k c, .bool b]) (hn : n ≤ k) (hc : k ≤ c) (ha : a = none → c = 0) (hk0 : k ≤ maxLen) :
    Calls Try.prog 62 #[.pointer (some ⟨g, 0, none⟩), .int .i64 n] w fun e w' => e = .returned (.slice a n c) ∧ w' = w.setCell ⟨g, 0, none⟩ (if c = n then .slice a (k - n) (c - n) else .slice (a.map (·.add n)) (k - n) (c - n)) := by
  have c0 : w.cell? ⟨g, 0, none⟩ = some (.slice a k c) := h1.cell_at rfl
  have f0 : w.frozen? ⟨g, 0, none⟩ = false := h1.loose 0
  have hkn : ¬ (k : Int) < (n : Int) := by omega
  have hk := hk0
  unfold maxLen at hk
  by_cases hcn : c = n
  · subst hcn
    have hkc : k = c := by omega
    subst hkc
    clear h1
    go_enter Try.func62, Try.ntmps62
    go_wp2
    go_ret
    exact ⟨rfl, rfl⟩
  · cases a with
    | none => exact absurd (ha rfl) (by have := ha rfl; omega)
    | some x =>
      have hcn2 : ¬ ((c : Int) = n) := by omega
      clear h1 ha
      go_enter Try.func62, Try.ntmps62
      go_wp2
      go_ret
      exact ⟨rfl, rfl⟩
set_option maxHeartbeats 4000000 in
theorem take_any (g : Nat) (r : Option Nat) (s : Pk.Rd) (n : Nat) (w : World) (h : InS w g r s) : Calls Try.prog 62 #[.pointer (some ⟨g, 0, none⟩), .int .i64 n] w (TakePost g r (Pk.rdTake s n) w) := by
  by_cases hn : (Pk.left s).length < n
  · have e : Pk.rdTake s n = (none, []) := by
      cases s with
      | none => rfl
      | some B =>
        show (if n ≤ B.length then _ else _) = _
        rw [if_neg (by simpa [Pk.left] using hn)]
    rw [e]
    exact take_few g r s n w h hn
  · cases s with
    | none =>
      have h0 : n = 0 := by simpa [Pk.left] using hn
      subst h0
      refine (take_cells g none 0 0 true 0 w h.2 (Nat.le_refl _) (Nat.le_refl _) (fun _ => rfl) (by unfold maxLen; omega)).mono ?_
      rintro e w' ⟨rfl, rfl⟩
      rw [if_pos rfl]
      refine ⟨⟨_, _, _, rfl, bytes_none _, fun _ => rfl⟩, ?_, inPut _ _ _⟩
      exact ⟨fun k e => ⟨(h.1 k e).1, Nat.lt_of_lt_of_le (h.1 k e).2 (inPut g w (.slice none 0 0)).size⟩, Has.put (show Has w g 98 _ from h.2) 0 _⟩
    | some B =>
      obtain ⟨h6, a, k, c, h1, h2, h3, h4, h5⟩ := h
      have hk : n ≤ k := by have := h2.1; simp [Pk.left] at hn; omega
      have e : Pk.rdTake (some B) n = (some (B.drop n), B.take n) := by
        show (if n ≤ B.length then _ else _) = _
        rw [if_pos (by simpa [Pk.left] using hn)]
      rw [e]
      refine (take_cells g a k c false n w h1 hk h3 h4 h2.2.1).mono ?_
      rintro e w' ⟨rfl, rfl⟩
      have hm : ∀ u, Moved (inF g) w (w.setCell ⟨g, 0, none⟩ u) := fun u => inPut g w u
      have hB : ∀ u, Bytes8 (w.setCell ⟨g, 0, none⟩ u) a k B := fun u => h2.moved (hm u) (fun _ y e => (h6 _ (h5 y e)).1)
      have hT : ∀ u, Bytes8 (w.setCell ⟨g, 0, none⟩ u) a n (B.take n) := fun u => by
        refine ⟨by rw [List.length_take, h2.1]; omega, by have := h2.2.1; omega, fun i hi => ?_⟩
        obtain ⟨y, hy, hc⟩ := (hB u).2.2 i (by omega)
        refine ⟨y, hy, hc.trans ?_⟩
        congr 3
        unfold cb
        rw [List.getD_eq_getElem?_getD, List.getD_eq_getElem?_getD, List.getElem?_take, if_pos hi]
      refine ⟨⟨_, _, _, rfl, hT _, h4⟩, ⟨fun k e => ⟨(h6 k e).1, Nat.lt_of_lt_of_le (h6 k e).2 (hm _).size⟩, ?_⟩, hm _⟩
      by_cases hc : c = n
      · rw [if_pos hc]
        refine ⟨a, k - n, c - n, h1.put 0 _, ?_, by omega, fun e => by rw [h4 e]; omega, h5⟩
        exact ⟨by rw [List.length_drop, h2.1], by have := h2.2.1; omega, fun i hi => by omega⟩
      · rw [if_neg hc]
        cases a with
        | none => exact absurd (h4 rfl) (by have := h4 rfl; omega)
        | some x =>
          exact ⟨some (x.add n), k - n, c - n, h1.put 0 _, bytes_from (hB _) n, by omega, (fun e => by cases e), (fun y e => by injection e with e; subst e; rw [block_add]; exact h5 x rfl)⟩
end Go.Proofs.Ytpbijcchdjppmaa
