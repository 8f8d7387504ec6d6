/- A cell of a record written, in a slice of one's own. Nothing of the program. -/
import Derived.Test.YtcedecljbgailaaDoorLz
namespace Go.Proofs.YtcedecljbgailaaDoor
open Go Go.RowKit Go.ChangeShapes Go.WideShapes
section
variable {α : Type} {R : Rec α}
theorem Rec.row_set {s' : α} {j : Nat} {x : Value} (hj : j < R.k) : ∀ {L : List α} (_ : ∀ t, t ∈ L → R.ok t) (i : Nat) (s : α), L[i]? = some s → R.cells s' = (R.cells s).set j x → R.row (L.set i s') = (R.row L).set (i * R.k + j) x
  | [], _, i, s, hi, _ => by simp at hi
  | u :: L, h, 0, s, hi, hx => by
    obtain rfl : u = s := by simpa using hi
    have h1 := R.len u (h u List.mem_cons_self)
    show R.cells s' ++ R.row L = (R.cells u ++ R.row L).set (0 * R.k + j) x
    rw [Nat.zero_mul, Nat.zero_add, List.set_append_left _ _ (by omega), hx]
  | u :: L, h, i + 1, s, hi, hx => by
    have h1 := R.len u (h u List.mem_cons_self)
    have ih := Rec.row_set hj (L := L) (fun u hu => h u (List.mem_cons_of_mem _ hu)) i s (by simpa using hi) hx
    show R.cells u ++ R.row (L.set i s') = (R.cells u ++ R.row L).set ((i + 1) * R.k + j) x
    have e : (i + 1) * R.k + j = R.k + (i * R.k + j) := by rw [Nat.add_mul, Nat.one_mul]; omega
    rw [e, List.set_append_right _ _ (by omega), h1, Nat.add_sub_cancel_left, ih]
theorem OwnR.setCell {T : TypeId} {B g n q i j : Nat} {w : World} {L : List α} {s s' : α} {x : Value} (h : OwnR R T B w (.slice (some ⟨g, 0, none⟩) n q) L) (hs : L[i]? = some s) (hok : R.ok s') (hj : j < R.k) (hx : R.cells s' = (R.cells s).set j x) :
    OwnR R T B (w.setCell ⟨g, i * R.k + j, none⟩ x) (.slice (some ⟨g, 0, none⟩) n q) (L.set i s') := by
  obtain ⟨hall, hl, ⟨e, h0⟩ | ⟨G, cap, cur, e, hg, hh, hn, hm, hc, ht⟩⟩ := h
  · cases e
  · injection e with e1 e2 e3
    injection e1 with e1
    injection e1 with e1
    subst e1
    subst e2
    subst e3
    have hmem : ∀ t, t ∈ L.set i s' → R.ok t := fun t ht' => by
      rcases List.mem_or_eq_of_mem_set ht' with h1 | h1
      · exact hall t h1
      · rw [h1]; exact hok
    have hH : Has (w.setCell ⟨g, i * R.k + j, none⟩ x) g T (cur.setIfInBounds (i * R.k + j) x) := (show Has w g T cur from hh).put _ _
    refine ⟨hmem, R.row_len hmem, .inr ⟨g, q, _, by rw [List.length_set], hg, hH, by rw [List.length_set]; exact hn, hm, by rw [Array.size_setIfInBounds]; exact hc, ?_⟩⟩
    rw [Rec.row_set hj hall i s hs hx, Array.toList_setIfInBounds, List.take_set, List.length_set, ht]
end
theorem ownr_block {α : Type} {R : Rec α} {T : TypeId} {B k : Nat} {w : World} {v : Value} {L : List α} (h : OwnR R T B w v L) (hk : v.ownBlock = some k) : ∃ cs, Has w k T cs := by
  rcases h.2.2 with ⟨rfl, _⟩ | ⟨j, cap, cur, rfl, _, h2, _⟩
  · cases hk
  · have e : j = k := by simpa [Value.ownBlock] using hk
    subst e
    exact ⟨cur, h2⟩
theorem ownr_ne {α β : Type} {R : Rec α} {R' : Rec β} {T T' : TypeId} {B B' : Nat} {w : World} {a a' : Option Addr} {n n' q q' : Nat} {L : List α} {L' : List β} (hT : (T == T') = false) (h : OwnR R T B w (.slice a n q) L) (h' : OwnR R' T' B' w (.slice a' n' q') L') {j : Nat} (hj : (Value.slice a n q).ownBlock = some j) (hj' : (Value.slice a' n' q').ownBlock = some j) : False := by
  obtain ⟨cs, hh⟩ := ownr_block h hj
  obtain ⟨cs', hh'⟩ := ownr_block h' hj'
  exact Has.ne_type hh hh' (by intro e; rw [e] at hT; simp at hT) rfl
/-- two results: a variable's cells, a slot -/
theorem results_cellslot {P : Program} {fn : Func} {p q : Tmp} {ty : TypeId} (h : fn.results = #[.cell p ty, .tmp q]) (tmps : Array Value) (w : World) (g : Nat) (hp : tmps.getD p undef = .pointer (some ⟨g, 0, none⟩))
    (v u : Value) (hv : (loadVar ty ⟨g, 0, none⟩).run P w = .ok v w) (hu : tmps.getD q undef = u) : (results fn tmps).run P w = .ok (.tuple #[v, u]) w := by
  rw [Array.getD_eq_getD_getElem?] at hp hu
  simp only [results, h]
  simp [hp, hu, hv, asAddr]
end Go.Proofs.YtcedecljbgailaaDoor
