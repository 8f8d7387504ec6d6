/- A region that only reads, walked in a context of its own: what it makes of the frame is told first. Nothing of the program. -/
import Derived.WalkKit
import Derived.StillTailTactics
namespace Go.Proofs.YtopeicgcpfcccaaDoor
open Go Go.RowKit
theorem stillUpon_mono {P : Program} {o : Oper} {a : Act} {w : World} {K K' : Act → Prop} (hk : ∀ a, K a → K' a) (r : Result Next) (h : o.stillUpon P a w K r) : o.stillUpon P a w K' r := by
  unfold Oper.stillUpon at h ⊢
  split at h
  · exact ⟨h.1, hk _ h.2⟩
  · exact ⟨h.1, hk _ h.2⟩
  · obtain ⟨h1, v, h2, h3⟩ := h
    exact ⟨h1, v, h2, hk _ h3⟩
  · exact h.elim
theorem wpStill_mono {P : Program} {ops : Array Oper} {w : World} {Q Q' : Act → Prop} (hq : ∀ a, Q a → Q' a) : ∀ (l : List Oper) (a : Act), wpStill P ops w Q l a → wpStill P ops w Q' l a
  | [], a, h => hq a h
  | o :: rest, a, h => by
    unfold wpStill at h ⊢
    split at h
    · rename_i hw
      rw [if_pos hw]
      exact stillUpon_mono (wpStill_mono hq rest) _ h
    · rename_i hw
      rw [if_neg hw]
      exact wpStill_mono hq rest _ h
theorem still_then {P : Program} {ops : Array Oper} {w : World} {Q : Act → Prop} {l : List Oper} {a : Act} (A : Act) (h : wpStill P ops w (fun a' => a' = A) l a) (hq : Q A) : wpStill P ops w Q l a :=
  wpStill_mono (fun _ e => by rw [e]; exact hq) l a h
end Go.Proofs.YtopeicgcpfcccaaDoor
