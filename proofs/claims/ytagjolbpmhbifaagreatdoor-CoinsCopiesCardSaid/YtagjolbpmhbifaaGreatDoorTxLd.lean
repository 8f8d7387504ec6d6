/- what the rows list of package-level tables (as digest's DgL, over fewer texts) -/
import Derived.Test.YtagjolbpmhbifaaGreatDoorRows
import Derived.Test.YtagjolbpmhbifaaGreatDoorDgv
namespace Go.Proofs.YtagjolbpmhbifaaGreatDoor
open Go Go.RowKit Go.ChangeShapes Go.WideShapes
theorem tlaid_dg {W : World} {ps : List MemPlace} (h : DataW.LaidVars Tryz.prog W [("gossamer/digest.start", Rows.laid_gossamer_digest_start), ("gossamer/digest.constants", Rows.laid_gossamer_digest_constants)] ps) : KDg W := by
  obtain ⟨h1, q, h2⟩ := laid_tab (g := 0) (t := 144) (e := 143) (k := 8) (l := Dg.startL) h (by kernel_rfl) (by kernel_rfl) Tryz.underlying144 Tryz.underlying143 (by kernel_rfl) rfl
  obtain ⟨h3, _⟩ := laid_tab (g := 1) (t := 164) (e := 143) (k := 64) (l := Dg.kL) h2 (by kernel_rfl) (by kernel_rfl) Tryz.underlying164 Tryz.underlying143 (by kernel_rfl) rfl
  exact ⟨h3, h1⟩
theorem tlaid_dg2 {W : World} (h : laidMetH Tryz.prog [("gossamer/digest.start", Rows.laid_gossamer_digest_start), ("gossamer/digest.constants", Rows.laid_gossamer_digest_constants)] W) : KDg W := by
  rw [MakeChecks.laidMetH_plain _ _ _ (by kernel_rfl)] at h
  obtain ⟨ps, h, _⟩ := h
  exact tlaid_dg h
theorem tlaid_dg3 {W : World} (h : laidMetH Tryz.prog [("gossamer/gossamerref07.k", Rows.laid_gossamer_gossamerref07_k), ("gossamer/digest.start", Rows.laid_gossamer_digest_start), ("gossamer/digest.constants", Rows.laid_gossamer_digest_constants)] W) : KDg W ∧ Tab32 W 2 Dg.kL := by
  rw [MakeChecks.laidMetH_plain _ _ _ (by kernel_rfl)] at h
  obtain ⟨ps, h, _⟩ := h
  obtain ⟨h1, q, h2⟩ := laid_tab (g := 2) (t := 164) (e := 143) (k := 64) (l := Dg.kL) h (by kernel_rfl) (by kernel_rfl) Tryz.underlying164 Tryz.underlying143 (by kernel_rfl) rfl
  exact ⟨tlaid_dg h2, h1⟩
end Go.Proofs.YtagjolbpmhbifaaGreatDoor
