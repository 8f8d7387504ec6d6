/- what the rows list of package-level tables (as digest's DgL, over fewer texts) · ChainBack: the walk -/
import Derived.Test.YtdfplenniamnoaaGreatDoorRows
import Derived.Test.YtdfplenniamnoaaGreatDoorJ14
import Derived.Test.YtdfplenniamnoaaGreatDoorJ36
import Derived.Test.YtdfplenniamnoaaGreatDoorJ29
import Derived.SizedLaws
/-! what the rows list of package-level tables (as digest's DgL, over fewer texts) -/
namespace Go.Proofs.YtdfplenniamnoaaGreatDoor
open Go Go.RowKit Go.ChangeShapes Go.WideShapes
theorem tlaid_dg {W : World} {ps : List MemPlace} (h : DataW.LaidVars Tryz.prog W [("gossamer/digest.start", Rows.laid_gossamer_digest_start), ("gossamer/digest.constants", Rows.laid_gossamer_digest_constants)] ps) : KDg W := by
  obtain ⟨h1, q, h2⟩ := laid_tab (g := 0) (t := 213) (e := 212) (k := 8) (l := Dg.startL) h (by kernel_rfl) (by kernel_rfl) Tryz.underlying213 Tryz.underlying212 (by kernel_rfl) rfl
  obtain ⟨h3, _⟩ := laid_tab (g := 2) (t := 232) (e := 212) (k := 64) (l := Dg.kL) h2 (by kernel_rfl) (by kernel_rfl) Tryz.underlying232 Tryz.underlying212 (by kernel_rfl) rfl
  exact ⟨h3, h1⟩
theorem tlaid_dg2 {W : World} (h : laidMetH Tryz.prog [("gossamer/digest.start", Rows.laid_gossamer_digest_start), ("gossamer/digest.constants", Rows.laid_gossamer_digest_constants)] W) : KDg W := by
  rw [MakeChecks.laidMetH_plain _ _ _ (by kernel_rfl)] at h
  obtain ⟨ps, h, _⟩ := h
  exact tlaid_dg h
end Go.Proofs.YtdfplenniamnoaaGreatDoor

/-! ChainBack: the walk -/
namespace Go.Proofs.YtdfplenniamnoaaGreatDoor
open Go Go.RowKit Go.ChangeShapes Go.WideShapes
/-- a slice's reading has as many elements as the slice -/
theorem Ch.read_len {H : Type} {enc : TypeId × Value → H} {P : Program} {W : World} {t e : TypeId} {a : Option Addr} {n c : Nat} {d : DataW H} {p : List MemPlace} (ht : P.underlying t = some (.slice e)) (h : DataW.Trod enc P W 0 (fun _ => true) true t (.slice a n c) d p) :
    n = 0 ∨ ∃ es sp, d = .slice es sp ∧ es.length = n := by
  obtain ⟨fuel, hf⟩ := h
  rcases Go.Deep.open_slice ht hf with ⟨hcs, _⟩ | ⟨x, len, cap, m, q, D, Pl, hcs, _, hl, hm, hmm, hx, hcell⟩
  · simp [Value.cells] at hcs
    exact .inl hcs.2.1
  · simp [Value.cells] at hcs
    obtain ⟨_, rfl, _⟩ := hcs
    exact .inr ⟨_, _, (Prod.mk.inj hx).1, by simp⟩
theorem Ch.read_bound {H : Type} {P : Program} {ts : List TypeId} {ds : List (DataW H)} (sz : (DataW.weightsEach P ts ds).all (fun x => decide (x ≤ reachBytes)) = true) {j : Nat} {t e : TypeId} {d : DataW H} (ht : ts[j]? = some t) (hd : ds[j]? = some d) (hu : P.underlying t = some (.slice e)) (hb : P.bytesOf e = 96)
    {n : Nat} (hn : n = 0 ∨ ∃ es sp, d = .slice es sp ∧ es.length = n) : n * 96 ≤ 140737488355328 := by
  rcases hn with rfl | ⟨es, sp, rfl, rfl⟩
  · omega
  · have := sized_slice sz ht hd hu
    rw [hb] at this
    simp only [reachBytes] at this
    omega
set_option maxRecDepth 100000 in
theorem chainBackWalk {H : Type} {enc : TypeId × Value → H} (W : World) (base : Nat) (v0 : Value) (d0 : DataW H) (p0 : List MemPlace) (v1 : Value) (d1 : DataW H) (p1 : List MemPlace) (v2 : Value) (d2 : DataW H) (p2 : List MemPlace)
    (o0 : Value.okWide Tryz.prog W .any base 32 v0) (o1 : Value.okWide Tryz.prog W .any base 68 v1) (o2 : Value.okWide Tryz.prog W .any base 77 v2)
    (h0 : DataW.Trod enc Tryz.prog W 0 (fun _ => true) true 32 v0 d0 p0) (h1 : DataW.Trod enc Tryz.prog W 0 (fun _ => true) true 68 v1 d1 p1) (h2 : DataW.Trod enc Tryz.prog W 0 (fun _ => true) true 77 v2 d2 p2) (hL : laidMetH Tryz.prog Rows.chainBackRow.laid W)
    (sz : (DataW.weightsEach Tryz.prog [32, 68, 77] [d0, d1, d2]).all (fun x => decide (x ≤ reachBytes)) = true) :
    Calls Tryz.prog 6 #[v0, v1, v2] W fun e w' => e = .returned (.bool true) ∧ Below W.heap.size W w' := by
  obtain ⟨a, n, q, L, rfl, ha, h3, h4⟩ := arg_haves o0 h0
  obtain ⟨b, m, r, K, rfl, hk, h5, h6⟩ := arg_acts13 o1 h1
  obtain ⟨c, k, l, vs, rfl, ht, h7, h8⟩ := arg_txs o2 h2
  have hm : m * 96 ≤ 140737488355328 := Ch.read_bound sz (j := 1) rfl rfl Tryz.underlying68 (by kernel_rfl) (Ch.read_len Tryz.underlying68 h1)
  exact chbackMain a n q L b m r K c k l vs ha hk ⟨h5, h6⟩ (ht.txs (Below.refl _ _)) ⟨h7, h8⟩ hm (tlaid_dg2 hL)
end Go.Proofs.YtdfplenniamnoaaGreatDoor
