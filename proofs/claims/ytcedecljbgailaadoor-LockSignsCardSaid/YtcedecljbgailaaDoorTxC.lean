/- gossamernum's Copy -/
import Derived.Test.YtcedecljbgailaaDoorTxN
namespace Go.Proofs.YtcedecljbgailaaDoor
open Go Go.RowKit Go.ChangeShapes Go.WideShapes
/-- a transaction in memory of its own, made since block B -/
structure TxOwn (B : Nat) (w : World) (a : Option Addr) (n q : Nat) (b : Option Addr) (m r : Nat) (t : Tx.T) : Prop where
  sp : OwnR spRec 28 B w (.slice a n q) t.sp
  co : OwnR coRec 30 B w (.slice b m r) t.co
theorem OwnR.recs {α : Type} {R : Rec α} {T : TypeId} {B : Nat} {w : World} {a : Option Addr} {n q : Nat} {L : List α} (h : OwnR R T B w (.slice a n q) L) : Recs R w a n L ∧ n ≤ q ∧ (a = none → q = 0) := by
  obtain ⟨a', c', e, h1, h2, _, h3⟩ := h.shape rfl
  injection e with e1 e2 e3
  subst e1
  subst e2
  subst e3
  exact ⟨h3, h1, h2⟩
theorem TxOwn.at {B : Nat} {w : World} {a b : Option Addr} {n q m r : Nat} {t : Tx.T} (h : TxOwn B w a n q b m r t) : TxAt w a n q b m r t :=
  ⟨h.sp.recs.1, h.co.recs.1, h.sp.recs.2.1, h.co.recs.2.1, h.sp.recs.2.2, h.co.recs.2.2⟩
theorem TxOwn.below {B : Nat} {w w' : World} {a b : Option Addr} {n q m r : Nat} {t : Tx.T} (h : TxOwn B w a n q b m r t) (hb : Below w.heap.size w w') : TxOwn B w' a n q b m r t := ⟨h.sp.below hb, h.co.below hb⟩
theorem TxOwn.low {B B' : Nat} {w : World} {a b : Option Addr} {n q m r : Nat} {t : Tx.T} (h : TxOwn B w a n q b m r t) (hB : B' ≤ B) : TxOwn B' w a n q b m r t := ⟨h.sp.low hB, h.co.low hB⟩
def CopyPost (n m : Nat) (t : Tx.T) (w0 : World) (e : Ending) (w' : World) : Prop :=
  ∃ (a : Option Addr) (q : Nat) (b : Option Addr) (r : Nat), e = .returned (txv a n q b m r t.firm) ∧ TxOwn w0.heap.size w' a n q b m r t ∧ Below w0.heap.size w0 w'
set_option maxRecDepth 100000 in
set_option maxHeartbeats 8000000 in
theorem copy_any (a : Option Addr) (n q : Nat) (b : Option Addr) (m r : Nat) (t : Tx.T) (w : World) (ht : TxAt w a n q b m r t) (hn : n ≤ 1000000000) (hm : m ≤ 1000000000) :
    Calls Tryd.prog 14 #[txv a n q b m r t.firm] w (CopyPost n m t w) := by
  obtain ⟨f, hf⟩ : ∃ f, f = t.firm := ⟨_, rfl⟩
  have HF := Lib.hid hf
  rw [← hf]
  have HT := Lib.hid ht
  obtain ⟨hq0, hr0⟩ := And.intro ht.q0 ht.r0
  have HN := Lib.hid (And.intro ht.sp.1 ht.co.1)
  clear hf ht
  obtain ⟨W1, hW1⟩ : ∃ x, x = (w.alloc (.cells #[.slice a n q, .slice b m r, .bool f] 38)).alloc (.cells zTx 38) := ⟨_, rfl⟩
  have hBw : Below w.heap.size w W1 := by
    rw [hW1]
    exact ((Below.refl _ w).alloc (Nat.le_refl _) _).alloc (by simp) _
  have hX : Has W1 w.heap.size 38 #[.slice a n q, .slice b m r, .bool f] := by rw [hW1]; exact (Has.fresh w _ _).past _
  have hR : Has W1 (w.heap.size + 1) 38 zTx := by rw [hW1]; exact Has.fresh_at _ _ _ (by simp)
  have HW := Lib.hid hW1
  clear hW1
  go_enter Tryd.func14, Tryd.ntmps14
  go_upto_region 1 with fail
  rw [← HW.out]
  obtain ⟨g1, hg1⟩ : ∃ g, g = w.heap.size := ⟨_, rfl⟩
  have HG := Lib.hid hg1
  rw [← hg1] at hX hR ⊢
  clear hg1
  have hlt := hR.lt
  have p0 : (W1.alloc (.cells #[] 28)).cell? ⟨g1, 0, none⟩ = some (.slice a n q) := (hX.past _).cell_at rfl
  go_upto_region 2 with (first
    | (at_builtin; have hoE : OwnR spRec 28 W1.heap.size (W1.alloc (.cells #[] 28)) (.slice (some ⟨W1.heap.size, 0, none⟩) 0 0) [] := OwnR.empty (Nat.le_refl _) (Has.fresh W1 _ _); refine wpList_append_recs (R := spRec) rfl (.tmp 3) (.tmp 5) 35 rfl 28 Tryd.underlying35 info_spend rfl (by decide) W1.heap.size _ [] rfl hoE a n q t.sp rfl ((HT.out.sp.below hBw).past _) hq0 (by simp; omega) (by simp) ?_; intro va w2 ho2 hgr2 hl2; rw [List.nil_append] at ho2; have hB2 := below_own_recs ((Below.refl W1.heap.size W1).alloc (Nat.le_refl _) _) hgr2 hoE.lt; have hX2 := hX.under hB2 hX.lt; have hR2 := hR.under hB2 hR.lt; have l2 := hX2.loose 0; have c2 : w2.cell? ⟨g1, 0, none⟩ = some (.slice a n q) := hX2.cell_at rfl; obtain ⟨oa, oc, rfl, _⟩ := ho2.shape HN.out.1))
  obtain ⟨w3, hw3⟩ : ∃ x, x = w2.setCell ⟨g1, 0, none⟩ (.slice oa n oc) := ⟨_, rfl⟩
  have hX3 : Has w3 g1 38 #[.slice oa n oc, .slice b m r, .bool f] := by rw [hw3]; exact hX2.put 0 _
  have hR3 : Has w3 (g1 + 1) 38 zTx := by rw [hw3]; exact hR2.aside (by show g1 + 1 ≠ g1; omega) _
  have hM3 : Moved (fun k => k = g1) w2 w3 := by rw [hw3]; exact Moved.put (F := fun k => k = g1) (Moved.refl _ _) (.inl rfl) 0 _
  have ho3 := ho2.moved hM3 (fun k hk e => by have := ho2.lt k hk; omega)
  have hS3 : Below w.heap.size w w3 := by
    rw [hw3, HG.out]
    exact (hBw.trans (hB2.mono hBw.size)).setCell (p := ⟨w.heap.size, 0, none⟩) (Nat.le_refl _) _
  rw [← hw3]
  clear hw3 hM3 hX2 hR2 ho2 hB2 hgr2 hl2 l2 c2 hoE p0
  have p1 : (w3.alloc (.cells #[] 30)).cell? ⟨g1, 1, none⟩ = some (.slice b m r) := (hX3.past _).cell_at rfl
  go_upto_region 3 with (first
    | (at_builtin; have hoE : OwnR coRec 30 w3.heap.size (w3.alloc (.cells #[] 30)) (.slice (some ⟨w3.heap.size, 0, none⟩) 0 0) [] := OwnR.empty (Nat.le_refl _) (Has.fresh w3 _ _); refine wpList_append_recs (R := coRec) rfl (.tmp 8) (.tmp 10) 36 rfl 30 Tryd.underlying36 info_coin rfl (by decide) w3.heap.size _ [] rfl hoE b m r t.co rfl ((HT.out.co.below hS3).past _) hr0 (by simp; omega) (by simp) ?_; intro vb w4 ho4 hgr4 hl4; rw [List.nil_append] at ho4; have hB4 := below_own_recs ((Below.refl w3.heap.size w3).alloc (Nat.le_refl _) _) hgr4 hoE.lt; have hX4 := hX3.under hB4 hX3.lt; have hR4 := hR3.under hB4 hR3.lt; have l4 := hX4.loose 1; have c4 : w4.cell? ⟨g1, 1, none⟩ = some (.slice b m r) := hX4.cell_at rfl; obtain ⟨ob, od, rfl, _⟩ := ho4.shape HN.out.2))
  obtain ⟨w5, hw5⟩ : ∃ x, x = w4.setCell ⟨g1, 1, none⟩ (.slice ob m od) := ⟨_, rfl⟩
  have hX5 : Has w5 g1 38 #[.slice oa n oc, .slice ob m od, .bool f] := by rw [hw5]; exact hX4.put 1 _
  have hR5 : Has w5 (g1 + 1) 38 zTx := by rw [hw5]; exact hR4.aside (by show g1 + 1 ≠ g1; omega) _
  have hM5 : Moved (fun k => k = g1) w4 w5 := by rw [hw5]; exact Moved.put (F := fun k => k = g1) (Moved.refl _ _) (.inl rfl) 1 _
  have ho5 := (ho3.below hB4).moved hM5 (fun k hk e => by have := ho3.lt k hk; omega)
  have hc5 := ho4.moved hM5 (fun k hk e => by have := ho4.lt k hk; have := hX3.lt; omega)
  have hS5 : Below w.heap.size w w5 := by
    rw [hw5, HG.out]
    exact (hS3.trans (hB4.mono hS3.size)).setCell (p := ⟨w.heap.size, 1, none⟩) (Nat.le_refl _) _
  have hlo : w.heap.size ≤ W1.heap.size := hBw.size
  have hlo2 : w.heap.size ≤ w3.heap.size := hS3.size
  have hs13 : g1 + 1 < w3.heap.size := hR3.lt
  rw [← hw5]
  clear hw5 hM5 hX4 hR4 ho4 hB4 hgr4 hl4 l4 c4 hoE p1 ho3 hX3 hR3
  have lX := hX5.load_agg (P := Tryd.prog) (t := 38) Tryd.underlying38 rfl (by kernel_rfl)
  go_wp2_with (first
    | (refine wpList_store_mid rfl 38 (.tmp 2) (.tmp 13) rfl (g1 + 1) 0 #[.slice oa n oc, .slice ob m od, .bool f] rfl rfl (hR5.there 0 3 (Nat.le_refl _)) (by kernel_rfl) (vRec.all_one ⟨oa, n, oc, ob, m, od, ⟨[], [], f⟩⟩) ?_)
    | (refine wpList_load_run rfl 38 (.tmp 1) rfl _ _ rfl lX ?_))
  obtain ⟨w6, hw6⟩ : ∃ x, x = w5.setCells (g1 + 1) 0 (#[.slice oa n oc, .slice ob m od, .bool f] : Array Value).toList := ⟨_, rfl⟩
  have hR6 : Has w6 (g1 + 1) 38 #[.slice oa n oc, .slice ob m od, .bool f] := by rw [hw6]; exact hR5.whole_cs rfl
  have hM6 : Moved (fun k => k = g1 + 1) w5 w6 := by rw [hw6]; exact Moved.putAll (F := fun k => k = g1 + 1) (.inl rfl) _ 0 (Moved.refl _ _)
  have ho6 := ho5.moved hM6 (fun k hk e => by have := ho5.lt k hk; omega)
  have hc6 := hc5.moved hM6 (fun k hk e => by have := hc5.lt k hk; omega)
  rw [← hw6]
  refine bodyPost_ret (results_one_cell rfl _ _ (g1 + 1) rfl _ (hR6.load_var Tryd.underlying38 rfl (by kernel_rfl))) rfl ⟨oa, oc, ob, od, by rw [HF.out], ⟨ho6.low hlo, hc6.low hlo2⟩, ?_⟩
  rw [hw6]
  exact below_setAll (by have := HG.out; omega) _ 0 hS5
end Go.Proofs.YtcedecljbgailaaDoor
